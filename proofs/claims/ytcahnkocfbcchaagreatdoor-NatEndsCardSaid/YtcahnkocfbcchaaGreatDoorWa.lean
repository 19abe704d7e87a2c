/- The walks of nat's small calls: row, right, the steps of a sum, a difference, a product and a change of base. What each call tells, and that it changes nothing. Conditions as each theorem names them. -/
import Derived.Test.YtcahnkocfbcchaaGreatDoorMath
import Derived.Test.YtcahnkocfbcchaaGreatDoorBits
import Derived.Test.YtcahnkocfbcchaaGreatDoorProg
import Derived.WalkKit
import Derived.WalkSpells
import Derived.WalkLawsBesides
import Derived.LoopTactic
import Derived.RegionTactic
import Derived.Deep.QuietTactic
import Derived.BigQuiet
import Derived.Deep.RegionWith
import Derived.Outline
import Derived.Lib.Hide
import Derived.Laws.BitsAllLaws

namespace Go.Proofs.YtcahnkocfbcchaaGreatDoor
open Go.RowKit Tnd

/-- a slice of numbers of one kind: its cells. -/
def Sl (w : World) (k : IntKind) (p : Option Addr) (l : List Nat) : Prop :=
  l = [] ∨ ∃ b off, p = some ⟨b, off, none⟩ ∧ ∀ i, i < l.length → w.cell? ⟨b, off + i, none⟩ = some (.int k (gd l i : Nat))


theorem ret2 {k1 k2 : IntKind} {a b a' b' : Int} (h1 : a = a') (h2 : b = b') : Ending.returned (.tuple #[.int k1 a, .int k2 b]) = Ending.returned (.tuple #[.int k1 a', .int k2 b']) := by rw [h1, h2]

theorem add32_any (a b c : Nat) (w : World) (ha : a < 4294967296) (hb : b < 4294967296) (hc : c < 4294967296) :
    Calls Tryz.prog 64 #[.int .u32 a, .int .u32 b, .int .u32 c] w fun e w' =>
      e = .returned (.tuple #[.int .u32 ((addF a b c).1 : Nat), .int .u32 ((addF a b c).2 : Nat)]) ∧ w = w' := by
  go_enter Tryz.func64, Tryz.ntmps64
  go_wp2
  go_ret2
  exact ⟨ret2 (by simp only [addF]; omega) (by simp only [addF]; omega), rfl⟩


theorem mul_bound (a b x y : Nat) (ha : a ≤ x) (hb : b ≤ y) : a * b ≤ x * y := Nat.mul_le_mul ha hb

theorem scale_nums (a c fr to : Nat) (ha : a < to) (hc : c < fr) (hf : fr ≤ 4294967296) (ht' : to ≤ 4294967296) :
    0 ≤ (a : Int) * fr ∧ (a : Int) * fr ≤ 18446744069414584320 ∧ 0 ≤ ((a : Int) * fr + c) % to ∧ ((a : Int) * fr + c) % to ≤ 4294967295 ∧ 0 ≤ ((a : Int) * fr + c) / to ∧ ((a : Int) * fr + c) / to ≤ 4294967295 ∧ ((a : Int) * fr + c) / to < fr := by
  have h0 : ((a : Int) * fr + c) = ((a * fr + c : Nat) : Int) := by push_cast; rfl
  have h1 : a * fr ≤ 4294967295 * 4294967296 := mul_bound a fr _ _ (by omega) hf
  have h2 : (a * fr + c) / to < fr := by
    rw [Nat.div_lt_iff_lt_mul (by omega)]
    have := Nat.mul_le_mul_right fr (show a + 1 ≤ to by omega)
    rw [Nat.add_mul] at this
    have e : fr * to = to * fr := Nat.mul_comm ..
    omega
  have h3 := Nat.mod_lt (a * fr + c) (show to > 0 by omega)
  rw [h0, ← Int.natCast_emod, ← Int.natCast_ediv]
  generalize (a * fr + c) % to = r at *
  generalize (a * fr + c) / to = q at *
  have e : (a : Int) * fr = ((a * fr : Nat) : Int) := by push_cast; rfl
  rw [e]
  omega

theorem scale_any (a b c fr to : Nat) (p1 p2 : Addr) (w : World) (ha : a < to) (hc : c < fr)
    (h1 : w.cell? p1 = some (.int .u64 fr)) (h2 : w.cell? p2 = some (.int .u64 to)) (hf : fr ≤ 4294967296) (ht' : to ≤ 4294967296) :
    Calls Tryz.prog 71 #[.int .u32 a, .int .u32 b, .int .u32 c, .pointer (some p1), .pointer (some p2)] w fun e w' =>
      e = .returned (.tuple #[.int .u32 ((scaleF fr to a b c).1 : Nat), .int .u32 ((scaleF fr to a b c).2 : Nat)]) ∧ ∃ n, w' = w.drewN n := by
  go_enter Tryz.func71, Tryz.ntmps71
  have hn := scale_nums a c fr to ha hc hf ht'
  obtain ⟨n1, n2, n3, n4, n5, n6, n7⟩ := hn
  have ht1 : 1 ≤ (to : Int) := by omega
  go_wp2
  go_region
  go_wp2
  go_ret2
  exact ⟨ret2 (by simp only [scaleF]; push_cast; rfl) (by simp only [scaleF]; push_cast; rfl), 1, rfl⟩


theorem mulF_1 (m a b c : Nat) : ((m : Int) * b + a + c) % 4294967296 = ((mulF m a b c).1 : Nat) := by
  simp only [mulF]
  rw [Int.natCast_emod, Int.natCast_add, Int.natCast_add, Int.natCast_mul]
  rfl
theorem mulF_2 (m a b c : Nat) : ((m : Int) * b + a + c) / 4294967296 = ((mulF m a b c).2 : Nat) := by
  simp only [mulF]
  rw [Int.natCast_ediv, Int.natCast_add, Int.natCast_add, Int.natCast_mul]
  rfl
theorem mulS_nums (m b : Nat) (hm : m < 4294967296) (hb : b < 4294967296) :
    0 ≤ (m : Int) * b ∧ (m : Int) * b ≤ 18446744065119617025 := by
  have h1 : m * b ≤ 4294967295 * 4294967295 := mul_bound m b _ _ (by omega) (by omega)
  have e : (m : Int) * b = ((m * b : Nat) : Int) := by push_cast; rfl
  rw [e]
  omega

theorem mulS_any (m a b c : Nat) (p : Addr) (w : World) (hm : m < 4294967296) (hb : b < 4294967296) (ha : a < 4294967296) (hc : c < 4294967296)
    (h1 : w.cell? p = some (.int .u32 m)) :
    Calls Tryz.prog 98 #[.int .u32 a, .int .u32 b, .int .u32 c, .pointer (some p)] w fun e w' =>
      e = .returned (.tuple #[.int .u32 ((mulF m a b c).1 : Nat), .int .u32 ((mulF m a b c).2 : Nat)]) ∧ w = w' := by
  obtain ⟨n1, n2⟩ := mulS_nums m b hm hb
  go_enter Tryz.func98, Tryz.ntmps98
  go_wp2
  go_ret2
  exact ⟨ret2 (mulF_1 m a b c) (mulF_2 m a b c), rfl⟩

theorem sub_any (a b c : Nat) (w : World) (ha : a < 4294967296) (hb : b < 4294967296) (hc : c ≤ 1) :
    Calls Tryz.prog 66 #[.int .u32 a, .int .u32 b, .int .u32 c] w fun e w' =>
      e = .returned (.tuple #[.int .u32 ((subF a b c).1 : Nat), .int .u32 ((subF a b c).2 : Nat)]) ∧ w = w' := by
  go_enter Tryz.func66, Tryz.ntmps66
  go_wp2
  go_ret2
  exact ⟨ret2 (diff_int a b c hb hc) (borrow_bits a b c ha hb hc), rfl⟩

end Go.Proofs.YtcahnkocfbcchaaGreatDoor
