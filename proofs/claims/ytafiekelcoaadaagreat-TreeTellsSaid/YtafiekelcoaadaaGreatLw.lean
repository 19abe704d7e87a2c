/- The walks of cmp.Compare and cmp.Or; begun's comparison. -/
import Derived.Test.YtafiekelcoaadaaGreatLv
import Derived.Test.YtafiekelcoaadaaGreatShelf
import Derived.StillTailTactics

namespace Go.Proofs.YtafiekelcoaadaaGreat
open Go.RowKit Tnr Tnt Go.Sort Go.Shelf

set_option maxHeartbeats 800000 in
theorem compare_any (x y : Int) (w : World) : Calls Tryz.prog 165 #[.int .i64 x, .int .i64 y] w fun e w' => e = .returned (.int .i64 (Lib.compareInt x y)) ∧ w' = w := by
  have HN : Hid (∀ (x : Int) (w : World), Calls Tryz.prog 177 #[.int .i64 x] w fun e w' => e = .returned (.bool false) ∧ w' = w) := fun x w => Tryz.cmp_isNaN_int x w
  have HC : Hid (Lib.compareInt x y = if x < y then -1 else if y < x then 1 else 0) := by
    show Lib.compareInt x y = _
    unfold Lib.compareInt
    by_cases h1 : x < y
    · simp [h1]
    · by_cases h2 : y < x <;> simp [h1, h2]
  by_cases h1 : x < y
  · go_enter Tryz.func165, Tryz.ntmps165
    go_wp2_with (go_at_call 177; refine (HN.out _ _).mono ?_; rintro e w' ⟨rfl, rfl⟩)
    go_ret
    exact ⟨by rw [HC.out, if_pos h1]; rfl, rfl⟩
  · by_cases h2 : y < x
    · go_enter Tryz.func165, Tryz.ntmps165
      go_wp2_with (go_at_call 177; refine (HN.out _ _).mono ?_; rintro e w' ⟨rfl, rfl⟩)
      go_ret
      exact ⟨by rw [HC.out, if_neg (by omega), if_pos h2]; rfl, rfl⟩
    · go_enter Tryz.func165, Tryz.ntmps165
      go_wp2_with (go_at_call 177; refine (HN.out _ _).mono ?_; rintro e w' ⟨rfl, rfl⟩)
      go_ret
      exact ⟨by rw [HC.out, if_neg (by omega), if_neg (by omega)]; rfl, rfl⟩
def orI (a b : Int) : Int := if a = 0 then b else a
/-- the first of two that is not nought. -/
theorem or_any (a b : Int) (blk : Nat) (w : World) (h0 : w.cell? ⟨blk, 0, none⟩ = some (.int .i64 a)) (h1 : w.cell? ⟨blk, 1, none⟩ = some (.int .i64 b)) : Calls Tryz.prog 164 #[.slice (some ⟨blk, 0, none⟩) 2 2] w fun e w' => e = .returned (.int .i64 (orI a b)) ∧ w' = w := by
  have HC : Hid (orI a b = if a = 0 then b else a) := rfl
  go_enter Tryz.func164, Tryz.ntmps164
  go_wp2
  go_loopw [8] (fun iv wr => ∃ k : Nat, k ≤ 2 ∧ iv = .int .i64 (k : Nat) ∧ Hid (1 ≤ k → a = 0) ∧ Hid (2 ≤ k → b = 0) ∧ wr = w) (fun iv _ => 2 - (intOf iv).toNat)
  case atStart => exact ⟨0, by omega, rfl, fun h => absurd h (by omega), fun h => absurd h (by omega), rfl⟩
  case round =>
    obtain ⟨k, hk, rfl, HA, HB, rfl⟩ := hrel
    rcases k with _ | _ | _ | k
    · by_cases ha : a = 0
      · have e1 : (a != 0) = false := by simpa using ha
        have HX := Lib.hid ha
        clear ha
        go_wp2
        go_roundw
        case rel => exact ⟨1, by omega, rfl, fun _ => HX.out, fun h => absurd h (by omega), by first | rfl | trivial⟩
        case measure => simp [intOf]
      · have e1 : (a != 0) = true := by simpa using ha
        have HX := Lib.hid ha
        clear ha
        go_wp2
        go_ret
        exact ⟨by rw [HC.out, if_neg HX.out]; rfl, rfl⟩
    · by_cases hb : b = 0
      · have e1 : (b != 0) = false := by simpa using hb
        have HX := Lib.hid hb
        clear hb
        go_wp2
        go_roundw
        case rel => exact ⟨2, by omega, rfl, fun _ => HA.out (by omega), fun _ => HX.out, by first | rfl | trivial⟩
        case measure => simp [intOf]
      · have e1 : (b != 0) = true := by simpa using hb
        have HX := Lib.hid hb
        clear hb
        go_wp2
        go_ret
        exact ⟨by rw [HC.out, if_pos (HA.out (by omega))]; rfl, rfl⟩
    · go_wp2
      go_ret
      exact ⟨by rw [HC.out, if_pos (HA.out (by omega)), HB.out (by omega)]; rfl, rfl⟩
    · omega

/-- begun's comparison: two places by where what they cover begins, the greater one first. -/
def cfB (fs : List Int) (a b : Int) : Int := orI (Lib.compareInt (gz fs a.toNat) (gz fs b.toNat)) (Lib.compareInt b a)
set_option maxHeartbeats 1600000 in
set_option maxRecDepth 100000 in
theorem begun1_any (fs : List Int) (tb m : Nat) (T : Array Value) (pf : Option Addr) (cf a b : Nat) (w : World) (hT : Bx w tb 68 T) (h1 : T[1]? = some (.slice pf m cf)) (hm : m = fs.length) (hS : SlZ w pf fs) (ha : a < m) (hb : b < m) (_hl : m ≤ 1000000) :
    Calls Tryz.prog 163 #[.int .i64 (a : Nat), .int .i64 (b : Nat), .pointer (some ⟨tb, 0, none⟩)] w fun e w' => e = .returned (.int .i64 (cfB fs (a : Nat) (b : Nat))) ∧ ∃ q os', w' = grow (w.drewN q) os' := by
  have hc := hT.cell h1
  rcases hS with h0 | ⟨g, o, rfl, hcs⟩
  · rw [h0] at hm; simp at hm; omega
  have ca := hcs a (by omega)
  have cb := hcs b (by omega)
  obtain ⟨x, hx⟩ : ∃ x, x = gz fs a := ⟨_, rfl⟩
  obtain ⟨y, hy⟩ : ∃ x, x = gz fs b := ⟨_, rfl⟩
  rw [← hx] at ca
  rw [← hy] at cb
  have HCF : Hid (cfB fs (a : Nat) (b : Nat) = orI (Lib.compareInt x y) (Lib.compareInt (b : Nat) (a : Nat))) := by show _ = _; unfold cfB; rw [hx, hy]; simp
  have haI : ((a : Nat) : Int) < m := by omega
  have hbI : ((b : Nat) : Int) < m := by omega
  clear hcs hT h1 hm hx hy
  go_enter Tryz.func163, Tryz.ntmps163
  go_wp2
  go_still_tail 14, (by kernel_rfl)
  still_call (compare_any _ _ _)
  repeat still_step
  still_call (compare_any _ _ _)
  refine wpStill_nil ?_
  obtain ⟨W1, hW1⟩ : ∃ W, W = (w.alloc (.cells #[.int .i64 (Lib.compareInt x y), .int .i64 (Lib.compareInt (b : Nat) (a : Nat))] 3)).drew := ⟨_, rfl⟩
  have hX : Bx W1 w.heap.size 3 #[.int .i64 (Lib.compareInt x y), .int .i64 (Lib.compareInt (b : Nat) (a : Nat))] := by rw [hW1]; exact Bx.new w _ _
  have HO := Lib.hid (or_any _ _ w.heap.size W1 (hX.cell rfl) (hX.cell rfl))
  have HW1 : Hid (∃ q os', W1 = grow (w.drewN q) os') := ⟨1, _, by rw [hW1, alloc_eq_grow]; rfl⟩
  rw [hW1] at HO HW1
  clear hW1 hX
  go_wp2_with (go_at_call 164; refine (HO.out).mono ?_; rintro e w' ⟨rfl, rfl⟩)
  go_ret
  exact ⟨by rw [HCF.out]; rfl, HW1.out⟩
end Go.Proofs.YtafiekelcoaadaaGreat
