/- The walks of Sub where the first is below the second, of Parse where there is a 0 ahead. -/
import Derived.Test.YtcahnkocfbcchaaGreatDoorWm
import Derived.Test.YtcahnkocfbcchaaGreatDoorWg

namespace Go.Proofs.YtcahnkocfbcchaaGreatDoor
open Go.RowKit Tnd

theorem txt64 : Lib.decDigits 18446744073709551616 = [49, 56, 52, 52, 54, 55, 52, 52, 48, 55, 51, 55, 48, 57, 53, 53, 49, 54, 49, 54] := by
  repeat (first | (rw [dec_small (by omega)]; done) | rw [dec_big (by omega)])
  rw [dec_small (by omega)]
  rfl

set_option maxRecDepth 100000 in
theorem sub_lt (p1 p2 : Option Addr) (c1 c2 : Nat) (l m : List Nat) (w : World) (h1 : NatIn w w.heap.size (.agg #[.slice p1 l.length c1]) l) (h2 : NatIn w w.heap.size (.agg #[.slice p2 m.length c2]) m) (hl : l.length ≤ 1000000) (hm : m.length ≤ 1000000) (hlt : nv 4294967296 l < nv 4294967296 m) :
    Calls Tryz.prog 9 #[.agg #[.slice p1 l.length c1], .agg #[.slice p2 m.length c2]] w fun e w' => e = .returned (.tuple #[.agg #[.slice none 0 0], .bool false]) ∧ Below w.heap.size w w' := by
  obtain ⟨w0, hw0⟩ : ∃ w0, w0 = ((w.alloc (.cells #[.slice p1 l.length c1] 24)).alloc (.cells #[.slice p2 m.length c2] 24)).alloc (.cells #[.slice none 0 0] 24) := ⟨_, rfl⟩
  have hB : Below w.heap.size w w0 := by subst hw0; exact (((Below.refl _ _).alloc (Nat.le_refl _) _).alloc (by simp) _).alloc (by simp; omega) _
  have hc1 : w0.cell? ⟨w.heap.size, 0, none⟩ = some (.slice p1 l.length c1) := by subst hw0; rw [World.cell?_alloc_past _ _ _ (by simp; omega), World.cell?_alloc_past _ _ _ (by simp), World.cell?_alloc_at _ _ _ _ rfl]; rfl
  have hc2 : w0.cell? ⟨w.heap.size + 1, 0, none⟩ = some (.slice p2 m.length c2) := by subst hw0; rw [World.cell?_alloc_past _ _ _ (by simp), World.cell?_alloc_at _ _ _ _ (by simp)]; rfl
  have hr : w0.heap[w.heap.size + 2]? = some (.cells #[.slice none 0 0] 24 (0, 0)) := by
    subst hw0
    have h := heap_alloc_new ((w.alloc (.cells #[.slice p1 l.length c1] 24)).alloc (.cells #[.slice p2 m.length c2] 24)) (.cells #[.slice none 0 0] 24)
    simpa using h
  have hs0 : w0.heap.size = w.heap.size + 3 := by subst hw0; simp
  have HC := Lib.hid (cmp_any _ _ l m w0 ((h1.below hB).up (by omega)) ((h2.below hB).up (by omega)) (by omega) (by omega))
  have ho : ord (nv 4294967296 l) (nv 4294967296 m) = -1 := by unfold ord; rw [if_pos hlt]
  have HO := Lib.hid ho
  have HB := Lib.hid hB
  have HR := Lib.hid hr
  have HW0 := Lib.hid hw0
  clear hw0 hB hr h1 h2 ho hlt
  go_enter Tryz.func9, Tryz.ntmps9
  go_wp2_with fail
  rw [← HW0.out]
  refine HC.out.mono ?_
  rintro e w1 ⟨rfl, hb1⟩
  rw [HO.out]
  have hr1 : w1.heap[w.heap.size + 2]? = some (.cells #[.slice none 0 0] 24 (0, 0)) := by rw [hb1.block _ (by omega)]; exact HR.out
  have hcr := cell_of_one hr1
  have hfr := free_of_one hr1
  have HB1 := Lib.hid hb1
  clear hr1 hb1 hc1 hc2
  go_wp2
  refine bodyPost_ret (v := .tuple #[.agg #[.slice none 0 0], .bool false]) (by simp [results, Tryz.results9, go_sem, hcr]) rfl ?_
  exact ⟨rfl, (HB.out.trans (HB1.out.mono (by omega))).setCell (by simp; omega) _⟩

set_option maxRecDepth 100000 in
theorem parse007 (w : World) : Calls Tryz.prog 28 #[.string ⟨#[48, 48, 55]⟩] w fun e w' => e = .returned (.tuple #[.agg #[.slice none 0 0], .bool false]) ∧ Below w.heap.size w w' := by
  go_enter Tryz.func28, Tryz.ntmps28
  go_wp2
  refine bodyPost_ret (v := .tuple #[.agg #[.slice none 0 0], .bool false]) (by simp [results, Tryz.results28, go_sem]) rfl ?_
  exact ⟨rfl, (Below.refl _ _).alloc (Nat.le_refl _) _⟩

theorem FNat.nat {w : World} {B : Nat} {v : Value} {n : Nat} (h : FNat w B v n) : ∃ p c l, v = .agg #[.slice p l.length c] ∧ NatIn w w.heap.size v l ∧ RightL l ∧ nv 4294967296 l = n ∧ Digs 4294967296 l ∧ Own w B 46 .u32 (.slice p l.length c) l := by
  obtain ⟨p, c, l, rfl, ho, hd, hr, hn⟩ := h
  obtain ⟨p', c', he, h1, h2, h3, _, _⟩ := own_form ho
  simp only [Value.slice.injEq, true_and] at he
  obtain ⟨rfl, rfl⟩ := he
  exact ⟨p, c, l, rfl, ⟨p, c, rfl, own_old ho, hd, h1, h2, h3⟩, hr, hn, hd, ho⟩
theorem of_int (z : Int) (n : Nat) (hz : z = (n : Nat)) (w : World) (hn : n < 18446744073709551616) :
    Calls Tryz.prog 18 #[.int .u64 z] w fun e w' => ∃ v, e = .returned v ∧ FNat w' w.heap.size v n ∧ Below w.heap.size w w' := by
  subst hz; exact of_any n w hn
theorem pow_int (z : Int) (n : Nat) (hz : z = (n : Nat)) (v : Value) (l : List Nat) (w : World) (hin : NatIn w w.heap.size v l) (hn : n ≤ 9223372036854775807) (hl : l.length ≤ 10000000000) (hb : nv 4294967296 l ^ n < tooBig) :
    Calls Tryz.prog 24 #[v, .int .i64 z] w fun e w' =>
      ∃ v, e = .returned (.tuple #[v, .int .i64 0]) ∧ FNat w' w.heap.size v (nv 4294967296 l ^ n) ∧ Below w.heap.size w w' := by
  subst hz
  refine (pow_pos v l n w hin hn hl).mono ?_
  rintro e w' ⟨v, c, rfl, hs, hB⟩
  rcases hs with ⟨_, rfl, h⟩ | ⟨h, _⟩
  · exact ⟨v, rfl, h, hB⟩
  · omega
theorem small_big (a k n : Nat) (ha : a < 4294967296 ^ k) (hk : k * n ≤ 2000) : a ^ n < tooBig := by
  by_cases h0 : n = 0
  · subst h0; simpa using one_lt_big
  · have h1 : a ^ n < (4294967296 ^ k) ^ n := Nat.pow_lt_pow_left ha h0
    rw [← Nat.pow_mul] at h1
    exact Nat.lt_of_lt_of_le h1 (Nat.pow_le_pow_right (by omega) hk)
theorem len_small {l : List Nat} {n k : Nat} (hr : RightL l) (hv : nv 4294967296 l = n) (hn : n < 4294967296 ^ k) : l.length ≤ k := by
  by_cases h : l = []
  · subst h; simp
  · have h1 := right_ge 4294967296 l hr h
    rw [hv] at h1
    have h2 := (Nat.pow_lt_pow_iff_right (by omega : 1 < 4294967296)).1 (Nat.lt_of_le_of_lt h1 hn)
    omega
end Go.Proofs.YtcahnkocfbcchaaGreatDoor
