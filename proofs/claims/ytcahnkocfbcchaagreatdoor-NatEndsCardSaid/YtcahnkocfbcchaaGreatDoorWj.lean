/- The walks of Cmp, Right, SameNat, same. -/
import Derived.Test.YtcahnkocfbcchaaGreatDoorWi
import Derived.WalkSmall

namespace Go.Proofs.YtcahnkocfbcchaaGreatDoor
open Go.RowKit Tnd

theorem samenat_any (p q : Option Addr) (c d : Nat) (l m : List Nat) (w : World) (h1 : Sl w .u32 p l) (h2 : Sl w .u32 q m) (hl : l.length ≤ 1000000000000) (hm : m.length ≤ 1000000000000) :
    Calls Tryz.prog 38 #[.agg #[.slice p l.length c], .agg #[.slice q m.length d]] w fun e w' => e = .returned (.bool (decide (l = m))) ∧ Below w.heap.size w w' := by
  have hsl : ∀ (k : IntKind) (r : Option Addr) (n : List Nat), Sl w k r n → Sl ((w.alloc (.cells #[.slice p l.length c] 24)).alloc (.cells #[.slice q m.length d] 24)) k r n := by
    intro k r n h
    rcases h with h | ⟨b, off, e1, e2⟩
    · exact .inl h
    · refine .inr ⟨b, off, e1, fun i hi => ?_⟩
      have hlt := World.block_lt_of_cell? w _ (e2 i hi)
      rw [World.cell?_alloc_past _ _ _ (by simp at hlt ⊢; omega), World.cell?_alloc_past _ _ _ (by simpa using hlt)]
      exact e2 i hi
  have HS := Lib.hid (samelimbs_any p q c d l m _ (hsl _ _ _ h1) (hsl _ _ _ h2) hl hm)
  clear hsl h1 h2
  go_enter Tryz.func38, Tryz.ntmps38
  go_wp2_with fail
  refine HS.out.mono ?_
  rintro e w' ⟨rfl, n, rfl⟩
  go_wp2
  go_ret
  exact ⟨rfl, below_drewN (((Below.refl _ _).alloc (Nat.le_refl _) _).alloc (by simp) _) _⟩

theorem same_any (p q : Option Addr) (c d : Nat) (l m : List Nat) (w : World) (h1 : Sl w .u32 p l) (h2 : Sl w .u32 q m) (hl : l.length ≤ 1000000000000) (hm : m.length ≤ 1000000000000) :
    Calls Tryz.prog 11 #[.agg #[.slice p l.length c], .agg #[.slice q m.length d]] w fun e w' => e = .returned (.bool (decide (l = m))) ∧ Below w.heap.size w w' := by
  have hsl : ∀ (k : IntKind) (r : Option Addr) (n : List Nat), Sl w k r n → Sl ((w.alloc (.cells #[.slice p l.length c] 24)).alloc (.cells #[.slice q m.length d] 24)) k r n := by
    intro k r n h
    rcases h with h | ⟨b, off, e1, e2⟩
    · exact .inl h
    · refine .inr ⟨b, off, e1, fun i hi => ?_⟩
      have hlt := World.block_lt_of_cell? w _ (e2 i hi)
      rw [World.cell?_alloc_past _ _ _ (by simp at hlt ⊢; omega), World.cell?_alloc_past _ _ _ (by simpa using hlt)]
      exact e2 i hi
  have HS := Lib.hid (samenat_any p q c d l m _ (hsl _ _ _ h1) (hsl _ _ _ h2) hl hm)
  clear hsl h1 h2
  go_enter Tryz.func11, Tryz.ntmps11
  go_wp2_with fail
  refine HS.out.mono ?_
  rintro e w' ⟨rfl, hb⟩
  go_wp2
  go_ret
  exact ⟨rfl, (((Below.refl _ _).alloc (Nat.le_refl _) _).alloc (by simp) _).trans (hb.mono (by simp; omega))⟩

set_option maxHeartbeats 1600000 in
set_option maxRecDepth 100000 in
theorem rightn_any (p : Option Addr) (c : Nat) (l : List Nat) (w : World) (h1 : Sl w .u32 p l) (hlc : l.length ≤ c) (hcm : c ≤ 9223372036854775807) (hnil : p = none → c = 0) (hr : RightL l) :
    Calls Tryz.prog 12 #[.agg #[.slice p l.length c]] w fun e w' => e = .returned (.bool true) ∧ Below w.heap.size w w' := by
  obtain ⟨w0, hw0⟩ : ∃ w0, w0 = w.alloc (.cells #[.slice p l.length c] 24) := ⟨_, rfl⟩
  have hB : Below w.heap.size w w0 := by subst hw0; exact (Below.refl _ _).alloc (Nat.le_refl _) _
  have hc1 : w0.cell? ⟨w.heap.size, 0, none⟩ = some (.slice p l.length c) := by subst hw0; rw [World.cell?_alloc_at _ _ _ _ rfl]; rfl
  have hsz : w.heap.size < w0.heap.size := by subst hw0; simp
  have hc2 : ∀ o, (w0.alloc o).cell? ⟨w.heap.size, 0, none⟩ = some (.slice p l.length c) := fun o => by rw [World.cell?_alloc_past _ _ _ (by simpa using hsz)]; exact hc1
  have hsl : ∀ W, Below w.heap.size w W → Sl W .u32 p l := by
    intro W hW
    rcases h1 with h | ⟨b, off, e1, e2⟩
    · exact .inl h
    · exact .inr ⟨b, off, e1, fun i hi => by rw [hW.cell (by simpa using World.block_lt_of_cell? w _ (e2 i hi))]; exact e2 i hi⟩
  have htl := tlen_right l hr
  have R1 : Hid (∀ W, Below w.heap.size w W → Calls Tryz.prog 31 #[.agg #[.slice p l.length c]] W fun e w' => e = .returned (.slice p l.length c) ∧ W.alloc (.cells #[.slice p l.length c] 24) = w') := by
    intro W hW
    have h := row_exact p l c W (hsl W hW) hlc hcm hnil
    rw [htl] at h
    exact h
  have HB := Lib.hid hB
  have HW0 := Lib.hid hw0
  clear h1 hnil hr hB hw0 hsl htl
  go_enter Tryz.func12, Tryz.ntmps12
  go_wp2
  rw [← HW0.out]
  go_region_with (go_at_call 31; (with_reducible refine (R1.out _ (by repeat (first | (with_reducible exact HB.out) | (with_reducible refine Below.drew ?_) | (with_reducible refine Below.alloc ?_ (by have := HB.out.size; simp; omega) _)))).mono ?_); rintro e w' ⟨rfl, rfl⟩)
  all_goals go_wp2
  all_goals go_ret
  all_goals exact ⟨rfl, by repeat (first | (with_reducible exact HB.out) | (with_reducible refine below_drewN ?_ _) | (with_reducible refine Below.drew ?_) | (with_reducible refine Below.alloc ?_ (by have := HB.out.size; simp; omega) _))⟩

set_option maxHeartbeats 1600000 in
set_option maxRecDepth 100000 in
theorem cmp_any (v1 v2 : Value) (l m : List Nat) (w : World) (h1 : NatIn w w.heap.size v1 l) (h2 : NatIn w w.heap.size v2 m) (hl : l.length ≤ 1000000000000) (hm : m.length ≤ 1000000000000) :
    Calls Tryz.prog 14 #[v1, v2] w fun e w' => e = .returned (.int .i64 (ord (nv 4294967296 l) (nv 4294967296 m))) ∧ Below w.heap.size w w' := by
  obtain ⟨p1, c1, rfl, ho1, hd1, hr1⟩ := h1
  obtain ⟨p2, c2, rfl, ho2, hd2, hr2⟩ := h2
  obtain ⟨w0, hw0⟩ : ∃ w0, w0 = (w.alloc (.cells #[.slice p1 l.length c1] 24)).alloc (.cells #[.slice p2 m.length c2] 24) := ⟨_, rfl⟩
  have hB : Below w.heap.size w w0 := by subst hw0; exact ((Below.refl _ _).alloc (Nat.le_refl _) _).alloc (by simp) _
  have hc1 : w0.cell? ⟨w.heap.size, 0, none⟩ = some (.slice p1 l.length c1) := by subst hw0; rw [World.cell?_alloc_past _ _ _ (by simp), World.cell?_alloc_at _ _ _ _ rfl]; rfl
  have hc2 : w0.cell? ⟨w.heap.size + 1, 0, none⟩ = some (.slice p2 m.length c2) := by subst hw0; rw [World.cell?_alloc_at _ _ _ _ (by simp)]; rfl
  have hs0 : w0.heap.size = w.heap.size + 2 := by subst hw0; simp
  have HW0 := Lib.hid hw0
  have HB := Lib.hid hB
  have HS0 := Lib.hid hs0
  have R1 : Hid (∀ W, Below w.heap.size w W → Calls Tryz.prog 31 #[.agg #[.slice p1 l.length c1]] W fun e w' => e = .returned (.slice p1 (tlen l) c1) ∧ W.alloc (.cells #[.slice p1 l.length c1] 24) = w') :=
    fun W hW => row_exact p1 l c1 W (ho1.below hW).sl hr1.1 hr1.2.1 hr1.2.2
  have R2 : Hid (∀ W, Below w.heap.size w W → Calls Tryz.prog 31 #[.agg #[.slice p2 m.length c2]] W fun e w' => e = .returned (.slice p2 (tlen m) c2) ∧ W.alloc (.cells #[.slice p2 m.length c2] 24) = w') :=
    fun W hW => row_exact p2 m c2 W (ho2.below hW).sl hr2.1 hr2.2.1 hr2.2.2
  have tl1 : (l.take (tlen l)).length = tlen l := by rw [List.length_take]; have := tlen_le l; omega
  have tb1 := tlen_le l
  have tb2 := tlen_le m
  have tl2 : (m.take (tlen m)).length = tlen m := by rw [List.length_take]; have := tlen_le m; omega
  have AG : Hid (∀ W, Below w.heap.size w W → Calls Tryz.prog 39 #[.slice p1 (tlen l) c1, .slice p2 (tlen m) c2] W fun e w' => e = .returned (.int .i64 (ord (nv 4294967296 l) (nv 4294967296 m))) ∧ ∃ n, w' = W.drewN n) := by
    intro W hW
    have h := against_any p1 p2 c1 c2 (l.take (tlen l)) (m.take (tlen m)) W ((ho1.below hW).take _).sl ((ho2.below hW).take _).sl (digs_take hd1 _) (digs_take hd2 _) (right_take_tlen l) (right_take_tlen m) (by omega) (by omega)
    rw [tl1, tl2, nv_tlen, nv_tlen] at h
    exact h
  clear hw0 ho1 hd1 hr1 ho2 hd2 hr2 tl1 tl2 tb1 tb2
  generalize tlen l = t1 at *
  generalize tlen m = t2 at *
  go_enter Tryz.func14, Tryz.ntmps14
  go_wp2
  rw [← HW0.out]
  go_region_with (first | (go_at_call 31; (with_reducible refine (R1.out _ (by repeat (first | (with_reducible exact HB.out) | (with_reducible refine Below.drew ?_) | (with_reducible refine Below.alloc ?_ (by have := HB.out.size; simp; omega) _)))).mono ?_); rintro e w' ⟨rfl, rfl⟩) | (go_at_call 31; (with_reducible refine (R2.out _ (by repeat (first | (with_reducible exact HB.out) | (with_reducible refine Below.drew ?_) | (with_reducible refine Below.alloc ?_ (by have := HB.out.size; simp; omega) _)))).mono ?_); rintro e w' ⟨rfl, rfl⟩) | (go_at_call 39; (with_reducible refine (AG.out _ (by repeat (first | (with_reducible exact HB.out) | (with_reducible refine Below.drew ?_) | (with_reducible refine Below.alloc ?_ (by have := HB.out.size; simp; omega) _)))).mono ?_); rintro e w' ⟨rfl, nq, rfl⟩))
  all_goals go_wp2
  all_goals go_ret
  all_goals exact ⟨rfl, by repeat (first | (with_reducible exact HB.out) | (with_reducible refine below_drewN ?_ _) | (with_reducible refine Below.drew ?_) | (with_reducible refine Below.alloc ?_ (by have := HB.out.size; simp; omega) _))⟩
end Go.Proofs.YtcahnkocfbcchaaGreatDoor
