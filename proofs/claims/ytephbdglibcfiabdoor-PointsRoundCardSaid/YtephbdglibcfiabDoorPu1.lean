/- The walk of PointsRound, one of its cases. -/
import Derived.Test.YtephbdglibcfiabDoorPu
namespace Go.Proofs.YtephbdglibcfiabDoor
open Go.RowKit Tnd

set_option maxHeartbeats 3200000 in
set_option maxRecDepth 100000 in
theorem round_no_rr (q : Option Addr) (cl : Nat) (l : List Int) (s t : ByteArray) (w : World) (hL : LeadsIn w) (hS : SizesIn w) (hq : SlI w q l) (hl : l.length ≤ 3000) (hst : s.size + t.size ≤ 3000) (hx : textR l = ([], false)) (a b : List Nat) (h1 : ofR s.data.toList = (a, 0, 0)) (h2 : ofR t.data.toList = (b, 0, 0)) :
    Calls Tryd.prog 8 #[.slice q l.length cl, .string s, .string t] w fun e w' => e = .returned (.bool true) ∧ Below w.heap.size w w' := by
  have hsl : s.data.toList.length = s.size := by simp
  have htl : t.data.toList.length = t.size := by simp
  have HA := Lib.hid (awake_any w hL)
  have HL := Lib.hid hL
  have HS := Lib.hid hS
  have HQ := Lib.hid hq
  have HX := Lib.hid hx
  have H1 := Lib.hid h1
  have H2 := Lib.hid h2
  have H3 := Lib.hid (both_right h1 h2 (by omega))
  have HAL := Lib.hid (show a.length ≤ 3000 by have h := ofm_len s.data.toList; rw [(ofR_inv h1).2.1] at h; have h' : a.length ≤ s.data.toList.length := h; omega)
  have HBL := Lib.hid (show b.length ≤ 3000 by have h := ofm_len t.data.toList; rw [(ofR_inv h2).2.1] at h; have h' : b.length ≤ t.data.toList.length := h; omega)
  clear h2
  have i1 : (l.length : Int) ≤ 3000 := by omega
  have i2 : (s.size : Int) ≤ 3000 := by omega
  have i3 : (t.size : Int) ≤ 3000 := by omega
  have i4 : (s.size : Int) + (t.size : Int) ≤ 3000 := by omega
  have HLL := Lib.hid hl
  have HST := Lib.hid hst
  clear hL hS hq hx h1 hsl htl hl hst
  go_enter Tryd.func8, Tryd.ntmps8
  go_wp2_with (go_at_call 14; refine HA.out.mono ?_; rintro e w1 ⟨rfl, hb⟩; have HB1 := Lib.hid hb; clear hb)
  refine (text_at q cl l w1 (HQ.out.below HB1.out) (by have := HLL.out; omega) (HS.out.below HB1.out) _ _ HX.out).mono ?_
  rintro e w4 ⟨rfl, hb⟩
  have HB4 := Lib.hid (bl_trans HB1.out hb)
  clear hb
  go_wp2_with fail
  refine (of_at s w4 a 0 0 (by omega) (HL.out.below HB4.out) H1.out).mono ?_
  rintro e w5 ⟨p5, c5, rfl, ho, hb⟩
  have HO5 := Lib.hid ho
  have HB5 := Lib.hid (bl_trans HB4.out hb)
  clear hb ho
  go_wp2_with fail
  refine (of_at t w5 b 0 0 (by omega) (HL.out.below HB5.out) H2.out).mono ?_
  rintro e w6 ⟨p6, c6, rfl, ho, hb⟩
  have HO6 := Lib.hid ho
  have HA6 := Lib.hid (own_below HO5.out hb)
  have HB6 := Lib.hid (bl_trans HB5.out hb)
  clear hb ho
  go_wp2_with fail
  refine (of_at (s ++ t) w6 (a ++ b) 0 0 (by rw [ByteArray.size_append]; omega) (HL.out.below HB6.out) (by rw [both_data]; exact H3.out)).mono ?_
  rintro e w7 ⟨p7, c7, rfl, ho, hb⟩
  have HO7 := Lib.hid ho
  have HA7 := Lib.hid (own_below HA6.out hb)
  have HT7 := Lib.hid (own_below HO6.out hb)
  have HB7 := Lib.hid (bl_trans HB6.out hb)
  clear hb ho
  go_wp2_with fail
  refine (text_own p5 c5 a w7 _ HA7.out (by have := HAL.out; omega) (HS.out.below HB7.out) s H1.out).mono ?_
  rintro e w8 ⟨rfl, hb⟩
  have HO8 := Lib.hid (own_below HO7.out hb)
  have HA8 := Lib.hid (own_below HA7.out hb)
  have HT8 := Lib.hid (own_below HT7.out hb)
  have HB8 := Lib.hid (bl_trans HB7.out hb)
  clear hb
  go_wp2_with fail
  obtain ⟨_, _, hf5, _, _, hnil5, hsl5, _⟩ := own_form HA8.out
  simp only [Value.slice.injEq, true_and] at hf5
  obtain ⟨rfl, rfl⟩ := hf5
  refine (copy_any _ _ a w8 hsl5 hnil5 (by have := HAL.out; omega)).mono ?_
  clear hsl5 hnil5
  rintro e w9 ⟨p9, c9, rfl, ho, hb⟩
  have HO9 := Lib.hid (own_below HO8.out hb)
  have HT9 := Lib.hid (own_below HT8.out hb)
  have HB9 := Lib.hid (bl_trans HB8.out hb)
  have HSZ := Lib.hid (show w8.heap.size ≤ w9.heap.size from hb.size)
  have HC9 := Lib.hid ho
  clear hb ho
  obtain ⟨_, _, hf6, _, _, hnil6, hsl6, _⟩ := own_form HT9.out
  simp only [Value.slice.injEq, true_and] at hf6
  obtain ⟨rfl, rfl⟩ := hf6
  obtain ⟨v10, w10, hr1, hr2, hr3⟩ := run_join (w := w9) 33 HC9.out hsl6 hnil6 (by have := HAL.out; have := HBL.out; omega) HSZ.out
  clear hsl6 hnil6
  have hb10 : Below w8.heap.size w9 w10 := (Below.refl _ _).grown hr3 HSZ.out (fun k hk => (HC9.out.lt k hk).1)
  obtain ⟨p10, c10, hv10, _⟩ := own_form hr2
  subst hv10
  have HR1 := Lib.hid hr1
  have HR2 := Lib.hid hr2
  have HC10 := Lib.hid (own_kept HO9.out hr3 (own_apart HO8.out HC9.out (Nat.le_refl _)))
  have hsame := same_two p7 p10 c7 c10 (a ++ b) w10 _ _ HC10.out HR2.out (by have := HAL.out; have := HBL.out; rw [List.length_append]; omega)
  rw [List.length_append] at hsame
  have HSAME := Lib.hid hsame
  clear hsame
  have HB10 := Lib.hid (HB9.out.trans (hb10.mono HB8.out.size))
  clear hr1 hr2 hr3 hb10
  go_wp2_with (at_builtin; refine wpList_append_run (by rfl) _ _ 33 rfl _ _ _ rfl rfl HR1.out ?_)
  refine HSAME.out.mono ?_
  rintro e w11 ⟨rfl, hb⟩
  go_wp2
  go_ret
  exact ⟨rfl, bl_trans HB10.out hb⟩

end Go.Proofs.YtephbdglibcfiabDoor
