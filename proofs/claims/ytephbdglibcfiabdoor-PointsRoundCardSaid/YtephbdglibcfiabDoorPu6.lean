/- The walk of PointsRound, one of its cases. -/
import Derived.Test.YtephbdglibcfiabDoorPu
namespace Go.Proofs.YtephbdglibcfiabDoor
open Go.RowKit Tnd

set_option maxHeartbeats 3200000 in
set_option maxRecDepth 100000 in
theorem round_yes_w (q : Option Addr) (cl : Nat) (l : List Int) (s t : ByteArray) (w : World) (hL : LeadsIn w) (hS : SizesIn w) (hq : SlI w q l) (hl : l.length ≤ 3000) (hst : s.size + t.size ≤ 3000) (x : List UInt8) (hx : textR l = (x, true)) (hxl : x.length ≤ 65536) (hxo : ofR x = (l.map Int.toNat, 0, 0)) (hxi : ints (l.map Int.toNat) = l) (n1 : Nat) (h1 : ofR s.data.toList = ([], n1, 4)) :
    Calls Tryd.prog 8 #[.slice q l.length cl, .string s, .string t] w fun e w' => e = .returned (.bool true) ∧ Below w.heap.size w w' := by
  have hsl : s.data.toList.length = s.size := by simp
  have htl : t.data.toList.length = t.size := by simp
  have HA := Lib.hid (awake_any w hL)
  have HL := Lib.hid hL
  have HS := Lib.hid hS
  have HQ := Lib.hid hq
  have HX := Lib.hid hx
  have H1 := Lib.hid h1
  have HXL := Lib.hid hxl
  have HXO := Lib.hid hxo
  have HXI := Lib.hid hxi
  clear hxl hxo hxi
  have i1 : (l.length : Int) ≤ 3000 := by omega
  have i2 : (s.size : Int) ≤ 3000 := by omega
  have i3 : (t.size : Int) ≤ 3000 := by omega
  have i4 : (s.size : Int) + (t.size : Int) ≤ 3000 := by omega
  have HLL := Lib.hid hl
  have HST := Lib.hid hst
  clear hL hS hq hx h1 hsl htl hl hst
  go_enter Tryd.func8, Tryd.ntmps8
  go_wp2_with (go_at_call 14; refine HA.out.mono ?_; rintro e w1 ⟨rfl, hb⟩; have HB1 := Lib.hid hb; clear hb)
  refine (text_at q cl l w1 (HQ.out.below HB1.out) (by have := HLL.out; omega) (HS.out.below HB1.out) _ _ HX.out).mono ?_
  rintro e w2 ⟨rfl, hb⟩
  have HB2 := Lib.hid (bl_trans HB1.out hb)
  clear hb
  go_wp2_with fail
  refine (of_at ⟨x.toArray⟩ w2 _ _ _ (by have := HXL.out; show x.toArray.size ≤ _; rw [List.size_toArray]; omega) (HL.out.below HB2.out) HXO.out).mono ?_
  rintro e w3 ⟨p3, c3, rfl, ho, hb⟩
  have HO3 := Lib.hid ho
  have HB3 := Lib.hid (bl_trans HB2.out hb)
  clear hb ho
  have hs3 := same_own p3 q c3 cl _ l w3 _ HO3.out (HQ.out.below HB3.out) (by have := HLL.out; omega) HXI.out
  rw [List.length_map] at hs3
  have HS3 := Lib.hid hs3
  clear hs3
  go_wp2_with (go_at_call 17; refine HS3.out.mono ?_; rintro e w4 ⟨rfl, hb⟩; have HB4 := Lib.hid (bl_trans HB3.out hb); clear hb)
  refine (of_at s w4 [] n1 4 (by omega) (HL.out.below HB4.out) H1.out).mono ?_
  rintro e w5 ⟨p5, c5, rfl, ho, hb⟩
  have HB5 := Lib.hid (bl_trans HB4.out hb)
  clear hb ho
  go_wp2_with fail
  refine (of_any t w5 (by omega) (HL.out.below HB5.out)).mono ?_
  rintro e w6 ⟨p6, c6, rfl, ho, hb⟩
  have HB6 := Lib.hid (bl_trans HB5.out hb)
  clear hb ho
  go_wp2_with fail
  refine (of_any (s ++ t) w6 (by rw [ByteArray.size_append]; omega) (HL.out.below HB6.out)).mono ?_
  rintro e w7 ⟨p7, c7, rfl, ho, hb⟩
  have HB7 := Lib.hid (bl_trans HB6.out hb)
  clear hb ho
  go_wp2
  go_ret
  exact ⟨rfl, HB7.out⟩

end Go.Proofs.YtephbdglibcfiabDoor
