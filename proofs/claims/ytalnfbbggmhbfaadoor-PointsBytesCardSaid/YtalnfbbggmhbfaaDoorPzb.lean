/- The walk of PointsWrites. -/
import Derived.Test.YtalnfbbggmhbfaaDoorPy
import Derived.Test.YtalnfbbggmhbfaaDoorPza
namespace Go.Proofs.YtalnfbbggmhbfaaDoor
open Go.RowKit Tnd

set_option maxHeartbeats 1600000 in
set_option maxRecDepth 100000 in
theorem writes_true (q : Option Addr) (cq : Nat) (l : List Int) (w : World) (hL : LeadsIn w) (hS : SizesIn w) (hq : SlI w q l) (hqn : q = none → cq = 0) (hl : l.length ≤ 1000000000000000) :
    Calls Tryd.prog 7 #[.slice q l.length cq] w fun e w' => e = .returned (.bool true) ∧ Below w.heap.size w w' := by
  by_cases hg : 3000 < l.length
  · have HA := Lib.hid (awake_any w hL)
    have i1 : 3000 < (l.length : Int) := by omega
    have i2 : (l.length : Int) ≤ 1000000000000000 := by omega
    clear hL hS hq hqn hl hg
    go_enter Tryd.func7, Tryd.ntmps7
    go_wp2_with (go_at_call 11; refine HA.out.mono ?_; rintro e w' ⟨rfl, hb⟩)
    go_ret
    exact ⟨rfl, hb⟩
  · have HL := Lib.hid hL
    have HS := Lib.hid hS
    have HQ := Lib.hid hq
    have HLL := Lib.hid (show l.length ≤ 3000 by omega)
    have HLE := Lib.hid (lent_any q cq l w hq (by omega) hqn)
    have i1 : (l.length : Int) ≤ 3000 := by omega
    obtain ⟨rx, rb, hr⟩ : ∃ rx rb, textR l = (rx, rb) := ⟨_, _, rfl⟩
    have HR := Lib.hid hr
    clear hL hS hq hqn hl hg hr
    go_enter Tryd.func7, Tryd.ntmps7
    go_wp2_with fail
    refine HLE.out.mono ?_
    rintro e w1 ⟨g, cap, rfl, hcap, hcm, ho1, hb1⟩
    have HO1 := Lib.hid ho1
    have HB1 := Lib.hid hb1
    have HCAP := Lib.hid hcap
    have HCM := Lib.hid hcm
    clear ho1 hb1 hcap hcm
    go_wp2_with fail
    refine (text_at (some ⟨g, 0, none⟩) cap l w1 (lent_sl HO1.out rfl (marks_length 12)) (by have := HLL.out; omega) (HS.out.below HB1.out) _ _ HR.out).mono ?_
    rintro e w2 ⟨rfl, hb⟩
    have HO2 := Lib.hid (ownI_below HO1.out hb)
    have HB2 := Lib.hid (bl_trans HB1.out hb)
    clear hb
    go_wp2_with fail
    have hrt := rtext_any q cq l w2 (HQ.out.below HB2.out) (by have := HLL.out; omega)
    rw [HR.out] at hrt
    refine hrt.mono ?_
    clear hrt
    rintro e w3 ⟨rfl, hb⟩
    have HO3 := Lib.hid (ownI_below HO2.out hb)
    have HB3 := Lib.hid (bl_trans HB2.out hb)
    clear hb
    have HK := Lib.hid (kept_any q cq l _ g cap w3 (HQ.out.below HB3.out) HLL.out HO3.out HCAP.out HCM.out)
    go_wp2_with (first
      | (go_at_call 19; refine HK.out.mono ?_; rintro e w4 ⟨rfl, hb⟩; have HB4 := Lib.hid (bl_trans HB3.out hb); clear hb)
      | (go_at_call 11; refine (awake_any _ (HL.out.below HB4.out)).mono ?_; rintro e w5 ⟨rfl, hb⟩; have HB5 := Lib.hid (bl_trans HB4.out hb); clear hb))
    go_ret
    exact ⟨rfl, HB5.out⟩
end Go.Proofs.YtalnfbbggmhbfaaDoor
