/- The walk of PointsPairs. -/
import Derived.Test.YtalnfbbggmhbfaaDoorPi
import Derived.Test.YtalnfbbggmhbfaaDoorPq
namespace Go.Proofs.YtalnfbbggmhbfaaDoor
open Go.RowKit Tnd

set_option maxHeartbeats 800000 in
theorem pairs_true (hi lo : Int) (w : World) (hL : LeadsIn w) : Calls Tryd.prog 8 #[.int .i64 hi, .int .i64 lo] w fun e w' => e = .returned (.bool true) ∧ Below w.heap.size w w' := by
  have HA := Lib.hid (awake_any w hL)
  clear hL
  by_cases hp : PairOk hi lo
  · have H1 := Lib.hid (pair_yes hi lo w hp)
    have H2 := Lib.hid (rpair_yes hi lo w hp)
    clear hp
    generalize pairV hi lo = v at H1 H2
    go_enter Tryd.func8, Tryd.ntmps8
    go_wp2_with (first
      | (go_at_call 20; refine H1.out.mono ?_; rintro e w' ⟨rfl, rfl⟩)
      | (go_at_call 21; refine H2.out.mono ?_; rintro e w' ⟨rfl, rfl⟩)
      | (go_at_call 11; refine HA.out.mono ?_; rintro e w' ⟨rfl, hb⟩))
    go_ret
    exact ⟨rfl, hb⟩
  · have H1 := Lib.hid (pair_no hi lo w hp)
    have H2 := Lib.hid (rpair_no hi lo w hp)
    clear hp
    go_enter Tryd.func8, Tryd.ntmps8
    go_wp2_with (first
      | (go_at_call 20; refine H1.out.mono ?_; rintro e w' ⟨rfl, rfl⟩)
      | (go_at_call 21; refine H2.out.mono ?_; rintro e w' ⟨rfl, rfl⟩)
      | (go_at_call 11; refine HA.out.mono ?_; rintro e w' ⟨rfl, hb⟩))
    go_ret
    exact ⟨rfl, hb⟩
end Go.Proofs.YtalnfbbggmhbfaaDoor
