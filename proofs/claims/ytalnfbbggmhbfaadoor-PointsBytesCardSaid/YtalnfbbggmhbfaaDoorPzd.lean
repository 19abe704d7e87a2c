/- The walk of the document's long. -/
import Derived.Test.YtalnfbbggmhbfaaDoorPy
import Derived.Test.YtalnfbbggmhbfaaDoorPb
namespace Go.Proofs.YtalnfbbggmhbfaaDoor
open Go.RowKit Tnd

theorem lng_1 {b : Nat} (h : b < 128) : lng b = 1 := by unfold lng; rw [if_pos h]
theorem lng_2 {b : Nat} (h1 : 192 ≤ b) (h2 : b < 224) : lng b = 2 := by unfold lng; rw [if_neg (by omega), if_pos ⟨h1, h2⟩]
theorem lng_3 {b : Nat} (h1 : 224 ≤ b) (h2 : b < 240) : lng b = 3 := by unfold lng; rw [if_neg (by omega), if_neg (by omega), if_pos ⟨h1, h2⟩]
theorem lng_4 {b : Nat} (h1 : 240 ≤ b) (h2 : b < 248) : lng b = 4 := by unfold lng; rw [if_neg (by omega), if_neg (by omega), if_neg (by omega), if_pos ⟨h1, h2⟩]
theorem lng_0 {b : Nat} (h : 128 ≤ b) (h2 : b < 192 ∨ 248 ≤ b) : lng b = 0 := by unfold lng; rw [if_neg (by omega), if_neg (by omega), if_neg (by omega), if_neg (by omega)]
theorem long_any (b : Nat) (w : World) : Calls Tryd.prog 14 #[.int .u8 (b : Nat)] w fun e w' => e = .returned (.int .i64 (lng b : Nat)) ∧ w = w' := by
  by_cases h1 : b < 128
  · have i1 : decide ((b : Int) < 128) = true := by rw [decide_eq_true_iff]; omega
    have HL := Lib.hid (lng_1 h1)
    clear h1
    go_enter Tryd.func14, Tryd.ntmps14
    go_wp2
    go_ret
    rw [HL.out]; exact ⟨rfl, rfl⟩
  have i1 : decide ((b : Int) < 128) = false := by rw [decide_eq_false_iff_not]; omega
  by_cases h2 : 192 ≤ b
  case neg =>
    have i2 : decide ((192 : Int) ≤ b) = false := by rw [decide_eq_false_iff_not]; omega
    have i3 : decide ((224 : Int) ≤ b) = false := by rw [decide_eq_false_iff_not]; omega
    have i4 : decide ((240 : Int) ≤ b) = false := by rw [decide_eq_false_iff_not]; omega
    have HL := Lib.hid (lng_0 (b := b) (by omega) (by omega))
    clear h1 h2
    go_enter Tryd.func14, Tryd.ntmps14
    go_wp2
    go_ret
    rw [HL.out]; exact ⟨rfl, rfl⟩
  have i2 : decide ((192 : Int) ≤ b) = true := by rw [decide_eq_true_iff]; omega
  by_cases h3 : b < 224
  · have i3 : decide ((b : Int) < 224) = true := by rw [decide_eq_true_iff]; omega
    have HL := Lib.hid (lng_2 h2 h3)
    clear h1 h2 h3
    go_enter Tryd.func14, Tryd.ntmps14
    go_wp2
    go_ret
    rw [HL.out]; exact ⟨rfl, rfl⟩
  have i3 : decide ((b : Int) < 224) = false := by rw [decide_eq_false_iff_not]; omega
  have i4 : decide ((224 : Int) ≤ b) = true := by rw [decide_eq_true_iff]; omega
  by_cases h4 : b < 240
  · have i5 : decide ((b : Int) < 240) = true := by rw [decide_eq_true_iff]; omega
    have HL := Lib.hid (lng_3 (b := b) (by omega) h4)
    clear h1 h2 h3 h4
    go_enter Tryd.func14, Tryd.ntmps14
    go_wp2
    go_ret
    rw [HL.out]; exact ⟨rfl, rfl⟩
  have i5 : decide ((b : Int) < 240) = false := by rw [decide_eq_false_iff_not]; omega
  have i6 : decide ((240 : Int) ≤ b) = true := by rw [decide_eq_true_iff]; omega
  by_cases h5 : b < 248
  · have i7 : decide ((b : Int) < 248) = true := by rw [decide_eq_true_iff]; omega
    have HL := Lib.hid (lng_4 (b := b) (by omega) h5)
    clear h1 h2 h3 h4 h5
    go_enter Tryd.func14, Tryd.ntmps14
    go_wp2
    go_ret
    rw [HL.out]; exact ⟨rfl, rfl⟩
  · have i7 : decide ((b : Int) < 248) = false := by rw [decide_eq_false_iff_not]; omega
    have HL := Lib.hid (lng_0 (b := b) (by omega) (by omega))
    clear h1 h2 h3 h4 h5
    go_enter Tryd.func14, Tryd.ntmps14
    go_wp2
    go_ret
    rw [HL.out]; exact ⟨rfl, rfl⟩
end Go.Proofs.YtalnfbbggmhbfaaDoor
