/- The walk of the document's Pair. -/
import Derived.Test.YtkpkhjflelmdjaaPc
namespace Go.Proofs.Ytkpkhjflelmdjaa
open Go.RowKit Tnd

theorem rpair_no (hi lo : Int) (w : World) (h : ¬ PairOk hi lo) : Calls Try.prog 61 #[.int .i64 hi, .int .i64 lo] w fun e w' => e = .returned (.tuple #[.int .i64 0, .bool false]) ∧ w = w' := by
  by_cases h1 : hi < 55296
  · go_enter Try.func61, Try.ntmps61
    go_wp2
    go_ret2
    exact ⟨rfl, rfl⟩
  by_cases h2 : 56320 ≤ hi
  · go_enter Try.func61, Try.ntmps61
    go_wp2
    go_ret2
    exact ⟨rfl, rfl⟩
  by_cases h3 : lo < 56320
  · go_enter Try.func61, Try.ntmps61
    go_wp2
    go_ret2
    exact ⟨rfl, rfl⟩
  · have h4 : 57343 < lo := by
      have : ¬ (lo ≤ 57343) := fun h4 => h ⟨⟨by omega, by omega⟩, by omega, h4⟩
      omega
    clear h
    go_enter Try.func61, Try.ntmps61
    go_wp2
    go_ret2
    exact ⟨rfl, rfl⟩
theorem rpair_yes (hi lo : Int) (w : World) (h : PairOk hi lo) : Calls Try.prog 61 #[.int .i64 hi, .int .i64 lo] w fun e w' => e = .returned (.tuple #[.int .i64 (pairV hi lo), .bool true]) ∧ w = w' := by
  obtain ⟨⟨g1, g2⟩, g3, g4⟩ := h
  go_enter Try.func61, Try.ntmps61
  go_wp2
  go_ret2
  exact ⟨ret_int_bool (by unfold pairV; first | rfl | omega | simp), rfl⟩
end Go.Proofs.Ytkpkhjflelmdjaa
