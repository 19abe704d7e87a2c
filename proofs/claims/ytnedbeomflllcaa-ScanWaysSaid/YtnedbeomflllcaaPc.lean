/- The walks of points' small calls: upper, lower, Pair, written, left, take; the document's Pair. What each call tells. -/
import Derived.Test.YtnedbeomflllcaaProg
import Derived.Test.YtnedbeomflllcaaPa
import Derived.WalkKit
import Derived.WalkSpells
import Derived.WalkLawsBesides
import Derived.LoopTactic
import Derived.RegionTactic
import Derived.Deep.QuietTactic
import Derived.BigQuiet
import Derived.Deep.RegionWith
import Derived.Outline
import Derived.Lib.Hide
import Derived.OneCell
import Derived.Laws.OwnMore
namespace Go.Proofs.Ytnedbeomflllcaa
open Go.RowKit Tnd

def pairV (hi lo : Int) : Int := 65536 + (hi - 55296) * 1024 + (lo - 56320)
def PairOk (hi lo : Int) : Prop := (55296 ≤ hi ∧ hi < 56320) ∧ 56320 ≤ lo ∧ lo ≤ 57343
def upB (c : Int) : Bool := decide (55296 ≤ c) && decide (c < 56320)
def loB (c : Int) : Bool := decide (56320 ≤ c) && decide (c ≤ 57343)

theorem ret_bool {a b : Bool} (h : a = b) : Ending.returned (.bool a) = .returned (.bool b) := by rw [h]
theorem ret_int_bool {k : IntKind} {a b : Int} {x : Bool} (h : a = b) : Ending.returned (.tuple #[.int k a, .bool x]) = .returned (.tuple #[.int k b, .bool x]) := by rw [h]

theorem upper_any (c : Int) (w : World) : Calls Try.prog 15 #[.int .i64 c] w fun e w' => e = .returned (.bool (upB c)) ∧ w = w' := by
  by_cases h1 : 55296 ≤ c
  · go_enter Try.func15, Try.ntmps15
    go_wp2
    go_ret
    exact ⟨ret_bool (by simp [upB, h1]), rfl⟩
  · go_enter Try.func15, Try.ntmps15
    go_wp2
    go_ret
    exact ⟨ret_bool (by unfold upB; rw [decide_eq_false (show ¬ 55296 ≤ c by omega)]; rfl), rfl⟩
theorem lower_any (c : Int) (w : World) : Calls Try.prog 16 #[.int .i64 c] w fun e w' => e = .returned (.bool (loB c)) ∧ w = w' := by
  by_cases h1 : 56320 ≤ c
  · go_enter Try.func16, Try.ntmps16
    go_wp2
    go_ret
    exact ⟨ret_bool (by simp [loB, h1]), rfl⟩
  · go_enter Try.func16, Try.ntmps16
    go_wp2
    go_ret
    exact ⟨ret_bool (by unfold loB; rw [decide_eq_false (show ¬ 56320 ≤ c by omega)]; rfl), rfl⟩
theorem pair_no (hi lo : Int) (w : World) (h : ¬ PairOk hi lo) : Calls Try.prog 7 #[.int .i64 hi, .int .i64 lo] w fun e w' => e = .returned (.tuple #[.int .i64 0, .bool false]) ∧ w = w' := by
  by_cases h1 : upB hi = true
  · have h2 : loB lo = false := by
      simp only [upB, Bool.and_eq_true, decide_eq_true_eq] at h1
      rw [Bool.eq_false_iff]
      intro h2
      simp only [loB, Bool.and_eq_true, decide_eq_true_eq] at h2
      exact h ⟨h1, h2⟩
    have H := Lib.hid h
    clear h
    go_enter Try.func7, Try.ntmps7
    go_wp2_with (first | (go_at_call 15; refine (upper_any _ _).mono ?_; rintro e w' ⟨rfl, rfl⟩; rw [h1]) | (go_at_call 16; refine (lower_any _ _).mono ?_; rintro e w' ⟨rfl, rfl⟩; rw [h2]))
    go_ret2
    exact ⟨rfl, rfl⟩
  · have h1 : upB hi = false := by simpa using h1
    clear h
    go_enter Try.func7, Try.ntmps7
    go_wp2_with (go_at_call 15; refine (upper_any _ _).mono ?_; rintro e w' ⟨rfl, rfl⟩; rw [h1])
    go_ret2
    exact ⟨rfl, rfl⟩
theorem pair_yes (hi lo : Int) (w : World) (h : PairOk hi lo) : Calls Try.prog 7 #[.int .i64 hi, .int .i64 lo] w fun e w' => e = .returned (.tuple #[.int .i64 (pairV hi lo), .bool true]) ∧ w = w' := by
  obtain ⟨⟨g1, g2⟩, g3, g4⟩ := h
  have h1 : upB hi = true := by simp [upB, g1, g2]
  have h2 : loB lo = true := by simp [loB, g3, g4]
  go_enter Try.func7, Try.ntmps7
  go_wp2_with (first | (go_at_call 15; refine (upper_any _ _).mono ?_; rintro e w' ⟨rfl, rfl⟩; rw [h1]) | (go_at_call 16; refine (lower_any _ _).mono ?_; rintro e w' ⟨rfl, rfl⟩; rw [h2]))
  go_ret2
  exact ⟨ret_int_bool (by unfold pairV; first | rfl | omega | simp), rfl⟩
end Go.Proofs.Ytnedbeomflllcaa
