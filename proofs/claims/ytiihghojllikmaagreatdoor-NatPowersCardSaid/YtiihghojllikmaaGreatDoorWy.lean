/- The walk of Pow below zero: no number, and the error of a wrong argument. -/
import Derived.Test.YtiihghojllikmaaGreatDoorWo
import Derived.Test.YtiihghojllikmaaGreatDoorWf
namespace Go.Proofs.YtiihghojllikmaaGreatDoor
open Go.RowKit Tnd

set_option maxRecDepth 100000 in
theorem pow_neg (p : Option Addr) (l c : Nat) (n : Int) (w : World) (hn : n < 0) :
    Calls Tryz.prog 24 #[.agg #[.slice p l c], .int .i64 n] w fun e w' => e = .returned (.tuple #[.agg #[.slice none 0 0], .int .i64 2]) ∧ Below w.heap.size w w' := by
  obtain ⟨w0, hw0⟩ : ∃ w0, w0 = (w.alloc (.cells #[.slice p l c] 24)).alloc (.cells #[.slice none 0 0] 24) := ⟨_, rfl⟩
  have hB0 : Below w.heap.size w w0 := by subst hw0; exact ((Below.refl _ _).alloc (Nat.le_refl _) _).alloc (by simp) _
  have hR0 : w0.heap[w.heap.size + 1]? = some (.cells #[.slice none 0 0] 24 (0, 0)) := by
    subst hw0
    have h := heap_alloc_new (w.alloc (.cells #[.slice p l c] 24)) (.cells #[.slice none 0 0] 24)
    simpa using h
  have hcr := cell_of_one hR0
  have hfr := free_of_one hR0
  have HB0 := Lib.hid hB0
  have HW0 := Lib.hid hw0
  clear hB0 hR0 hw0
  go_enter Tryz.func24, Tryz.ntmps24
  go_wp2_with (rw [← HW0.out])
  refine bodyPost_ret (v := .tuple #[.agg #[.slice none 0 0], .int .i64 2]) (by simp [results, Tryz.results24, go_sem, hcr]) rfl ?_
  exact ⟨rfl, HB0.out.setCell (by simp) _⟩
end Go.Proofs.YtiihghojllikmaaGreatDoor
