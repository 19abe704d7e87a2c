/- The walk of Least. -/
import Derived.Test.YtaeodgeefjmamaaGreatRj
namespace Go.Proofs.YtaeodgeefjmamaaGreat
open Go.RowKit Tnr

attribute [local go_sem] Oper.semAt_some

theorem lst_nil {l d : List R} (h : merge d = cn l) (h0 : merge d = []) : lst l = (0, false) := by unfold lst; rw [← h, h0]
theorem lst_cons {l d r : List R} {x : R} (h : merge d = cn l) (h0 : merge d = x :: r) : lst l = (x.1, true) := by unfold lst; rw [← h, h0]

end Go.Proofs.YtaeodgeefjmamaaGreat
