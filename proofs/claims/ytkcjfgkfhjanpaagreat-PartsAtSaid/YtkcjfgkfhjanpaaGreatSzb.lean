/- The walks of the document's Join and Of. -/
import Derived.Test.YtkcjfgkfhjanpaaGreatSza
import Derived.Deep.RegionLaw
namespace Go.Proofs.YtkcjfgkfhjanpaaGreat
open Go.RowKit Tnr

theorem rows_flatten (xs : List SV) : (rowsOf xs).flatten = flat xs := by
  unfold rowsOf flat
  rw [List.flatMap_def]
theorem rows_length (xs : List SV) : (rowsOf xs).length = xs.length := by simp [rowsOf]

set_option maxRecDepth 100000 in
theorem rjoin_any (p : Option Addr) (c n : Nat) (xs : List SV) (l : List R) (w : World) (hl : l = cn (flat xs)) (hn : n = xs.length) (hx : SlS w p xs) (hf : (flat xs).length ≤ 10000) (hnm : n ≤ 100000) :
    Calls Tryz.prog 43 #[.slice p n c] w (WherePost l w) := by
  have HW := Lib.hid (where_any p c n xs 1 n w l hn hx hf hnm (by omega) hnm (by rw [hl]; exact cn_right _) (fun d _ _ => by
    rw [hl, cn_has, many_pos, rows_flatten]
    constructor
    · exact fun h => ⟨h, by have := many_le (rowsOf xs) d; rw [rows_length] at this; omega⟩
    · exact fun h => h.1))
  have hnI : (n : Int) ≤ 100000 := by omega
  clear hl hn hx hf hnm
  go_enter Tryz.func43, Tryz.ntmps43
  go_wp2_with (go_at_call 44; refine HW.out.mono ?_; rintro e w5 ⟨q5, d5, rfl, ho5, hb5⟩; have HO5 := Lib.hid ho5; have HB5 := Lib.hid hb5; clear ho5 hb5)
  go_ret
  exact ⟨q5, d5, rfl, HO5.out, HB5.out⟩

theorem where_back {w W : World} {l : List R} {e : Ending} {w' : World} (hb : Below w.heap.size w W) (h : WherePost l W e w') : WherePost l w e w' := by
  obtain ⟨q, d, h1, h2, h3⟩ := h
  exact ⟨q, d, h1, ownR_mono h2 hb.size, bl_trans hb h3⟩
theorem rjoin_one (p : Option Addr) (c m : Nat) (l r : List R) (W : World) (hr : r = cn l) (hm : m = l.length) (hp : SlR W p l) (hl : l.length ≤ 10000) :
    Calls Tryz.prog 43 #[.slice (some ⟨W.heap.size, 0, none⟩) 1 1] (W.alloc (.cells #[.slice p m c] 23)) (WherePost r W) := by
  subst hm
  refine (rjoin_any (some ⟨W.heap.size, 0, none⟩) 1 1 [(p, c, l)] r _ (by rw [flat_one]; exact hr) rfl (sls_new (fun x hx => by simp only [List.mem_singleton] at hx; subst hx; exact hp) rfl) (by rw [flat_one]; exact hl) (by simp)).mono ?_
  exact fun _ _ h => where_back (bl_alloc _ _) h

end Go.Proofs.YtkcjfgkfhjanpaaGreat
