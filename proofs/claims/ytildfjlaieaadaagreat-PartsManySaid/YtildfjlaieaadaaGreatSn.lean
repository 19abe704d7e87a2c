/- Rows of numbers, and what a call tells that is a row: of Rm, Rn what a seat without layer 3's law has. -/
import Derived.Test.YtildfjlaieaadaaGreatQp

namespace Go.Proofs.YtildfjlaieaadaaGreat
open Go.RowKit Tnr

def gi (l : List Int) (i : Nat) : Int := l.getD i 0
/-- a slice of ints: its cells. -/
def SlI (w : World) (p : Option Addr) (l : List Int) : Prop :=
  l = [] ∨ ∃ b off, p = some ⟨b, off, none⟩ ∧ ∀ i, i < l.length → w.cell? ⟨b, off + i, none⟩ = some (.int .i64 (gi l i))
theorem SlI.below {w w' : World} {p : Option Addr} {l : List Int} (h : SlI w p l) (hb : Below w.heap.size w w') : SlI w' p l := by
  rcases h with h | ⟨b, off, h1, h2⟩
  · exact .inl h
  · exact .inr ⟨b, off, h1, fun i hi => by rw [hb.cell (World.block_lt_of_cell? w _ (h2 i hi))]; exact h2 i hi⟩
theorem sli_at {w : World} {p : Option Addr} {l : List Int} (h : SlI w p l) {k : Nat} (hk : k < l.length) : ∃ b off, p = some ⟨b, off, none⟩ ∧ w.cell? ⟨b, off + k, none⟩ = some (.int .i64 (gi l k)) := by
  rcases h with h | ⟨b, off, h1, h2⟩
  · rw [h] at hk; simp at hk
  · exact ⟨b, off, h1, h2 k hk⟩
theorem take_gi {l : List Int} {k : Nat} (h : k < l.length) : l.take (k + 1) = l.take k ++ [gi l k] := by
  unfold gi
  rw [List.take_add_one, List.getD_eq_getElem?_getD, List.getElem?_eq_getElem h]; rfl

theorem sli_new (w : World) (l : List Int) (cs : Array Value) (T : TypeId) (h : cs = (l.map (Value.int .i64)).toArray) : SlI (w.alloc (.cells cs T)) (some ⟨w.heap.size, 0, none⟩) l := by
  refine .inr ⟨w.heap.size, 0, rfl, fun i hi => ?_⟩
  rw [Nat.zero_add, World.cell?_alloc_at _ _ _ _ rfl, h]
  unfold gi
  rw [List.getD_eq_getElem?_getD, List.getElem?_eq_getElem hi]
  simp [hi]
theorem tells_sl {w w' : World} {l : List R} {p : Option Addr} {c : Nat} (h : OwnR w' w.heap.size (.slice p l.length c) l) : SlR w' p l := by
  obtain ⟨p', c', e, _, _, _, hs, _⟩ := ownR_form h
  simp only [Value.slice.injEq, true_and] at e
  rw [e.1]; exact hs
/-- what a call tells that is a row. -/
def Told (w : World) (l : List R) (e : Ending) (w' : World) : Prop := ∃ p c, e = .returned (.slice p l.length c) ∧ SlR w' p l ∧ Below w.heap.size w w'
theorem told_of {w : World} {l : List R} {e : Ending} {w' : World} (h : Tells w l e w') : Told w l e w' := by
  obtain ⟨p, c, h1, h2, h3⟩ := h
  exact ⟨p, c, h1, tells_sl h2, h3⟩
theorem told_back {w W : World} {l : List R} {e : Ending} {w' : World} (hb : Below w.heap.size w W) (h : Told W l e w') : Told w l e w' := by
  obtain ⟨p, c, h1, h2, h3⟩ := h
  exact ⟨p, c, h1, h2, bl_trans hb h3⟩
theorem join_one (p : Option Addr) (c m : Nat) (l r : List R) (W : World) (hr : r = cn l) (hm : m = l.length) (hp : SlR W p l) (hl : l.length ≤ 50000) :
    Calls Tryz.prog 39 #[.slice (some ⟨W.heap.size, 0, none⟩) 1 1] (W.alloc (.cells #[.slice p m c] 29)) (Told W r) := by
  subst hm
  refine (join_any (some ⟨W.heap.size, 0, none⟩) 1 1 [(p, c, l)] r _ (by rw [flat_one]; exact hr) rfl (sls_new (fun x hx => by simp only [List.mem_singleton] at hx; subst hx; exact hp) rfl) (by rw [flat_one]; exact hl) (by simp)).mono ?_
  exact fun _ _ h => told_back (bl_alloc _ _) (told_of h)
end Go.Proofs.YtildfjlaieaadaaGreat
