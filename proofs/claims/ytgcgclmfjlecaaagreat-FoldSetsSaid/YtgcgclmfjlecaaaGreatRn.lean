/- The walk of awake: the chapter's examples. -/
import Derived.Test.YtgcgclmfjlecaaaGreatRm

namespace Go.Proofs.YtgcgclmfjlecaaaGreat
open Go.RowKit Tnr

theorem slr_new (w : World) (l : List R) (cs : Array Value) (T : TypeId) (h : cs = (l.flatMap encR).toArray) : SlR (w.alloc (.cells cs T)) (some ⟨w.heap.size, 0, none⟩) l := by
  refine .inr ⟨w.heap.size, 0, rfl, fun i hi => ?_⟩
  obtain ⟨e1, e2⟩ := encs_at l i hi
  rw [Nat.zero_add, World.cell?_alloc_at _ _ _ _ rfl, World.cell?_alloc_at _ _ _ _ rfl, h]
  simp only [List.getElem?_toArray]
  exact ⟨e1, e2⟩
theorem sli_new (w : World) (l : List Int) (cs : Array Value) (T : TypeId) (h : cs = (l.map (Value.int .i64)).toArray) : SlI (w.alloc (.cells cs T)) (some ⟨w.heap.size, 0, none⟩) l := by
  refine .inr ⟨w.heap.size, 0, rfl, fun i hi => ?_⟩
  rw [Nat.zero_add, World.cell?_alloc_at _ _ _ _ rfl, h]
  unfold gi
  rw [List.getD_eq_getElem?_getD, List.getElem?_eq_getElem hi]
  simp [hi]
theorem tells_sl {w w' : World} {l : List R} {p : Option Addr} {c : Nat} (h : OwnR w' w.heap.size (.slice p l.length c) l) : SlR w' p l := by
  obtain ⟨p', c', e, _, _, _, hs, _⟩ := ownR_form h
  simp only [Value.slice.injEq, true_and] at e
  rw [e.1]; exact hs
/-- what a call tells that is a row. -/
def Told (w : World) (l : List R) (e : Ending) (w' : World) : Prop := ∃ p c, e = .returned (.slice p l.length c) ∧ SlR w' p l ∧ Below w.heap.size w w'
theorem told_of {w : World} {l : List R} {e : Ending} {w' : World} (h : Tells w l e w') : Told w l e w' := by
  obtain ⟨p, c, h1, h2, h3⟩ := h
  exact ⟨p, c, h1, tells_sl h2, h3⟩
theorem told_back {w W : World} {l : List R} {e : Ending} {w' : World} (hb : Below w.heap.size w W) (h : Told W l e w') : Told w l e w' := by
  obtain ⟨p, c, h1, h2, h3⟩ := h
  exact ⟨p, c, h1, h2, bl_trans hb h3⟩
theorem of_told (p : Option Addr) (c m : Nat) (ps : List Int) (r : List R) (w : World) (hr : r = cn (pts ps)) (hm : m = ps.length) (hp : SlI w p ps) (hl : ps.length ≤ 20000000) :
    Calls Tryz.prog 29 #[.slice p m c] w (Told w r) := (of_any p c m ps r w hr hm hp hl).mono fun _ _ h => told_of h
theorem join_one (p : Option Addr) (c m : Nat) (l r : List R) (W : World) (hr : r = cn l) (hm : m = l.length) (hp : SlR W p l) (hl : l.length ≤ 50000000) :
    Calls Tryz.prog 26 #[.slice (some ⟨W.heap.size, 0, none⟩) 1 1] (W.alloc (.cells #[.slice p m c] 28)) (Told W r) := by
  subst hm
  refine (join_any (some ⟨W.heap.size, 0, none⟩) 1 1 [(p, c, l)] r _ (by rw [flat_one]; exact hr) rfl (sls_new (fun x hx => by simp only [List.mem_singleton] at hx; subst hx; exact hp) rfl) (by rw [flat_one]; exact hl) (by simp)).mono ?_
  exact fun _ _ h => told_back (bl_alloc _ _) (told_of h)
theorem join_two (p q : Option Addr) (c e m n : Nat) (a b r : List R) (W : World) (hr : r = cn (a ++ b)) (hm : m = a.length) (hn : n = b.length) (hp : SlR W p a) (hq : SlR W q b) (hl : a.length + b.length ≤ 50000000) :
    Calls Tryz.prog 26 #[.slice (some ⟨W.heap.size, 0, none⟩) 2 2] (W.alloc (.cells #[.slice p m c, .slice q n e] 28)) (Told W r) := by
  subst hm hn
  have ef : flat [(p, c, a), (q, e, b)] = a ++ b := by simp [flat]
  refine (join_any (some ⟨W.heap.size, 0, none⟩) 2 2 [(p, c, a), (q, e, b)] r _ (by rw [ef]; exact hr) rfl (sls_new (fun x hx => by
    simp only [List.mem_cons, List.not_mem_nil, or_false] at hx
    rcases hx with rfl | rfl
    · exact hp
    · exact hq) rfl) (by rw [ef, List.length_append]; exact hl) (by simp)).mono ?_
  exact fun _ _ h => told_back (bl_alloc _ _) (told_of h)
theorem join_three (p q s : Option Addr) (c e f m n o : Nat) (a b d r : List R) (W : World) (hr : r = cn (a ++ (b ++ d))) (hm : m = a.length) (hn : n = b.length) (ho : o = d.length) (hp : SlR W p a) (hq : SlR W q b) (hs : SlR W s d) (hl : a.length + b.length + d.length ≤ 50000000) :
    Calls Tryz.prog 26 #[.slice (some ⟨W.heap.size, 0, none⟩) 3 3] (W.alloc (.cells #[.slice p m c, .slice q n e, .slice s o f] 28)) (Told W r) := by
  subst hm hn ho
  have ef : flat [(p, c, a), (q, e, b), (s, f, d)] = a ++ (b ++ d) := by simp [flat]
  refine (join_any (some ⟨W.heap.size, 0, none⟩) 3 3 [(p, c, a), (q, e, b), (s, f, d)] r _ (by rw [ef]; exact hr) rfl (sls_new (fun x hx => by
    simp only [List.mem_cons, List.not_mem_nil, or_false] at hx
    rcases hx with rfl | rfl | rfl
    · exact hp
    · exact hq
    · exact hs) rfl) (by rw [ef, List.length_append, List.length_append]; omega) (by simp)).mono ?_
  exact fun _ _ h => told_back (bl_alloc _ _) (told_of h)
theorem ex1 : [(1, 4)] = cn ([(1, 3)] ++ [(4, 4), (9, 7), (2, 3)]) := by
  refine (cn_of (l := [(1, 3)] ++ [(4, 4), (9, 7), (2, 3)]) (d := [(1, 3), (2, 3), (4, 4)]) (by decide) (by unfold Sorted; decide)) ▸ ?_
  decide
theorem ex2 : [(0, 1114111)] = ng [] := by
  unfold ng
  rw [← cn_of (l := []) (d := []) (by decide) (by unfold Sorted; decide)]
  decide
theorem ex3 : [(4, 6)] = cn (pts [5, 4, -1, 6]) := by
  refine (cn_of (l := pts [5, 4, -1, 6]) (d := [(4, 4), (5, 5), (6, 6)]) (by decide) (by unfold Sorted; decide)) ▸ ?_
  decide

end Go.Proofs.YtgcgclmfjlecaaaGreat
