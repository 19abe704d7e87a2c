/- The walk of awake: the chapter's examples. -/
import Derived.Test.YtobdkkcihjpebaaGreatRm
namespace Go.Proofs.YtobdkkcihjpebaaGreat
open Go.RowKit Tnr

theorem slr_new (w : World) (l : List R) (cs : Array Value) (T : TypeId) (h : cs = (l.flatMap encR).toArray) : SlR (w.alloc (.cells cs T)) (some ⟨w.heap.size, 0, none⟩) l := by
  refine .inr ⟨w.heap.size, 0, rfl, fun i hi => ?_⟩
  obtain ⟨e1, e2⟩ := encs_at l i hi
  rw [Nat.zero_add, World.cell?_alloc_at _ _ _ _ rfl, World.cell?_alloc_at _ _ _ _ rfl, h]
  simp only [List.getElem?_toArray]
  exact ⟨e1, e2⟩
theorem sli_new (w : World) (l : List Int) (cs : Array Value) (T : TypeId) (h : cs = (l.map (Value.int .i64)).toArray) : SlI (w.alloc (.cells cs T)) (some ⟨w.heap.size, 0, none⟩) l := by
  refine .inr ⟨w.heap.size, 0, rfl, fun i hi => ?_⟩
  rw [Nat.zero_add, World.cell?_alloc_at _ _ _ _ rfl, h]
  unfold gi
  rw [List.getD_eq_getElem?_getD, List.getElem?_eq_getElem hi]
  simp [hi]
theorem tells_sl {w w' : World} {l : List R} {p : Option Addr} {c : Nat} (h : OwnR w' w.heap.size (.slice p l.length c) l) : SlR w' p l := by
  obtain ⟨p', c', e, _, _, _, hs, _⟩ := ownR_form h
  simp only [Value.slice.injEq, true_and] at e
  rw [e.1]; exact hs
/-- what a call tells that is a row. -/
def Told (w : World) (l : List R) (e : Ending) (w' : World) : Prop := ∃ p c, e = .returned (.slice p l.length c) ∧ SlR w' p l ∧ Below w.heap.size w w'
theorem told_of {w : World} {l : List R} {e : Ending} {w' : World} (h : Tells w l e w') : Told w l e w' := by
  obtain ⟨p, c, h1, h2, h3⟩ := h
  exact ⟨p, c, h1, tells_sl h2, h3⟩
theorem told_back {w W : World} {l : List R} {e : Ending} {w' : World} (hb : Below w.heap.size w W) (h : Told W l e w') : Told w l e w' := by
  obtain ⟨p, c, h1, h2, h3⟩ := h
  exact ⟨p, c, h1, h2, bl_trans hb h3⟩
theorem not_told (p : Option Addr) (c m : Nat) (l n : List R) (w : World) (hn : n = ng l) (hm : m = l.length) (hp : SlR w p l) (hl : l.length ≤ 50000) :
    Calls Tryz.prog 11 #[.slice p m c] w (Told w n) := (not_any p c m l n w hn hm hp hl).mono fun _ _ h => told_of h
theorem meet_told (p q : Option Addr) (c e m n : Nat) (a b r : List R) (w : World) (hr : r = mt a b) (hm : m = a.length) (hn : n = b.length) (hp : SlR w p a) (hq : SlR w q b) (ha : a.length ≤ 20000) (hb : b.length ≤ 20000) :
    Calls Tryz.prog 10 #[.slice p m c, .slice q n e] w (Told w r) := (meet_any p q c e m n a b r w hr hm hn hp hq ha hb).mono fun _ _ h => told_of h
theorem of_told (p : Option Addr) (c m : Nat) (ps : List Int) (r : List R) (w : World) (hr : r = cn (pts ps)) (hm : m = ps.length) (hp : SlI w p ps) (hl : ps.length ≤ 20000) :
    Calls Tryz.prog 43 #[.slice p m c] w (Told w r) := (of_any p c m ps r w hr hm hp hl).mono fun _ _ h => told_of h
theorem join_one (p : Option Addr) (c m : Nat) (l r : List R) (W : World) (hr : r = cn l) (hm : m = l.length) (hp : SlR W p l) (hl : l.length ≤ 50000) :
    Calls Tryz.prog 25 #[.slice (some ⟨W.heap.size, 0, none⟩) 1 1] (W.alloc (.cells #[.slice p m c] 22)) (Told W r) := by
  subst hm
  refine (join_any (some ⟨W.heap.size, 0, none⟩) 1 1 [(p, c, l)] r _ (by rw [flat_one]; exact hr) rfl (sls_new (fun x hx => by simp only [List.mem_singleton] at hx; subst hx; exact hp) rfl) (by rw [flat_one]; exact hl) (by simp)).mono ?_
  exact fun _ _ h => told_back (bl_alloc _ _) (told_of h)
theorem join_two (p q : Option Addr) (c e m n : Nat) (a b r : List R) (W : World) (hr : r = cn (a ++ b)) (hm : m = a.length) (hn : n = b.length) (hp : SlR W p a) (hq : SlR W q b) (hl : a.length + b.length ≤ 50000) :
    Calls Tryz.prog 25 #[.slice (some ⟨W.heap.size, 0, none⟩) 2 2] (W.alloc (.cells #[.slice p m c, .slice q n e] 22)) (Told W r) := by
  subst hm hn
  have ef : flat [(p, c, a), (q, e, b)] = a ++ b := by simp [flat]
  refine (join_any (some ⟨W.heap.size, 0, none⟩) 2 2 [(p, c, a), (q, e, b)] r _ (by rw [ef]; exact hr) rfl (sls_new (fun x hx => by
    simp only [List.mem_cons, List.not_mem_nil, or_false] at hx
    rcases hx with rfl | rfl
    · exact hp
    · exact hq) rfl) (by rw [ef, List.length_append]; exact hl) (by simp)).mono ?_
  exact fun _ _ h => told_back (bl_alloc _ _) (told_of h)
theorem join_three (p q s : Option Addr) (c e f m n o : Nat) (a b d r : List R) (W : World) (hr : r = cn (a ++ (b ++ d))) (hm : m = a.length) (hn : n = b.length) (ho : o = d.length) (hp : SlR W p a) (hq : SlR W q b) (hs : SlR W s d) (hl : a.length + b.length + d.length ≤ 50000) :
    Calls Tryz.prog 25 #[.slice (some ⟨W.heap.size, 0, none⟩) 3 3] (W.alloc (.cells #[.slice p m c, .slice q n e, .slice s o f] 22)) (Told W r) := by
  subst hm hn ho
  have ef : flat [(p, c, a), (q, e, b), (s, f, d)] = a ++ (b ++ d) := by simp [flat]
  refine (join_any (some ⟨W.heap.size, 0, none⟩) 3 3 [(p, c, a), (q, e, b), (s, f, d)] r _ (by rw [ef]; exact hr) rfl (sls_new (fun x hx => by
    simp only [List.mem_cons, List.not_mem_nil, or_false] at hx
    rcases hx with rfl | rfl | rfl
    · exact hp
    · exact hq
    · exact hs) rfl) (by rw [ef, List.length_append, List.length_append]; omega) (by simp)).mono ?_
  exact fun _ _ h => told_back (bl_alloc _ _) (told_of h)
theorem ex1 : [(1, 4)] = cn ([(1, 3)] ++ [(4, 4), (9, 7), (2, 3)]) := by
  refine (cn_of (l := [(1, 3)] ++ [(4, 4), (9, 7), (2, 3)]) (d := [(1, 3), (2, 3), (4, 4)]) (by decide) (by unfold Sorted; decide)) ▸ ?_
  decide
theorem ex2 : [(0, 1114111)] = ng [] := by
  unfold ng
  rw [← cn_of (l := []) (d := []) (by decide) (by unfold Sorted; decide)]
  decide
theorem ex3 : [(4, 6)] = cn (pts [5, 4, -1, 6]) := by
  refine (cn_of (l := pts [5, 4, -1, 6]) (d := [(4, 4), (5, 5), (6, 6)]) (by decide) (by unfold Sorted; decide)) ▸ ?_
  decide

set_option maxHeartbeats 1600000 in
set_option maxRecDepth 100000 in
theorem awake_any (w : World) : Calls Tryz.prog 8 #[] w fun e w' => e = .returned (.bool true) ∧ Below w.heap.size w w' := by
  go_enter Tryz.func8, Tryz.ntmps8
  go_wp2_with fail
  have hj := join_two (some ⟨w.heap.size, 0, none⟩) (some ⟨w.heap.size + 1, 0, none⟩) 1 3 1 3 [(1, 3)] [(4, 4), (9, 7), (2, 3)] [(1, 4)] ((w.alloc (.cells #[.int .i64 1, .int .i64 3] 39)).alloc (.cells #[.int .i64 4, .int .i64 4, .int .i64 9, .int .i64 7, .int .i64 2, .int .i64 3] 39)) ex1 rfl rfl ((slr_new w [(1, 3)] _ _ rfl).below (bl_alloc _ _)) (by
    have h := slr_new (w.alloc (.cells #[.int .i64 1, .int .i64 3] 39)) [(4, 4), (9, 7), (2, 3)] _ 39 rfl
    rw [World.size_alloc] at h
    exact h) (by decide)
  simp only [World.size_alloc] at hj
  refine hj.mono ?_
  clear hj
  rintro e w1 ⟨p1, c1, rfl, hs1, hb1⟩
  have HS1 := Lib.hid hs1
  have HB1 := Lib.hid (bl_trans (bl_trans (bl_alloc w (.cells #[.int .i64 1, .int .i64 3] 39)) (bl_alloc _ (.cells #[.int .i64 4, .int .i64 4, .int .i64 9, .int .i64 7, .int .i64 2, .int .i64 3] 39))) (hb1.mono (by simp)))
  clear hs1 hb1
  go_wp2_with fail
  refine (lsame_any p1 (some ⟨w1.heap.size, 0, none⟩) c1 1 1 1 [(1, 4)] [(1, 4)] true _ rfl rfl rfl (HS1.out.below (bl_alloc _ _)) (slr_new w1 [(1, 4)] _ _ rfl) (by decide) (by decide)).mono ?_
  rintro e w2 ⟨rfl, hb2⟩
  have HB2 := Lib.hid (bl_trans HB1.out (bl_trans (bl_alloc w1 (.cells #[.int .i64 1, .int .i64 4] 39)) hb2))
  clear hb2 HS1 HB1
  go_wp2_with fail
  refine (not_told none 0 0 [] [(0, 1114111)] w2 ex2 rfl (.inl rfl) (by decide)).mono ?_
  rintro e w3 ⟨p3, c3, rfl, hs3, hb3⟩
  have HS3 := Lib.hid hs3
  have HB3 := Lib.hid (bl_trans HB2.out hb3)
  clear hs3 hb3 HB2
  go_wp2_with fail
  refine (lsame_any p3 (some ⟨w3.heap.size, 0, none⟩) c3 1 1 1 [(0, 1114111)] [(0, 1114111)] true _ rfl rfl rfl (HS3.out.below (bl_alloc _ _)) (slr_new w3 [(0, 1114111)] _ _ rfl) (by decide) (by decide)).mono ?_
  rintro e w4 ⟨rfl, hb4⟩
  have HB4 := Lib.hid (bl_trans HB3.out (bl_trans (bl_alloc w3 (.cells #[.int .i64 0, .int .i64 1114111] 39)) hb4))
  clear hb4 HS3 HB3
  go_wp2_with fail
  refine (of_told (some ⟨w4.heap.size, 0, none⟩) 4 4 [5, 4, -1, 6] [(4, 6)] _ ex3 rfl (sli_new w4 [5, 4, -1, 6] _ _ rfl) (by decide)).mono ?_
  rintro e w5 ⟨p5, c5, rfl, hs5, hb5⟩
  have HS5 := Lib.hid hs5
  have HB5 := Lib.hid (bl_trans HB4.out (bl_trans (bl_alloc w4 (.cells #[.int .i64 5, .int .i64 4, .int .i64 (-1), .int .i64 6] 3)) hb5))
  clear hs5 hb5 HB4
  go_wp2_with fail
  refine (lsame_any p5 (some ⟨w5.heap.size, 0, none⟩) c5 1 1 1 [(4, 6)] [(4, 6)] true _ rfl rfl rfl (HS5.out.below (bl_alloc _ _)) (slr_new w5 [(4, 6)] _ _ rfl) (by decide) (by decide)).mono ?_
  rintro e w6 ⟨rfl, hb6⟩
  have HB6 := Lib.hid (bl_trans HB5.out (bl_trans (bl_alloc w5 (.cells #[.int .i64 4, .int .i64 6] 39)) hb6))
  clear hb6 HS5 HB5
  go_wp2
  go_ret
  exact ⟨rfl, HB6.out⟩
end Go.Proofs.YtobdkkcihjpebaaGreat
