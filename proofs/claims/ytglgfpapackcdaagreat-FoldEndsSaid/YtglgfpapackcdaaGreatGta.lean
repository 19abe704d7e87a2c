/- What drawn regions want; rows of folds made of one another by appends; FoldEnds' drawn region 15. -/
import Derived.Test.YtglgfpapackcdaaGreatGsk
import Derived.Test.YtglgfpapackcdaaGreatFk

namespace Go.Proofs.YtglgfpapackcdaaGreat
open Go.RowKit Tnr

def Bx (w : World) (b : Nat) (T : TypeId) (cs : Array Value) : Prop := w.heap[b]? = some (.cells cs T (0, 0))
theorem Bx.lt {w : World} {b : Nat} {T : TypeId} {cs : Array Value} (h : Bx w b T cs) : b < w.heap.size := lt_of_block h
theorem Bx.new (w : World) (T : TypeId) (cs : Array Value) : Bx (w.alloc (.cells cs T)) w.heap.size T cs := heap_alloc_new w _
theorem Bx.cell {w : World} {b : Nat} {T : TypeId} {cs : Array Value} (h : Bx w b T cs) {i : Nat} {v : Value} (hi : cs[i]? = some v) : w.cell? ⟨b, i, none⟩ = some v := by
  simp only [World.cell?, show w.heap[b]? = _ from h]; exact hi
theorem Bx.free {w : World} {b : Nat} {T : TypeId} {cs : Array Value} (h : Bx w b T cs) (i : Nat) : w.frozen? ⟨b, i, none⟩ = false := by simp [World.frozen?, show w.heap[b]? = _ from h]
theorem Bx.below {w w' : World} {b : Nat} {T : TypeId} {cs : Array Value} (h : Bx w b T cs) (hb : Below w.heap.size w w') : Bx w' b T cs := (hb.block b h.lt).trans h
theorem Bx.kept {w w' : World} {b : Nat} {T : TypeId} {cs : Array Value} {row : Option Nat} (h : Bx w b T cs) (hg : w.grownBy w' row) (hne : some b ≠ row) : Bx w' b T cs := (hg.block b h.lt hne).trans h
theorem Bx.set {w : World} {b : Nat} {T : TypeId} {cs : Array Value} (h : Bx w b T cs) (i : Nat) (v : Value) : Bx (w.setCell ⟨b, i, none⟩ v) b T (cs.modify i fun _ => v) := by
  simp only [Bx, World.setCell, Array.getElem?_modify, if_true, show w.heap[b]? = _ from h]; rfl
theorem Bx.other {w : World} {b : Nat} {T : TypeId} {cs : Array Value} (h : Bx w b T cs) {a : Addr} (ha : b ≠ a.block) (x : Value) : Bx (w.setCell a x) b T cs := (Below.heap_setCell _ _ _ b ha).trans h
structure Kc where
  P : Value → World → Prop
  keep : ∀ {v : Value} {w w' : World}, P v w → Below w.heap.size w w' → P v w'
def Kc.val (u : Value) : Kc := ⟨fun v _ => v = u, fun h _ => h⟩
theorem keep_cellK {w w' : World} {b i : Nat} {v : Value} (hb : Below w.heap.size w w') (h : w.cell? ⟨b, i, none⟩ = some v) : w'.cell? ⟨b, i, none⟩ = some v := by rw [hb.cell (World.block_lt_of_cell? w _ h)]; exact h
theorem inv_stay {P : Program} {ops : Array Oper} {Q : Exit → Act → World → Prop} {o : Oper} {a : Act} {w : World} {v : Value} {K : Act → World → Prop} {G : Value → World → Prop} (hK : ∀ u y, G u y → Below w.heap.size w y → K (a.put o.dst u) y) (hG : G v w) (hrun : (execOp a.eval o).run P w = .ok (.value v) w) (hw : Region.wanted o (yielded ops a.tmps) = true) :
    if Region.wanted o (yielded ops a.tmps) = true then o.wp P a w K Q else K (a.put o.dst undef) w := inv_val hw hrun hK hG (Below.refl _ _)
theorem inv_enter {P : Program} {ops : Array Oper} {Q : Exit → Act → World → Prop} {o : Oper} {a : Act} {w : World} {K : Act → World → Prop} {G : Value → World → Prop} (F : FuncId) (args : Array Value) (hK : ∀ u y, G u y → Below w.heap.size w y → K (a.put o.dst u) y) (hrun : (execOp a.eval o).run P w = .ok (.enter F args) w) (hw : Region.wanted o (yielded ops a.tmps) = true)
    (hc : Calls P F args w fun e y => ∃ u, e = .returned u ∧ G u y ∧ Below w.heap.size w y) : if Region.wanted o (yielded ops a.tmps) = true then o.wp P a w K Q else K (a.put o.dst undef) w := inv_call hw hrun hK hc
theorem wanted_t {ops : Array Oper} {o : Oper} {a : Act} {j s : Nat} {b : Bool} (hv : a.tmps[s]? = some (.bool b)) (h : o.guard = some (j, b)) (hs : slotOf ops j = some s) : Region.wanted o (yielded ops a.tmps) = true := (wanted_some h hs hv).trans (by simp)
theorem done_ne {done : Array Bool} {i j : Nat} (h : i ≠ j) : (done.setIfInBounds i true).getD j false = done.getD j false := by
  simp only [Array.getD_eq_getD_getElem?, Array.getElem?_setIfInBounds, if_neg h]
def Has (z : Nat) (a : Act) (l : List (Nat × Value)) : Prop := a.tmps.size = z ∧ ∀ s v, (s, v) ∈ l → a.tmps[s]? = some v
theorem Has.put {z : Nat} {a : Act} {l : List (Nat × Value)} (h : Has z a l) (d : Nat) (u : Value) (hd : d < z) (hn : ∀ p ∈ l, p.1 ≠ d) : Has z (a.put (some d) u) ((d, u) :: l) := by
  have hs : d < a.tmps.size := by rw [h.1]; exact hd
  refine ⟨by show (a.tmps.setIfInBounds d u).size = z; rw [Array.size_setIfInBounds]; exact h.1, fun s v hm => ?_⟩
  rw [put_get a d u s hs]
  rcases List.mem_cons.1 hm with e | e
  · cases e; rw [if_pos rfl]
  · rw [if_neg (hn _ e)]; exact h.2 s v e
theorem step_append_run {P : Program} {w w' : World} {ops : Array Oper} {o : Oper} {a : Act} {K : Act → World → Prop} {Q : Exit → Act → World → Prop} {E : Prop} (hgd : o.guard = none) (s x : Operand) (t : TypeId)
    (ho : o.op = .call { callee := .builtin .append, args := #[s, x], argTypes := #[t, t] }) (v u v' : Value) (hs : a.eval s = v) (hx : a.eval x = u)
    (hrun : (Builtin.append_ #[t, t] o.type #[v, u]).run P w = .ok v' w') (h : K (a.put o.dst v') w') : if Region.wanted o (yielded ops a.tmps) = true then Oper.wp P o a w K Q else E := by
  have hw : Region.wanted o (yielded ops a.tmps) = true := by simp [Region.wanted, hgd]
  rw [if_pos hw]
  unfold Oper.wp
  simp [execOp, ho, resolve, invoke, builtin, hs, hx, hrun, Result.andThen]
  exact h
def bset (b : Nat → Bool) (i : Nat) : Nat → Bool := fun j => if j = i then true else b j
theorem bset_ne {b : Nat → Bool} {i j : Nat} (h : j ≠ i) : bset b i j = b j := if_neg h
theorem bset_eq {b : Nat → Bool} {i : Nat} : bset b i i = true := if_pos rfl
theorem upd_ne {f : Nat → Value} {i j : Nat} {u : Value} (h : j ≠ i) : upd f i u j = f j := if_neg h
theorem upd_eq {f : Nat → Value} {i : Nat} {u : Value} : upd f i u i = u := if_pos rfl
theorem bits_set {done : Array Bool} {i : Nat} (h : i < done.size) : (fun j => (done.setIfInBounds i true).getD j false) = bset (fun j => done.getD j false) i := by
  funext j
  unfold bset
  by_cases e : j = i
  · subst e; rw [if_pos rfl]; simp [h]
  · rw [if_neg e]; exact done_ne (Ne.symm e)
theorem run_joinFA {w : World} {B : Nat} {v : Value} {N : List R} {q : Option Addr} {cq n : Nat} {a : List R} (T : TypeId) (ho : OwnF w B v N) (hs : SlR w q a) (hn : n = a.length) (hq : q = none → cq = 0) (hl : N.length + a.length ≤ 1000) (hB : B ≤ w.heap.size) :
    ∃ v' w', (Builtin.append_ #[27, 27] T #[v, .slice q n cq]).run Tryz.prog w = .ok v' w' ∧ OwnF w' B v' (N ++ a) ∧ w.grownBy w' v.ownBlock ∧ (v'.ownBlock = v.ownBlock ∨ v'.ownBlock = some w.heap.size) := by
  subst hn
  obtain ⟨i0, hinf, hz0, hz1, hz2⟩ := info_parts info_fold
  unfold OwnF at ho
  cases q with
  | none =>
    have := hq rfl
    subst this
    have ha : a = [] := by
      rcases hs with h | ⟨b, off, h, _⟩
      · exact h
      · cases h
    subst ha
    have hrun := run_append_owned_none (P := Tryz.prog) (w := w) B 27 T 33 i0 2 Tryz.underlying27 hinf v N.length _ ho
    refine ⟨v, w, hrun, ?_, World.grownBy.refl _ _, .inl rfl⟩
    unfold OwnF
    rw [List.append_nil]; exact ho
  | some ad =>
    have hn : ∀ j u, (a.flatMap encR)[j]? = some u → w.cell? (ad.add j) = some u := by
      rcases hs with h | ⟨b, off, h, hc⟩
      · subst h; intro j u hu; simp at hu
      · simp only [Option.some.injEq] at h
        subst h
        exact newsR_at hc
    obtain ⟨v', w', h1, h2, h3, _, h4⟩ := run_append_own_at (P := Tryz.prog) (w := w) B 27 T 33 i0 (.agg #[.int .i64 0, .int .i64 0]) 2 16 Tryz.underlying27 hinf hz0 hz1 hz2 rfl (by decide) v N.length _ ho ad a.length cq (a.flatMap encR) (by rw [encs_length]) hn (by intro u hu; obtain ⟨x, rfl⟩ := enc_one u hu; rfl) (by simp only [maxLen]; omega) (by omega) hB
    refine ⟨v', w', h1, ?_, h3, h4⟩
    unfold OwnF
    rw [List.length_append, List.flatMap_append]
    exact h2
def RWF (x : World) (z : Nat) (p : Nat → Bool) (f : Nat → Value) (D : Nat → List R) : Prop :=
  (∀ j, p j = true → OwnF x z (f j) (D j)) ∧ ∀ i j g, i ≠ j → p i = true → p j = true → (f i).ownBlock = some g → (f j).ownBlock ≠ some g
theorem ownF_keep {x y : World} {z : Nat} {v : Value} {l : List R} (h : OwnF x z v l) (hk : ∀ g, v.ownBlock = some g → y.heap[g]? = x.heap[g]?) : OwnF y z v l := by
  refine ⟨h.1, ?_⟩
  rcases h.2 with h2 | ⟨g, cap, cur, rfl, hg, hh, r⟩
  · exact .inl h2
  · exact .inr ⟨g, cap, cur, rfl, hg, by rw [hk g rfl]; exact hh, r⟩
theorem RWF.next {x y : World} {z i : Nat} {p p' : Nat → Bool} {f : Nat → Value} {u : Value} {D : Nat → List R} (h : RWF x z p f D)
    (hp : ∀ j, p' j = true → j = i ∨ (j ≠ i ∧ p j = true ∧ ∀ g, (f j).ownBlock = some g → y.heap[g]? = x.heap[g]?))
    (hi : p' i = true → OwnF y z u (D i) ∧ ∀ j g, j ≠ i → p' j = true → (f j).ownBlock = some g → u.ownBlock ≠ some g) : RWF y z p' (upd f i u) D := by
  have e : ∀ j, j ≠ i → upd f i u j = f j := fun j hj => if_neg hj
  have e' : upd f i u i = u := if_pos rfl
  refine ⟨fun j hj => ?_, fun j k g hjk hj hk hg => ?_⟩
  · rcases hp j hj with rfl | ⟨hne, h1, h2⟩
    · rw [e']; exact (hi hj).1
    · rw [e j hne]; exact ownF_keep (h.1 j h1) h2
  · rcases hp j hj with rfl | ⟨hne, h1, h2⟩
    · rw [e'] at hg
      rw [e k (Ne.symm hjk)]
      exact fun e2 => (hi hj).2 k g (Ne.symm hjk) hk e2 hg
    · rw [e j hne] at hg
      rcases hp k hk with rfl | ⟨hne2, k1, k2⟩
      · rw [e']; exact (hi hk).2 j g hne hj hg
      · rw [e k hne2]; exact h.2 j k g hjk h1 k1 hg
theorem RWF.lt {x : World} {z j g : Nat} {p : Nat → Bool} {f : Nat → Value} {D : Nat → List R} (h : RWF x z p f D) (hj : p j = true) (hg : (f j).ownBlock = some g) : g < x.heap.size := (World.ownsRow.lt (h.1 j hj) g hg).2
theorem slR_take {w : World} {b : Nat} {F : List R} (h : SlR w (some ⟨b, 0, none⟩) F) (i : Nat) : SlR w (some ⟨b, 0, none⟩) (F.take i) := by
  rcases h with h | ⟨b', off, h2, h3⟩
  · left; rw [h]; simp
  · simp only [Option.some.injEq, Addr.mk.injEq, and_true] at h2
    obtain ⟨rfl, rfl⟩ := h2
    refine .inr ⟨b, 0, rfl, fun j hj => ?_⟩
    have hj2 : j < i ∧ j < F.length := by rw [List.length_take] at hj; omega
    rw [show gr (F.take i) j = gr F j by rw [gr_get hj, gr_get hj2.2, List.getElem_take]]
    exact h3 j hj2.2
theorem slR_drop {w : World} {b : Nat} {F : List R} (h : SlR w (some ⟨b, 0, none⟩) F) (i o : Nat) (ho : i < F.length → o = i * 2) : SlR w (some ⟨b, o, none⟩) (F.drop i) := by
  by_cases hi : i < F.length
  · rcases h with h | ⟨b', off, h2, h3⟩
    · rw [h] at hi; simp at hi
    · simp only [Option.some.injEq, Addr.mk.injEq, and_true] at h2
      obtain ⟨rfl, rfl⟩ := h2
      refine .inr ⟨b, o, rfl, fun j hj => ?_⟩
      have hj2 : i + j < F.length := by rw [List.length_drop] at hj; omega
      rw [show gr (F.drop i) j = gr F (i + j) by rw [gr_get hj, gr_get hj2, List.getElem_drop]]
      have := h3 (i + j) hj2
      rw [show 0 + (i + j) * 2 = o + j * 2 by rw [ho hi]; omega] at this
      exact this
  · left; rw [List.drop_eq_nil_of_le (by omega)]
def lo4 (i : Nat) : Nat := if i = 3 then 0 else (i + 1) * 2
def f15Alive (b : Nat → Bool) : Nat → Bool
  | 0 => b 0 && !b 5
  | 5 => b 5 && !b 11
  | 11 => b 11
  | _ => false
def f15D (i : Nat) (F : List R) : Nat → List R
  | 0 => []
  | 5 => F.take i
  | 11 => F.take i ++ F.drop (i + 1)
  | _ => []
structure f15H (i : Nat) (F : List R) (z : Nat) (b : Nat → Bool) (f : Nat → Value) (x : World) : Prop where
  c5_0 : b 5 = true → b 0 = true
  c11_5 : b 11 = true → b 5 = true
  rw : RWF x z (f15Alive b) f (f15D i F)
theorem f15H.pure {x y : World} {z io : Nat} {b : Nat → Bool} {f : Nat → Value} {u : Value} {i : Nat} {F : List R} (h : f15H i F z b f x) (hb : Below x.heap.size x y) (h0 : io ≠ 0) (h5 : io ≠ 5) (h11 : io ≠ 11) : f15H i F z (bset b io) (upd f io u) y := by
  have e0 := bset_ne (b := b) (Ne.symm h0)
  have e5 := bset_ne (b := b) (Ne.symm h5)
  have e11 := bset_ne (b := b) (Ne.symm h11)
  refine ⟨?_, ?_, ?_⟩
  · rw [e5, e0]; exact h.c5_0
  · rw [e11, e5]; exact h.c11_5
  · have ea : f15Alive (bset b io) = f15Alive b := by
      funext j
      unfold f15Alive
      simp only [e0, e5, e11]
    rw [ea]
    have hi : f15Alive b io = false := by
      unfold f15Alive
      split <;> first | rfl | (exfalso; first | exact h0 rfl | exact h5 rfl | exact h11 rfl)
    refine h.rw.next (fun j hj => ?_) (fun e => by rw [hi] at e; cases e)
    exact .inr ⟨(fun e => by subst e; rw [hi] at hj; cases hj), hj, fun g hg => hb.block g (RWF.lt h.rw hj hg)⟩
theorem f15alive0 {b : Nat → Bool} {j : Nat} (hj : f15Alive (bset b 0) j = true) (e : j ≠ 0) : f15Alive b j = true ∧ j ≠ 0 := by
  unfold f15Alive at hj ⊢
  split at hj
  · exact absurd rfl e
  · simp [bset] at hj ⊢ <;> simp [hj]
  · simp [bset] at hj ⊢ <;> simp [hj]
  · cases hj
theorem f15H.s0 {x y : World} {z : Nat} {b : Nat → Bool} {f : Nat → Value} {u : Value} {i : Nat} {F : List R} (h : f15H i F z b f x) (hb : Below x.heap.size x y) (ho : OwnF y z u (f15D i F 0)) (hu : u.ownBlock = some x.heap.size) (_ni : b 0 = false) : f15H i F z (bset b 0) (upd f 0 u) y := by
  refine ⟨?_, ?_, ?_⟩
  · exact fun _ => bset_eq
  · rw [bset_ne (show (11 : Nat) ≠ 0 by decide), bset_ne (show (5 : Nat) ≠ 0 by decide)]; exact h.c11_5
  · refine h.rw.next (fun j hj => ?_) (fun _ => ⟨ho, fun j g hj hp hg => ?_⟩)
    · by_cases e : j = 0
      · exact .inl e
      · refine .inr ⟨e, ?_⟩
        obtain ⟨a1, a2⟩ := f15alive0 (b := b) hj e
        exact ⟨a1, fun g hg => hb.block g (RWF.lt h.rw a1 hg)⟩
    · obtain ⟨a1, _⟩ := f15alive0 (b := b) hp hj
      have := RWF.lt h.rw a1 hg
      rw [hu]
      intro e
      have := Option.some.inj e
      omega
theorem f15alive5 {b : Nat → Bool} {j : Nat} (hj : f15Alive (bset b 5) j = true) (e : j ≠ 5) : f15Alive b j = true ∧ j ≠ 0 := by
  unfold f15Alive at hj ⊢
  split at hj
  · simp [bset] at hj ⊢ <;> simp [hj]
  · exact absurd rfl e
  · simp [bset] at hj ⊢ <;> simp [hj]
  · cases hj
theorem f15H.s5 {x y : World} {z : Nat} {b : Nat → Bool} {f : Nat → Value} {u : Value} {i : Nat} {F : List R} (h : f15H i F z b f x) (hg7 : x.grownBy y (f 0).ownBlock) (ho : OwnF y z u (f15D i F 5)) (hu : u.ownBlock = (f 0).ownBlock ∨ u.ownBlock = some x.heap.size) (k0 : b 0 = true) (ni : b 5 = false) : f15H i F z (bset b 5) (upd f 5 u) y := by
  have ksrc : f15Alive b 0 = true := by simp [f15Alive, k0, ni]
  refine ⟨?_, ?_, ?_⟩
  · rw [bset_ne (show (0 : Nat) ≠ 5 by decide)]; exact fun _ => k0
  · exact fun _ => bset_eq
  · refine h.rw.next (fun j hj => ?_) (fun _ => ⟨ho, fun j g hj hp hg => ?_⟩)
    · by_cases e : j = 5
      · exact .inl e
      · refine .inr ⟨e, ?_⟩
        obtain ⟨a1, a2⟩ := f15alive5 (b := b) hj e
        exact ⟨a1, fun g hg => hg7.block g (RWF.lt h.rw a1 hg) (fun e2 => h.rw.2 j 0 g a2 a1 ksrc hg e2.symm)⟩
    · obtain ⟨a1, a2⟩ := f15alive5 (b := b) hp hj
      rcases hu with hu | hu
      · rw [hu]; exact h.rw.2 j 0 g a2 a1 ksrc hg
      · have := RWF.lt h.rw a1 hg
        rw [hu]
        intro e
        have := Option.some.inj e
        omega
theorem f15alive11 {b : Nat → Bool} {j : Nat} (hj : f15Alive (bset b 11) j = true) (e : j ≠ 11) : f15Alive b j = true ∧ j ≠ 5 := by
  unfold f15Alive at hj ⊢
  split at hj
  · simp [bset] at hj ⊢ <;> simp [hj]
  · simp [bset] at hj ⊢ <;> simp [hj]
  · exact absurd rfl e
  · cases hj
theorem f15H.s11 {x y : World} {z : Nat} {b : Nat → Bool} {f : Nat → Value} {u : Value} {i : Nat} {F : List R} (h : f15H i F z b f x) (hg7 : x.grownBy y (f 5).ownBlock) (ho : OwnF y z u (f15D i F 11)) (hu : u.ownBlock = (f 5).ownBlock ∨ u.ownBlock = some x.heap.size) (k5 : b 5 = true) (ni : b 11 = false) : f15H i F z (bset b 11) (upd f 11 u) y := by
  have ksrc : f15Alive b 5 = true := by simp [f15Alive, k5, ni]
  refine ⟨?_, ?_, ?_⟩
  · rw [bset_ne (show (5 : Nat) ≠ 11 by decide), bset_ne (show (0 : Nat) ≠ 11 by decide)]; exact h.c5_0
  · rw [bset_ne (show (5 : Nat) ≠ 11 by decide)]; exact fun _ => k5
  · refine h.rw.next (fun j hj => ?_) (fun _ => ⟨ho, fun j g hj hp hg => ?_⟩)
    · by_cases e : j = 11
      · exact .inl e
      · refine .inr ⟨e, ?_⟩
        obtain ⟨a1, a2⟩ := f15alive11 (b := b) hj e
        exact ⟨a1, fun g hg => hg7.block g (RWF.lt h.rw a1 hg) (fun e2 => h.rw.2 j 5 g a2 a1 ksrc hg e2.symm)⟩
    · obtain ⟨a1, a2⟩ := f15alive11 (b := b) hp hj
      rcases hu with hu | hu
      · rw [hu]; exact h.rw.2 j 5 g a2 a1 ksrc hg
      · have := RWF.lt h.rw a1 hg
        rw [hu]
        intro e
        have := Option.some.inj e
        omega
theorem f15H.none (i : Nat) (F : List R) (z : Nat) (f : Nat → Value) (x : World) : f15H i F z (fun _ => false) f x := by
  refine ⟨by simp, by simp, fun j hj => ?_, fun i j g _ hi => ?_⟩
  · unfold f15Alive at hj; split at hj <;> simp at hj
  · unfold f15Alive at hi; split at hi <;> simp at hi
def f15o0 : Oper := ⟨some 84, Op.buildSlice 27 0 #[], 27, "law.go:74", #[], none⟩
def f15o1 : Oper := ⟨some 85, Op.fieldAddr 30 (.tmp 7) 0, 0, "law.go:74", #[], none⟩
def f15o2 : Oper := ⟨some 86, Op.load 27 (.tmp 85), 27, "law.go:74", #[⟨1, .data⟩], none⟩
def f15o3 : Oper := ⟨some 87, Op.move (.tmp 3), 3, "law.go:74", #[], none⟩
def f15o4 : Oper := ⟨some 88, Op.slice 27 (.tmp 86) none (some (.tmp 87)) none, 27, "law.go:74", #[⟨2, .data⟩, ⟨3, .data⟩], none⟩
def f15o5 : Oper := ⟨some 89, Op.call { callee := Callee.builtin Builtin.append, args := #[.tmp 84, .tmp 88], argTypes := #[27, 27] }, 27, "law.go:74", #[⟨0, .data⟩, ⟨4, .data⟩], none⟩
def f15o6 : Oper := ⟨some 90, Op.fieldAddr 30 (.tmp 7) 0, 0, "law.go:74", #[], none⟩
def f15o7 : Oper := ⟨some 91, Op.load 27 (.tmp 90), 27, "law.go:74", #[⟨6, .data⟩], none⟩
def f15o8 : Oper := ⟨some 92, Op.move (.tmp 3), 3, "law.go:74", #[], none⟩
def f15o9 : Oper := ⟨some 93, Op.binOp BinOp.add 3 (.tmp 92) (.const (.int .i64 1)) 3, 3, "law.go:74", #[⟨8, .data⟩], none⟩
def f15o10 : Oper := ⟨some 94, Op.slice 27 (.tmp 91) (some (.tmp 93)) none none, 27, "law.go:74", #[⟨7, .data⟩, ⟨9, .data⟩], none⟩
def f15o11 : Oper := ⟨some 95, Op.call { callee := Callee.builtin Builtin.append, args := #[.tmp 89, .tmp 94], argTypes := #[27, 27] }, 27, "law.go:74", #[⟨5, .data⟩, ⟨10, .data⟩, ⟨5, .chain⟩], none⟩
def f15o12 : Oper := ⟨some 96, Op.fieldAddr 30 (.tmp 7) 0, 0, "law.go:74", #[⟨0, .phase⟩, ⟨1, .phase⟩, ⟨2, .phase⟩, ⟨3, .phase⟩, ⟨4, .phase⟩, ⟨5, .phase⟩, ⟨6, .phase⟩, ⟨7, .phase⟩, ⟨8, .phase⟩, ⟨9, .phase⟩, ⟨10, .phase⟩, ⟨11, .phase⟩], none⟩
def f15o13 : Oper := ⟨none, Op.store 27 (.tmp 96) (.tmp 95), 0, "law.go:74", #[⟨12, .data⟩, ⟨11, .data⟩, ⟨11, .chain⟩, ⟨0, .phase⟩, ⟨1, .phase⟩, ⟨2, .phase⟩, ⟨3, .phase⟩, ⟨4, .phase⟩, ⟨5, .phase⟩, ⟨6, .phase⟩, ⟨7, .phase⟩, ⟨8, .phase⟩, ⟨9, .phase⟩, ⟨10, .phase⟩, ⟨11, .phase⟩], none⟩
def f15Ops : Array Oper := #[f15o0, f15o1, f15o2, f15o3, f15o4, f15o5, f15o6, f15o7, f15o8, f15o9, f15o10, f15o11, f15o12, f15o13]
def f15Pre : Array Bool := #[true, true, true, true, true, true, true, true, true, true, true, true, false, false]
def f15K (bx b1 i : Nat) (_F : List R) : Nat → Value → Prop
  | 0 => fun v => ∃ g, v = .slice (some ⟨g, 0, none⟩) 0 0
  | 1 => fun v => v = .pointer (some ⟨bx, 0, none⟩)
  | 2 => fun v => v = .slice (some ⟨b1, 0, none⟩) 4 4
  | 3 => fun v => v = .int .i64 ((i : Nat) : Int)
  | 4 => fun v => v = .slice (some ⟨b1, 0, none⟩) i 4
  | 5 => fun v => ∃ q c, v = .slice q i c
  | 6 => fun v => v = .pointer (some ⟨bx, 0, none⟩)
  | 7 => fun v => v = .slice (some ⟨b1, 0, none⟩) 4 4
  | 8 => fun v => v = .int .i64 ((i : Nat) : Int)
  | 9 => fun v => v = .int .i64 (((i + 1 : Nat)) : Int)
  | 10 => fun v => v = .slice (some ⟨b1, lo4 i, none⟩) (3 - i) (3 - i)
  | 11 => fun v => ∃ q c, v = .slice q 3 c
  | _ => fun _ => True
theorem f15_slots (f : Nat → Value) : slotsOf f15Ops f15Pre f = [(84, f 0), (85, f 1), (86, f 2), (87, f 3), (88, f 4), (89, f 5), (90, f 6), (91, f 7), (92, f 8), (93, f 9), (94, f 10), (95, f 11)] := by kernel_rfl
set_option maxHeartbeats 6400000 in
set_option maxRecDepth 100000 in
theorem f15_wp {Q : Exit → Act → World → Prop} {a0 : Act} {w : World} (bx b1 i : Nat) (F : List R) (hsize : a0.tmps.size = 258) (h3 : a0.tmps[3]? = some (.int .i64 ((i : Nat) : Int))) (hb : a0.tmps[7]? = some (.pointer (some ⟨bx, 0, none⟩))) (hc : w.drew.cell? ⟨bx, 0, none⟩ = some (.slice (some ⟨b1, 0, none⟩) 4 4)) (hs : SlR w.drew (some ⟨b1, 0, none⟩) F) (hF : F.length = 4) (hi : i < 4)
    (fin : ∀ (f : Nat → Value) (y : World), (∀ j, j < 14 → f15Pre.getD j false = true → f15K bx b1 i F j (f j)) → Below w.drew.heap.size w.drew y → f15H i F w.drew.heap.size (fun j => f15Pre.getD j false) f y → wpAny Tryz.prog .any f15Ops Q 2 f15Pre (putL a0 [(84, f 0), (85, f 1), (86, f 2), (87, f 3), (88, f 4), (89, f 5), (90, f 6), (91, f 7), (92, f 8), (93, f 9), (94, f 10), (95, f 11)]) y) (id : Nat) :
    (Code.region id f15Ops true).wp Tryz.prog Q a0 w := by
  refine wp_region_invS9 f15Pre (fun j v _ => f15K bx b1 i F j v) (fun done f x => f15H i F w.drew.heap.size (fun j => done.getD j false) f x) (fun x y => Below w.drew.heap.size x y) 12 2 (by kernel_rfl) (by kernel_rfl) (by rw [hsize]; kernel_rfl) (by kernel_rfl) (by kernel_rfl) (Below.refl _ _) (fun _ _ _ h1 h2 => h1.trans h2) (fun _ _ _ _ h1 _ => h1) ?_ (fun f y h1 h2 h3 => by rw [f15_slots]; exact fin f y h1 h2 h3) ?_
  rotate_left
  · have e : (fun j => (Array.replicate f15Ops.size false).getD j false) = fun _ => false := by
      funext j
      by_cases hj : j < f15Ops.size <;> simp [hj]
    show f15H i F w.drew.heap.size (fun j => (Array.replicate f15Ops.size false).getD j false) _ _
    rw [e]
    exact f15H.none i F _ _ _
  intro i_ o ho hp done f a x hR hbase hdeps hH0 hdsz hnd hdd hgood K hK0
  have hi_ : i_ < 14 := by
    rcases Nat.lt_or_ge i_ 14 with h | h
    · exact h
    · have : f15Ops.size ≤ i_ := h
      rw [Array.getElem?_eq_none this] at ho; cases ho
  have hH : f15H i F w.drew.heap.size (fun j => done.getD j false) f x := hH0
  have hzx := hR.size
  have hlt : i_ < done.size := by rw [hdsz]; exact hi_
  have hnd' : done.getD i_ false = false := by rw [getD_flip hlt false true]; exact hnd
  have ha : ∀ (u : Value) (y : World), f15K bx b1 i F i_ u → Below w.drew.heap.size x y → f15H i F w.drew.heap.size (bset (fun j => done.getD j false) i_) (upd f i_ u) y → K (a.put o.dst u) y := fun u y k1 k2 k3 => hK0 u y k1 k2 (by rw [← bits_set hlt] at k3; exact k3)
  clear hK0
  have dep : ∀ j, (o.after.any fun e => Region.binds .any e && e.on == j) = true → (∀ s, slotOf f15Ops j = some s → a.tmps[s]? = some (f j)) ∧ f15K bx b1 i F j (f j) := by
    intro j h
    obtain ⟨e, he, h2⟩ := Array.any_eq_true'.1 h
    simp only [Bool.and_eq_true, beq_iff_eq] at h2
    obtain ⟨h3, rfl⟩ := h2
    exact hdeps e he h3
  have kd : ∀ j, j < 14 → (o.after.any fun e => Region.binds .any e && e.on == j) = true → done.getD j false = true := by
    intro j hj h
    obtain ⟨e, he, h2⟩ := Array.any_eq_true'.1 h
    simp only [Bool.and_eq_true, beq_iff_eq] at h2
    obtain ⟨h3, rfl⟩ := h2
    rw [getD_flip (by rw [hdsz]; exact hj) false true]; exact hdd e he h3
  have bv : ∀ {s : Nat} {v : Value}, a0.tmps[s]? = some v → ((List.range f15Ops.size).all fun j => !(f15Pre.getD j false) || slotOf f15Ops j != some s) = true → a.tmps[s]? = some v := by
    intro s v h0 h
    rw [hbase s fun j hj hjp e => ?_]; exact h0
    have h2 := (List.all_eq_true.1 h) j (List.mem_range.2 hj)
    rw [e, hjp] at h2; simp at h2
  have kc : x.cell? ⟨bx, 0, none⟩ = some (.slice (some ⟨b1, 0, none⟩) 4 4) := keep_cellK hR hc
  have kF : SlR x (some ⟨b1, 0, none⟩) F := hs.below hR
  match i_, hi_ with
  | 0, _ =>
    obtain rfl : f15o0 = o := Option.some.inj (show f15Ops[0]? = some _ from ho)
    refine inv_val (G := fun u V => u = .slice (some ⟨x.heap.size, 0, none⟩) 0 0 ∧ x.alloc (.cells #[] 33) = V) (R := fun _ _ => True) (wanted_none rfl) (v := .slice (some ⟨x.heap.size, 0, none⟩) 0 0) (w2 := x.alloc (.cells #[] 33)) (by simp only [execOp, f15o0]; go_simp) ?_ ⟨rfl, rfl⟩ trivial
    rintro _ _ ⟨rfl, rfl⟩ _
    exact ha _ _ (⟨_, rfl⟩) ((Below.refl _ _).alloc hzx _) (hH.s0 (bl_alloc _ _) (ownF_new (l := []) hzx rfl rfl (by decide)) rfl hnd')
  | 1, _ =>
    obtain rfl : f15o1 = o := Option.some.inj (show f15Ops[1]? = some _ from ho)
    have qb := eval_at (bv hb (by kernel_rfl))
    refine inv_val (G := fun u V => u = .pointer (some ⟨bx, 0, none⟩) ∧ x = V) (R := fun _ _ => True) (wanted_none rfl) (v := .pointer (some ⟨bx, 0, none⟩)) (w2 := x) (by simp only [execOp, f15o1, qb]; go_simp) ?_ ⟨rfl, rfl⟩ trivial
    rintro _ _ ⟨rfl, rfl⟩ _
    exact ha _ _ (rfl) (Below.refl _ _) (hH.pure (Below.refl _ _) (by decide) (by decide) (by decide))
  | 2, _ =>
    obtain rfl : f15o2 = o := Option.some.inj (show f15Ops[2]? = some _ from ho)
    obtain ⟨t1, g1⟩ := dep 1 (by kernel_rfl)
    have q1 := t1 85 (by rfl)
    have e1 : f 1 = .pointer (some ⟨bx, 0, none⟩) := g1
    rw [e1] at q1
    have w1 := eval_at q1
    refine inv_val (G := fun u V => u = .slice (some ⟨b1, 0, none⟩) 4 4 ∧ x = V) (R := fun _ _ => True) (wanted_none rfl) (v := .slice (some ⟨b1, 0, none⟩) 4 4) (w2 := x) (by simp only [execOp, f15o2, w1]; go_simp) ?_ ⟨rfl, rfl⟩ trivial
    rintro _ _ ⟨rfl, rfl⟩ _
    exact ha _ _ (rfl) (Below.refl _ _) (hH.pure (Below.refl _ _) (by decide) (by decide) (by decide))
  | 3, _ =>
    obtain rfl : f15o3 = o := Option.some.inj (show f15Ops[3]? = some _ from ho)
    have qb := eval_at (bv h3 (by kernel_rfl))
    refine inv_val (G := fun u V => u = .int .i64 ((i : Nat) : Int) ∧ x = V) (R := fun _ _ => True) (wanted_none rfl) (v := .int .i64 ((i : Nat) : Int)) (w2 := x) (by simp only [execOp, f15o3, qb]; go_simp) ?_ ⟨rfl, rfl⟩ trivial
    rintro _ _ ⟨rfl, rfl⟩ _
    exact ha _ _ (rfl) (Below.refl _ _) (hH.pure (Below.refl _ _) (by decide) (by decide) (by decide))
  | 4, _ =>
    obtain rfl : f15o4 = o := Option.some.inj (show f15Ops[4]? = some _ from ho)
    obtain ⟨t2, g2⟩ := dep 2 (by kernel_rfl)
    have q2 := t2 86 (by rfl)
    have e2 : f 2 = .slice (some ⟨b1, 0, none⟩) 4 4 := g2
    rw [e2] at q2
    have w2 := eval_at q2
    obtain ⟨t3, g3⟩ := dep 3 (by kernel_rfl)
    have q3 := t3 87 (by rfl)
    have e3 : f 3 = .int .i64 ((i : Nat) : Int) := g3
    rw [e3] at q3
    have w3 := eval_at q3
    have hiI : ((i : Nat) : Int) < 4 := by omega
    have hi0 : (0 : Int) ≤ ((i : Nat) : Int) := by omega
    refine inv_val (G := fun u V => u = .slice (some ⟨b1, 0, none⟩) i 4 ∧ x = V) (R := fun _ _ => True) (wanted_none rfl) (v := .slice (some ⟨b1, 0, none⟩) i 4) (w2 := x) (by rcases (show i = 0 ∨ i = 1 ∨ i = 2 ∨ i = 3 by omega) with rfl | rfl | rfl | rfl <;> (simp only [execOp, f15o4, w2]; go_simp; try rfl)) ?_ ⟨rfl, rfl⟩ trivial
    rintro _ _ ⟨rfl, rfl⟩ _
    exact ha _ _ (rfl) (Below.refl _ _) (hH.pure (Below.refl _ _) (by decide) (by decide) (by decide))
  | 5, _ =>
    obtain rfl : f15o5 = o := Option.some.inj (show f15Ops[5]? = some _ from ho)
    obtain ⟨t0, g0⟩ := dep 0 (by kernel_rfl)
    have q0 := t0 84 (by rfl)
    have k0 := kd 0 (by decide) (by kernel_rfl)
    have ho : OwnF x w.drew.heap.size (f 0) ([]) := hH.rw.1 0 (by simp [f15Alive, k0, hnd'])
    obtain ⟨t4, g4⟩ := dep 4 (by kernel_rfl)
    have q4 := t4 88 (by rfl)
    have e4 : f 4 = .slice (some ⟨b1, 0, none⟩) i 4 := g4
    rw [e4] at q4
    have w4 := eval_at q4
    have qs_ := q4
    obtain ⟨v', w', r1, r2, r3, r4⟩ := run_joinFA (cq := 4) (n := i) 27 ho (slR_take kF i) (by rw [List.length_take]; omega) (by simp) (by simp; omega) hzx
    refine step_append_run rfl _ _ 27 rfl (f 0) _ v' (eval_at q0) (eval_at qs_) r1 ?_
    obtain ⟨q_, c_, hv', _⟩ := ownF_form r2
    exact ha v' w' ⟨q_, c_, by rw [hv']; simp; omega⟩ ((Below.refl _ _).grown r3 hzx (fun k hk => (World.ownsRow.lt ho k hk).1)) (hH.s5 r3 r2 r4 k0 hnd')
  | 6, _ =>
    obtain rfl : f15o6 = o := Option.some.inj (show f15Ops[6]? = some _ from ho)
    have qb := eval_at (bv hb (by kernel_rfl))
    refine inv_val (G := fun u V => u = .pointer (some ⟨bx, 0, none⟩) ∧ x = V) (R := fun _ _ => True) (wanted_none rfl) (v := .pointer (some ⟨bx, 0, none⟩)) (w2 := x) (by simp only [execOp, f15o6, qb]; go_simp) ?_ ⟨rfl, rfl⟩ trivial
    rintro _ _ ⟨rfl, rfl⟩ _
    exact ha _ _ (rfl) (Below.refl _ _) (hH.pure (Below.refl _ _) (by decide) (by decide) (by decide))
  | 7, _ =>
    obtain rfl : f15o7 = o := Option.some.inj (show f15Ops[7]? = some _ from ho)
    obtain ⟨t6, g6⟩ := dep 6 (by kernel_rfl)
    have q6 := t6 90 (by rfl)
    have e6 : f 6 = .pointer (some ⟨bx, 0, none⟩) := g6
    rw [e6] at q6
    have w6 := eval_at q6
    refine inv_val (G := fun u V => u = .slice (some ⟨b1, 0, none⟩) 4 4 ∧ x = V) (R := fun _ _ => True) (wanted_none rfl) (v := .slice (some ⟨b1, 0, none⟩) 4 4) (w2 := x) (by simp only [execOp, f15o7, w6]; go_simp) ?_ ⟨rfl, rfl⟩ trivial
    rintro _ _ ⟨rfl, rfl⟩ _
    exact ha _ _ (rfl) (Below.refl _ _) (hH.pure (Below.refl _ _) (by decide) (by decide) (by decide))
  | 8, _ =>
    obtain rfl : f15o8 = o := Option.some.inj (show f15Ops[8]? = some _ from ho)
    have qb := eval_at (bv h3 (by kernel_rfl))
    refine inv_val (G := fun u V => u = .int .i64 ((i : Nat) : Int) ∧ x = V) (R := fun _ _ => True) (wanted_none rfl) (v := .int .i64 ((i : Nat) : Int)) (w2 := x) (by simp only [execOp, f15o8, qb]; go_simp) ?_ ⟨rfl, rfl⟩ trivial
    rintro _ _ ⟨rfl, rfl⟩ _
    exact ha _ _ (rfl) (Below.refl _ _) (hH.pure (Below.refl _ _) (by decide) (by decide) (by decide))
  | 9, _ =>
    obtain rfl : f15o9 = o := Option.some.inj (show f15Ops[9]? = some _ from ho)
    obtain ⟨t8, g8⟩ := dep 8 (by kernel_rfl)
    have q8 := t8 92 (by rfl)
    have e8 : f 8 = .int .i64 ((i : Nat) : Int) := g8
    rw [e8] at q8
    have w8 := eval_at q8
    refine inv_val (G := fun u V => u = .int .i64 (((i + 1 : Nat)) : Int) ∧ x = V) (R := fun _ _ => True) (wanted_none rfl) (v := .int .i64 (((i + 1 : Nat)) : Int)) (w2 := x) (by rcases (show i = 0 ∨ i = 1 ∨ i = 2 ∨ i = 3 by omega) with rfl | rfl | rfl | rfl <;> (simp only [execOp, f15o9, w8]; go_simp; try rfl)) ?_ ⟨rfl, rfl⟩ trivial
    rintro _ _ ⟨rfl, rfl⟩ _
    exact ha _ _ (rfl) (Below.refl _ _) (hH.pure (Below.refl _ _) (by decide) (by decide) (by decide))
  | 10, _ =>
    obtain rfl : f15o10 = o := Option.some.inj (show f15Ops[10]? = some _ from ho)
    obtain ⟨t7, g7⟩ := dep 7 (by kernel_rfl)
    have q7 := t7 91 (by rfl)
    have e7 : f 7 = .slice (some ⟨b1, 0, none⟩) 4 4 := g7
    rw [e7] at q7
    have w7 := eval_at q7
    obtain ⟨t9, g9⟩ := dep 9 (by kernel_rfl)
    have q9 := t9 93 (by rfl)
    have e9 : f 9 = .int .i64 (((i + 1 : Nat)) : Int) := g9
    rw [e9] at q9
    have w9 := eval_at q9
    have hiI : ((i : Nat) : Int) < 4 := by omega
    have hi0 : (0 : Int) ≤ ((i : Nat) : Int) := by omega
    refine inv_val (G := fun u V => u = .slice (some ⟨b1, lo4 i, none⟩) (3 - i) (3 - i) ∧ x = V) (R := fun _ _ => True) (wanted_none rfl) (v := .slice (some ⟨b1, lo4 i, none⟩) (3 - i) (3 - i)) (w2 := x) (by rcases (show i = 0 ∨ i = 1 ∨ i = 2 ∨ i = 3 by omega) with rfl | rfl | rfl | rfl <;> (simp only [execOp, f15o10, w7]; go_simp; try rfl)) ?_ ⟨rfl, rfl⟩ trivial
    rintro _ _ ⟨rfl, rfl⟩ _
    exact ha _ _ (rfl) (Below.refl _ _) (hH.pure (Below.refl _ _) (by decide) (by decide) (by decide))
  | 11, _ =>
    obtain rfl : f15o11 = o := Option.some.inj (show f15Ops[11]? = some _ from ho)
    obtain ⟨t5, g5⟩ := dep 5 (by kernel_rfl)
    have q5 := t5 89 (by rfl)
    have k5 := kd 5 (by decide) (by kernel_rfl)
    have ho : OwnF x w.drew.heap.size (f 5) (F.take i) := hH.rw.1 5 (by simp [f15Alive, k5, hnd'])
    obtain ⟨t10, g10⟩ := dep 10 (by kernel_rfl)
    have q10 := t10 94 (by rfl)
    have e10 : f 10 = .slice (some ⟨b1, lo4 i, none⟩) (3 - i) (3 - i) := g10
    rw [e10] at q10
    have w10 := eval_at q10
    have qs_ := q10
    obtain ⟨v', w', r1, r2, r3, r4⟩ := run_joinFA (cq := 3 - i) (n := 3 - i) 27 ho (slR_drop kF (i + 1) (lo4 i) (fun h => by unfold lo4; rw [if_neg (by omega)])) (by rw [List.length_drop]; omega) (by simp) (by simp; omega) hzx
    refine step_append_run rfl _ _ 27 rfl (f 5) _ v' (eval_at q5) (eval_at qs_) r1 ?_
    obtain ⟨q_, c_, hv', _⟩ := ownF_form r2
    exact ha v' w' ⟨q_, c_, by rw [hv']; simp; omega⟩ ((Below.refl _ _).grown r3 hzx (fun k hk => (World.ownsRow.lt ho k hk).1)) (hH.s11 r3 r2 r4 k5 hnd')
  | 12, _ => exact absurd (show f15Pre.getD 12 false = true from hp) (by decide)
  | 13, _ => exact absurd (show f15Pre.getD 13 false = true from hp) (by decide)
set_option maxHeartbeats 3200000 in
set_option maxRecDepth 100000 in
theorem f15_all {Q : Exit → Act → World → Prop} {a0 : Act} {w : World} (bx b1 i : Nat) (F : List R) (u1 : Value) (hsize : a0.tmps.size = 258) (h3 : a0.tmps[3]? = some (.int .i64 ((i : Nat) : Int))) (hb : a0.tmps[7]? = some (.pointer (some ⟨bx, 0, none⟩))) (hc : w.drew.cell? ⟨bx, 0, none⟩ = some (.slice (some ⟨b1, 0, none⟩) 4 4)) (hs : SlR w.drew (some ⟨b1, 0, none⟩) F) (hF : F.length = 4) (hi : i < 4)
    (hx : Bx w.drew bx 30 #[.slice (some ⟨b1, 0, none⟩) 4 4, u1])
    (fin : ∀ (f : Nat → Value) (q : Option Addr) (c : Nat) (y : World), OwnF y w.drew.heap.size (.slice q 3 c) (F.take i ++ F.drop (i + 1)) → Bx y bx 30 #[.slice q 3 c, u1] → w.drew.grownBy y (some bx) → Q .normal ((putL a0 [(84, f 0), (85, f 1), (86, f 2), (87, f 3), (88, f 4), (89, f 5), (90, f 6), (91, f 7), (92, f 8), (93, f 9), (94, f 10), (95, .slice q 3 c)]).put (some 96) (.pointer (some ⟨bx, 0, none⟩))) y) (id : Nat) :
    (Code.region id f15Ops true).wp Tryz.prog Q a0 w := by
  refine f15_wp bx b1 i F hsize h3 hb hc hs hF hi ?_ id
  intro f y hk hbl hH
  have ol : OwnF y w.drew.heap.size (f 11) (F.take i ++ F.drop (i + 1)) := hH.rw.1 11 rfl
  obtain ⟨q, c, el⟩ : ∃ q c, f 11 = .slice q 3 c := hk 11 (by decide) (by decide)
  rw [el] at ol
  have hbx : bx < w.drew.heap.size := hx.lt
  have xy := hx.below hbl
  have c0 : y.cell? ⟨bx, 0, none⟩ = some (.slice (some ⟨b1, 0, none⟩) 4 4) := xy.cell rfl
  have f0 := xy.free 0
  have x2 : Bx (y.setCell ⟨bx, 0, none⟩ (.slice q 3 c)) bx 30 #[.slice q 3 c, u1] := xy.set 0 (.slice q 3 c)
  have o2 : OwnF (y.setCell ⟨bx, 0, none⟩ (.slice q 3 c)) w.drew.heap.size (.slice q 3 c) (F.take i ++ F.drop (i + 1)) := ownF_keep ol fun g hg => by
    have := (World.ownsRow.lt ol g hg).1
    exact Below.heap_setCell _ _ _ _ (show g ≠ bx by omega)
  have gr : w.drew.grownBy (y.setCell ⟨bx, 0, none⟩ (.slice q 3 c)) (some bx) := ⟨hbl.os, hbl.tape, hbl.output, by rw [World.size_setCell]; exact hbl.size, fun k hk hne => (Below.heap_setCell _ _ _ _ (fun e => hne (by rw [e]))).trans (hbl.block k hk)⟩
  have fin' := fin f q c _ o2 x2 gr
  rw [el]
  have H : Has 258 (putL a0 [(84, f 0), (85, f 1), (86, f 2), (87, f 3), (88, f 4), (89, f 5), (90, f 6), (91, f 7), (92, f 8), (93, f 9), (94, f 10), (95, .slice q 3 c)]) [(95, .slice q 3 c), (7, .pointer (some ⟨bx, 0, none⟩))] := by
    refine ⟨by rw [putL_size]; exact hsize, fun s v hm => ?_⟩
    have h1 := putL_get [(84, f 0), (85, f 1), (86, f 2), (87, f 3), (88, f 4), (89, f 5), (90, f 6), (91, f 7), (92, f 8), (93, f 9), (94, f 10), (95, .slice q 3 c)] a0 s (by simp) (by rw [hsize]; simp)
    simp only [List.mem_cons, Prod.mk.injEq, List.not_mem_nil, or_false] at hm
    rcases hm with ⟨rfl, rfl⟩ | ⟨rfl, rfl⟩
    · exact h1.2 _ (by simp)
    · rw [h1.1 (by simp)]; exact hb
  clear fin hk hH ol el hx xy x2 o2 gr
  generalize putL a0 [(84, f 0), (85, f 1), (86, f 2), (87, f 3), (88, f 4), (89, f 5), (90, f 6), (91, f 7), (92, f 8), (93, f 9), (94, f 10), (95, .slice q 3 c)] = a at H fin' ⊢
  refine any_one (i := 12) (o := f15o12) (by kernel_rfl) rfl ?_
  have d1 := eval_at (H.2 7 (.pointer (some ⟨bx, 0, none⟩)) (by simp))
  refine inv_val (G := fun u V => u = .pointer (some ⟨bx, 0, none⟩) ∧ y = V) (R := fun _ _ => True) (wanted_none rfl) (v := .pointer (some ⟨bx, 0, none⟩)) (w2 := y) (by simp only [execOp, f15o12, d1]; go_simp) ?_ ⟨rfl, rfl⟩ trivial
  rintro _ _ ⟨rfl, rfl⟩ _
  rw [show f15o12.dst = some 96 from rfl]
  have H := H.put 96 (.pointer (some ⟨bx, 0, none⟩)) (by decide) (by simp)
  obtain ⟨a2, ha2⟩ : ∃ a_, a_ = a.put (some 96) (.pointer (some ⟨bx, 0, none⟩)) := ⟨_, rfl⟩
  rw [← ha2] at H fin' ⊢
  clear ha2
  refine any_one (i := 13) (o := f15o13) (by kernel_rfl) rfl ?_
  have d2 := eval_at (H.2 96 (.pointer (some ⟨bx, 0, none⟩)) (by simp))
  have d3 := eval_at (H.2 95 (.slice q 3 c) (by simp))
  refine inv_skip (wanted_none rfl) (w2 := y.setCell ⟨bx, 0, none⟩ (.slice q 3 c)) (by simp only [execOp, f15o13, d2, d3]; go_simp) ?_
  refine any_end (by kernel_rfl) ?_ 0
  exact fin'
end Go.Proofs.YtglgfpapackcdaaGreat
