import Derived.Test.YtkefndfgkmdphaaGreatFi
import Derived.Test.YtkefndfgkmdphaaGreatLe
import Derived.Test.YtkefndfgkmdphaaGreatFl

namespace Go.Proofs.YtkefndfgkmdphaaGreat
set_option maxHeartbeats 6400000
set_option maxRecDepth 100000
open Go.RowKit Tnr Tnt

attribute [local go_sem] Oper.semAt_some

theorem rk_append (F : Nat → Nat × Nat) : ∀ (a b : List Int) (f d : Nat), rk F (a ++ b) f d = (rk F a f d).bind fun x => rk F b x.1 x.2
 | [], b, f, d => rfl
 | k :: a, b, f, d => by
  show (if f = 0 ∨ k ≠ (f : Int) - 1 then none else rk F (a ++ b) (F (f - 1)).1 (max d (F (f - 1)).2)) = _
  rw [show rk F (k :: a) f d = (if f = 0 ∨ k ≠ (f : Int) - 1 then none else rk F a (F (f - 1)).1 (max d (F (f - 1)).2)) from rfl]
  by_cases h : f = 0 ∨ k ≠ (f : Int) - 1
  ·rw [if_pos h, if_pos h]; rfl
  ·rw [if_neg h, if_neg h]; exact rk_append F a b _ _
theorem rk_snoc {F : Nat → Nat × Nat} {a : List Int} {k : Int} {f d f1 d1 : Nat} (h : rk F a f d = some (f1, d1)) : rk F (a ++ [k]) f d = if f1 = 0 ∨ k ≠ (f1 : Int) - 1 then none else some ((F (f1 - 1)).1, max d1 (F (f1 - 1)).2) := by
 rw [rk_append, h]; rfl
theorem rk_prefix {F : Nat → Nat × Nat} {a b : List Int} {f d : Nat} (h : rk F a f d = none) : rk F (a ++ b) f d = none := by
 rw [rk_append, h]; rfl
def FOk (F : Nat → Nat × Nat) (k : Nat) : Prop := ∀ j, j < k → (F j).1 ≤ j ∧ (F j).2 ≤ j + 1
theorem rk_le {F : Nat → Nat × Nat} : ∀ {a : List Int} {f d f1 d1 : Nat} {k : Nat}, FOk F k → f ≤ k → d ≤ k → rk F a f d = some (f1, d1) → f1 ≤ f ∧ d1 ≤ k
 | [], f, d, f1, d1, k, _, _, hd, h => by
  simp only [rk, Option.some.injEq, Prod.mk.injEq] at h
  obtain ⟨rfl, rfl⟩ := h
  exact ⟨Nat.le_refl _, hd⟩
 | x :: a, f, d, f1, d1, k, hF, hf, hd, h => by
  rw [show rk F (x :: a) f d = (if f = 0 ∨ x ≠ (f : Int) - 1 then none else rk F a (F (f - 1)).1 (max d (F (f - 1)).2)) from rfl] at h
  by_cases hc : f = 0 ∨ x ≠ (f : Int) - 1
  ·rw [if_pos hc] at h; cases h
  ·rw [if_neg hc] at h
   have hf0 : f ≠ 0 := fun e => hc (.inl e)
   obtain ⟨h1, h2⟩ := hF (f - 1) (by omega)
   obtain ⟨h3, h4⟩ := rk_le hF (by omega) (by omega) h
   exact ⟨by omega, h4⟩
def fsZ (l : List (Nat × Nat)) : List Int := l.map fun x => (x.1 : Int)
def dsZ (l : List (Nat × Nat)) : List Int := l.map fun x => (x.2 : Int)
theorem fsZ_length (l : List (Nat × Nat)) : (fsZ l).length = l.length := by simp [fsZ]
theorem dsZ_length (l : List (Nat × Nat)) : (dsZ l).length = l.length := by simp [dsZ]
theorem fsZ_at {l : List (Nat × Nat)} {i : Nat} (h : i < l.length) : gz (fsZ l) i = ((gf l i).1 : Nat) := by
 rw [gz_get (by rw [fsZ_length]; exact h)]
 unfold fsZ gf
 rw [List.getElem_map, List.getD_eq_getElem?_getD, List.getElem?_eq_getElem h]; rfl
theorem dsZ_at {l : List (Nat × Nat)} {i : Nat} (h : i < l.length) : gz (dsZ l) i = ((gf l i).2 : Nat) := by
 rw [gz_get (by rw [dsZ_length]; exact h)]
 unfold dsZ gf
 rw [List.getElem_map, List.getD_eq_getElem?_getD, List.getElem?_eq_getElem h]; rfl
structure TreeAt (w : World) (tb B : Nat) (v : Value) (pf : Option Addr) (cf : Nat) (pd : Option Addr) (cd : Nat) (k : Nat) (acc : List (Nat × Nat)) : Prop where
 len : k = acc.length
 box : Bx w tb 66 #[v, .slice pf k cf, .slice pd k cd]
 fs : OwnZ w B (.slice pf k cf) (fsZ acc)
 ds : OwnZ w B (.slice pd k cd) (dsZ acc)
 ap : ∀ g, (Value.slice pf k cf).ownBlock = some g → (Value.slice pd k cd).ownBlock ≠ some g
theorem max_if (x y : Int) : (if x < y then y else x) = max x y := by
 split <;> omega
theorem far_cell {w : World} {a b : Addr} {u v : Value} (h : w.cell? b = some v) (hb : ¬ b.block = a.block) : (w.setCell a u).drew.cell? b = some v := by
 show (w.setCell a u).cell? b = some v
 rw [World.cell?_setCell_far _ _ _ _ (fun e => hb e.symm)]; exact h
theorem slz_keep {w W W' : World} {p : Option Addr} {l : List Int} (hq : SlZ w p l) (hb : Below w.heap.size W W') (h : SlZ W p l) : SlZ W' p l := by
 rcases hq with h0 | ⟨b, off, h1, h2⟩
 ·exact .inl h0
 ·rcases h with h | ⟨b', off', h3, h4⟩
  ·exact .inl h
  ·rw [h1] at h3
   simp only [Option.some.injEq, Addr.mk.injEq, and_true] at h3
   obtain ⟨rfl, rfl⟩ := h3
   exact .inr ⟨b, off, h1, fun i hi => by rw [hb.cell (World.block_lt_of_cell? w _ (h2 i hi))]; exact h4 i hi⟩
structure M7 (b0 tb B D k : Nat) (T0 : Array Value) (f d : Int) (W0 : World) (vf : Value) (lf : List Int) (vd : Value) (ld : List Int) (W : World) : Prop where
 bp : Bx W b0 163 #[.pointer (some ⟨tb, 0, none⟩)]
 br : Bx W (b0 + 1) 4 #[.bool false]
 bf : Bx W (b0 + 1 + 1) 3 #[.int .i64 f]
 bd : Bx W (b0 + 1 + 1 + 1) 3 #[.int .i64 d]
 bt : Bx W tb 66 T0
 fs : OwnZ W B vf lf
 ds : OwnZ W B vd ld
 ap : ∀ g, vf.ownBlock = some g → vd.ownBlock ≠ some g
 far : ∀ g, vf.ownBlock = some g ∨ vd.ownBlock = some g → g < b0 ∨ b0 + 1 + 1 + 1 < g
 low : Below B W0 W
 def_ : W.heap[D]? = some (.deferred (some []))
theorem M7.below {b0 tb B D k : Nat} {T0 : Array Value} {f d : Int} {W0 : World} {vf vd : Value} {lf ld : List Int} {W W' : World} (h : M7 b0 tb B D k T0 f d W0 vf lf vd ld W) (hb : Below W.heap.size W W') (hB : B ≤ W.heap.size) : M7 b0 tb B D k T0 f d W0 vf lf vd ld W' :=
 ⟨h.bp.below hb, h.br.below hb, h.bf.below hb, h.bd.below hb, h.bt.below hb, ownZ_below h.fs hb, ownZ_below h.ds hb, h.ap, h.far, h.low.trans (hb.mono hB), (hb.block D (lt_of_block h.def_)).trans h.def_⟩
theorem M7.grow {b0 tb B D k : Nat} {T0 : Array Value} {f d : Int} {W0 : World} {vf vd vr : Value} {lf ld lr : List Int} {W W' : World} (h : M7 b0 tb B D k T0 f d W0 vf lf vd ld W) (hr : OwnZ W B vr lr) (hrr : ∀ g, vr.ownBlock = some g → g < b0 ∨ b0 + 1 + 1 + 1 < g) (hg : W.grownBy W' vr.ownBlock) (hB : B ≤ W.heap.size) :
  Bx W' b0 163 #[.pointer (some ⟨tb, 0, none⟩)] ∧ Bx W' (b0 + 1) 4 #[.bool false] ∧ Bx W' (b0 + 1 + 1) 3 #[.int .i64 f] ∧ Bx W' (b0 + 1 + 1 + 1) 3 #[.int .i64 d] ∧ Bx W' tb 66 T0 ∧ Below B W0 W' ∧ W'.heap[D]? = some (.deferred (some [])) := by
 have ne : ∀ j, b0 ≤ j → j ≤ b0 + 1 + 1 + 1 → some j ≠ vr.ownBlock := fun j h1 h2 e => by
  rcases hrr j e.symm with h | h <;> omega
 refine ⟨h.bp.kept hg (ne _ (by omega) (by omega)), h.br.kept hg (ne _ (by omega) (by omega)), h.bf.kept hg (ne _ (by omega) (by omega)), h.bd.kept hg (ne _ (by omega) (by omega)), h.bt.kept hg (fun e => row_ne hr h.bt (by decide) e.symm), h.low.grown hg hB (fun g e => (World.ownsRow.lt hr g e).1), (hg.block D (lt_of_block h.def_) (fun e => ?_)).trans h.def_⟩
 rcases hr.2 with ⟨rfl, _⟩ | ⟨g, cap, cur, rfl, _, hh, _⟩
 ·simp [Value.ownBlock] at e
 ·simp only [Value.ownBlock, Option.some.injEq] at e
  subst e
  rw [h.def_] at hh
  cases hh
theorem ownZ_beside {W W' : World} {B : Nat} {u v : Value} {l _m : List Int} (h : OwnZ W B v l) (hg : W.grownBy W' u.ownBlock) (hne : ∀ g, u.ownBlock = some g → v.ownBlock ≠ some g) : OwnZ W' B v l := by
 refine World.ownsRow.kept h hg ?_
 rcases hv : v.ownBlock with _ | g
 ·exact .inl rfl
 ·right
  intro e
  exact hne g e.symm hv
theorem M7.fst {b0 tb B D k : Nat} {T0 : Array Value} {f d : Int} {W0 : World} {vf vd vf' : Value} {lf ld lf' : List Int} {W W' : World} (h : M7 b0 tb B D k T0 f d W0 vf lf vd ld W) (hg : W.grownBy W' vf.ownBlock) (hB : B ≤ W.heap.size) (hb0 : b0 + 1 + 1 + 1 < W.heap.size) (ho : OwnZ W' B vf' lf') (hat : ∀ g, vf'.ownBlock = some g → vf.ownBlock = some g ∨ W.heap.size ≤ g) : M7 b0 tb B D k T0 f d W0 vf' lf' vd ld W' := by
 obtain ⟨h1, h2, h3, h4, h5, h6, h7⟩ := h.grow h.fs (fun g e => h.far g (.inl e)) hg hB
 refine ⟨h1, h2, h3, h4, h5, ho, ownZ_beside (_m := []) h.ds hg h.ap, fun g e e2 => ?_, fun g e => ?_, h6, h7⟩
 ·rcases hat g e with h8 | h8
  ·exact h.ap g h8 e2
  ·have := (World.ownsRow.lt h.ds g e2).2; omega
 ·rcases e with e | e
  ·rcases hat g e with h8 | h8
   ·exact h.far g (.inl h8)
   ·right; omega
  ·exact h.far g (.inr e)
theorem M7.snd {b0 tb B D k : Nat} {T0 : Array Value} {f d : Int} {W0 : World} {vf vd vd' : Value} {lf ld ld' : List Int} {W W' : World} (h : M7 b0 tb B D k T0 f d W0 vf lf vd ld W) (hg : W.grownBy W' vd.ownBlock) (hB : B ≤ W.heap.size) (hb0 : b0 + 1 + 1 + 1 < W.heap.size) (ho : OwnZ W' B vd' ld') (hat : ∀ g, vd'.ownBlock = some g → vd.ownBlock = some g ∨ W.heap.size ≤ g) : M7 b0 tb B D k T0 f d W0 vf lf vd' ld' W' := by
 obtain ⟨h1, h2, h3, h4, h5, h6, h7⟩ := h.grow h.ds (fun g e => h.far g (.inr e)) hg hB
 refine ⟨h1, h2, h3, h4, h5, ownZ_beside (_m := []) h.fs hg (fun g e e2 => h.ap g e2 e), ho, fun g e e2 => ?_, fun g e => ?_, h6, h7⟩
 ·rcases hat g e2 with h8 | h8
  ·exact h.ap g e h8
  ·have := (World.ownsRow.lt h.fs g e).2; omega
 ·rcases e with e | e
  ·exact h.far g (.inl e)
  ·rcases hat g e with h8 | h8
   ·exact h.far g (.inr h8)
   ·right; omega
theorem m7_s {b0 tb B D k : Nat} {v : Value} {pf pd : Option Addr} {cf cd : Nat} {f d : Int} {W0 : World} {vf vd : Value} {lf ld : List Int} {W : World} (h : M7 b0 tb B D k #[v, .slice pf k cf, .slice pd k cd] f d W0 vf lf vd ld W) :
  (W.cell? ⟨tb, 1, none⟩ = some (.slice pf k cf) ∧ W.cell? ⟨tb, 2, none⟩ = some (.slice pd k cd)) ∧ (W.cell? ⟨b0, 0, none⟩ = some (.pointer (some ⟨tb, 0, none⟩)) ∧ W.cell? ⟨b0 + 1 + 1, 0, none⟩ = some (.int .i64 f) ∧ W.cell? ⟨b0 + 1 + 1 + 1, 0, none⟩ = some (.int .i64 d)) :=
 ⟨⟨h.bt.cell rfl, h.bt.cell rfl⟩, h.bp.cell rfl, h.bf.cell rfl, h.bd.cell rfl⟩
theorem bx_ne {W : World} {b b' : Nat} {T T' : TypeId} {cs cs' : Array Value} (h : Bx W b T cs) (h' : Bx W b' T' cs') (hT : T ≠ T') : b ≠ b' := by
 intro e
 subst e
 have e := (show _ = _ from h).symm.trans h'
 simp only [Option.some.injEq, Obj.cells.injEq] at e
 exact hT e.2.1
theorem m7_ne {b0 tb B D k : Nat} {T0 : Array Value} {f d : Int} {W0 : World} {vf vd : Value} {lf ld : List Int} {W : World} (h : M7 b0 tb B D k T0 f d W0 vf lf vd ld W) : tb ≠ b0 ∧ tb ≠ b0 + 1 + 1 ∧ tb ≠ b0 + 1 + 1 + 1 :=
 ⟨bx_ne h.bt h.bp (by decide), bx_ne h.bt h.bf (by decide), bx_ne h.bt h.bd (by decide)⟩
theorem m7_end {b0 tb B D k : Nat} {v u1 u2 x y : Value} {f d : Int} {W0 : World} {vf vd : Value} {lf ld : List Int} {W : World} (h : M7 b0 tb B D k #[v, u1, u2] f d W0 vf lf vd ld W) (hB : B ≤ tb) :
  Bx ((W.setCell ⟨tb, 1, none⟩ x).setCell ⟨tb, 2, none⟩ y) tb 66 #[v, x, y] ∧ Bx ((W.setCell ⟨tb, 1, none⟩ x).setCell ⟨tb, 2, none⟩ y) (b0 + 1) 4 #[.bool false] ∧ OwnZ ((W.setCell ⟨tb, 1, none⟩ x).setCell ⟨tb, 2, none⟩ y) B vf lf ∧ OwnZ ((W.setCell ⟨tb, 1, none⟩ x).setCell ⟨tb, 2, none⟩ y) B vd ld ∧ (∀ g, vf.ownBlock = some g → vd.ownBlock ≠ some g) ∧ Below B W0 ((W.setCell ⟨tb, 1, none⟩ x).setCell ⟨tb, 2, none⟩ y) ∧ ((W.setCell ⟨tb, 1, none⟩ x).setCell ⟨tb, 2, none⟩ y).heap[D]? = some (.deferred (some [])) := by
 have hne := bx_ne h.br h.bt (by decide)
 have h1 := h.bt.set 1 x
 have h2 := h1.set 2 y
 have hf1 : OwnZ _ B _ _ := ownsRow_setCell_other (a := ⟨tb, 1, none⟩) h.fs (row_ne h.fs h.bt (by decide)) x
 have hd1 : OwnZ _ B _ _ := ownsRow_setCell_other (a := ⟨tb, 1, none⟩) h.ds (row_ne h.ds h.bt (by decide)) x
 have hdt : D ≠ tb := by
  intro e
  have e1 := h.def_
  rw [e] at e1
  rw [show W.heap[tb]? = _ from h.bt] at e1
  cases e1
 exact ⟨h2, (h.br.other (a := ⟨tb, 1, none⟩) hne _).other (a := ⟨tb, 2, none⟩) hne _, ownsRow_setCell_other (a := ⟨tb, 2, none⟩) hf1 (row_ne hf1 h1 (by decide)) y, ownsRow_setCell_other (a := ⟨tb, 2, none⟩) hd1 (row_ne hd1 h1 (by decide)) y, h.ap, (h.low.setCell (p := ⟨tb, 1, none⟩) hB _).setCell (p := ⟨tb, 2, none⟩) hB _, ((Below.heap_setCell _ _ _ D hdt).trans (Below.heap_setCell _ _ _ D hdt)).trans h.def_⟩
theorem fsZ_snoc (l : List (Nat × Nat)) (f d : Nat) : fsZ (l ++ [(f, d)]) = fsZ l ++ [(f : Int)] := by simp [fsZ]
theorem dsZ_snoc (l : List (Nat × Nat)) (f d : Nat) : dsZ (l ++ [(f, d)]) = dsZ l ++ [(d : Int)] := by simp [dsZ]
theorem ownZ_putObj {w : World} {B k : Nat} {v : Value} {l : List Int} (h : OwnZ w B v l) {o : Obj} (o' : Obj) (hk : w.heap[k]? = some o) (ho : o.isCells = false) : OwnZ (w.putObj k o') B v l := ownsRow_putObj h o' hk ho
theorem m7_tree {b0 tb B D k : Nat} {v : Value} {W0 V : World} {pf pd : Option Addr} {cf cd : Nat} {lf ld : List Int} {acc' : List (Nat × Nat)} (h : Bx V tb 66 #[v, .slice pf (k + 1) cf, .slice pd (k + 1) cd] ∧ Bx V (b0 + 1) 4 #[.bool false] ∧ OwnZ V B (.slice pf (k + 1) cf) lf ∧ OwnZ V B (.slice pd (k + 1) cd) ld ∧ (∀ g, (Value.slice pf (k + 1) cf).ownBlock = some g → (Value.slice pd (k + 1) cd).ownBlock ≠ some g) ∧ Below B W0 V ∧ V.heap[D]? = some (.deferred (some [])))
  (hB : B ≤ b0) (hl : k + 1 = acc'.length) (hlf : fsZ acc' = lf) (hld : dsZ acc' = ld) (hD : B ≤ D) :
  TreeAt ((V.setCell ⟨b0 + 1, 0, none⟩ (.bool true)).putObj D (.deferred none)) tb B v pf cf pd cd (k + 1) acc' ∧ Below B W0 ((V.setCell ⟨b0 + 1, 0, none⟩ (.bool true)).putObj D (.deferred none)) ∧ ((V.setCell ⟨b0 + 1, 0, none⟩ (.bool true)).putObj D (.deferred none)).cell? ⟨b0 + 1, 0, none⟩ = some (.bool true) := by
 obtain ⟨h1, h2, h3, h4, h5, h6, h7⟩ := h
 have hKq : (V.setCell ⟨b0 + 1, 0, none⟩ (.bool true)).heap[D]? = some (.deferred (some [])) := (KeepsOthers.setCell V ⟨b0 + 1, 0, none⟩ (.bool true)).same D _ h7 rfl
 have e3 : OwnZ _ B _ _ := ownsRow_setCell_other (a := ⟨b0 + 1, 0, none⟩) h3 (row_ne h3 h2 (by decide)) (.bool true)
 have e4 : OwnZ _ B _ _ := ownsRow_setCell_other (a := ⟨b0 + 1, 0, none⟩) h4 (row_ne h4 h2 (by decide)) (.bool true)
 refine ⟨⟨hl, ?_, ?_, ?_, h5⟩, ?_, ?_⟩
 ·exact bx_putObj (h1.other (a := ⟨b0 + 1, 0, none⟩) (bx_ne h1 h2 (by decide)) _) _ hKq rfl
 ·rw [hlf]; exact ownZ_putObj e3 _ hKq rfl
 ·rw [hld]; exact ownZ_putObj e4 _ hKq rfl
 ·have hb := h6.setCell (p := ⟨b0 + 1, 0, none⟩) (show B ≤ b0 + 1 by omega) (.bool true)
  have hg := grownBy_putObj' (V.setCell ⟨b0 + 1, 0, none⟩ (.bool true)) D (.deferred none)
  exact hb.grown hg (by have := h2.lt; simp; omega) (fun g e => by cases e; exact hD)
 ·exact cell_kept ((h2.set 0 (.bool true)).cell (i := 0) (v := .bool true) rfl) (grownBy_putObj' _ D (.deferred none)) (fun r e => by cases e; exact ⟨_, hKq, rfl⟩)
theorem step_one {w : World} {ops : Array Oper} {o : Oper} {a : Act} {K : Act → World → Prop} {Q : Exit → Act → World → Prop} {E : Prop} (hgd : o.guard = none) (s x : Operand)
  (hop : o.op = .call { callee := .builtin .append, args := #[s, x], argTypes := #[24, 24] }) {B nb : Nat} {v : Value} {N : List Int} {f : Int} (hs : a.eval s = v) (hx : a.eval x = .slice (some ⟨nb, 0, none⟩) 1 1)
  (hO : OwnZ w B v N) (hb : Bx w nb 3 #[.int .i64 f]) (hl : N.length ≤ 1000000) (hB : B ≤ w.heap.size)
  (h : ∀ g c w', OwnZ w' B (.slice (some ⟨g, 0, none⟩) (N.length + 1) c) (N ++ [f]) → w.grownBy w' v.ownBlock → (v.ownBlock = some g ∨ w.heap.size ≤ g) → K (a.put o.dst (.slice (some ⟨g, 0, none⟩) (N.length + 1) c)) w') : if Region.wanted o (yielded ops a.tmps) = true then Oper.wp Tryz.prog o a w K Q else E := by
 obtain ⟨i0, hinf, hz0, hz1, hz2⟩ := info_parts info_intz
 refine step_append_lies w hgd s x 24 hop B 3 i0 (.int .i64 0) 1 8 Tryz.underlying24 hinf hz0 hz1 hz2 rfl (by decide) v N.length _ hs hO ⟨nb, 0, none⟩ 1 1 [.int .i64 f] hx rfl (fun j u hu => ?_) (by simp [Value.oneCell']) (by decide) (by simp only [maxLen]; omega) (by omega) hB w.heap.size rfl ?_
 ·match j, hu with
  | 0, hu =>
   have e : (⟨nb, 0, none⟩ : Addr).add 0 = ⟨nb, 0, none⟩ := rfl
   rw [e, hb.cell (i := 0) (v := .int .i64 f) rfl]; simpa using hu
  | j + 1, hu => simp at hu
 ·intro g cap w' ho hg hat _
  exact h g cap w' (ownZ_appended rfl ho) hg (hat.imp id (fun e => Nat.le_of_eq e.symm))
theorem TreeAt.below {w w' : World} {tb B : Nat} {v : Value} {pf pd : Option Addr} {cf cd k : Nat} {acc : List (Nat × Nat)} (h : TreeAt w tb B v pf cf pd cd k acc) (hb : Below w.heap.size w w') : TreeAt w' tb B v pf cf pd cd k acc :=
 ⟨h.len, h.box.below hb, ownZ_below h.fs hb, ownZ_below h.ds hb, h.ap⟩

theorem reach_any (tb B n c k : Nat) (p pf pd : Option Addr) (cf cd : Nat) (xs : List NV) (acc : List (Nat × Nat)) (w : World) (hn : n = xs.length) (hn4 : n ≤ 4000) (hkn : k < n) (hF : FOk (gf acc) k) (hT : TreeAt w tb B (.slice p n c) pf cf pd cd k acc) (hp : SlN w p xs) (hB : B ≤ tb) (hkl : (gn xs k).nd.kids.length ≤ 1000000) :
  Calls Tryz.prog 82 #[.pointer (some ⟨tb, 0, none⟩), .int .i64 (k : Nat)] w fun e w' => Below B w w' ∧
   ((e = .returned (.bool false) ∧ rk (gf acc) (gn xs k).nd.kids.reverse k 0 = none) ∨
   (∃ f d pf' cf' pd' cd', e = .returned (.bool true) ∧ rk (gf acc) (gn xs k).nd.kids.reverse k 0 = some (f, d) ∧ TreeAt w' tb B (.slice p n c) pf' cf' pd' cd' (k + 1) (acc ++ [(f, d + 1)]))) := by
 refine (callsIn_wide (n := 8)).1 ?_
 have hro : Fence.wide.round = none := rfl
 have HT := lh hT
 have HP := lh hp
 have HN := lh hn
 have HFO := lh hF
 have htc : w.cell? ⟨tb, 0, none⟩ = some (.slice p n c) := hT.box.cell rfl
 obtain ⟨bp, op, rfl, hcells, hin⟩ := hp.at (show k < xs.length by omega)
 have hc2 := hcells.2.2.1
 obtain ⟨kd, hkd⟩ : ∃ l, l = (gn xs k).nd.kids := ⟨_, rfl⟩
 obtain ⟨lk, hlk⟩ : ∃ n, n = kd.length := ⟨_, rfl⟩
 rw [← hkd, ← hlk] at hkl hc2
 have HKS := lh hin.kids
 rw [← hkd] at HKS ⊢
 obtain ⟨pk, hpk⟩ : ∃ q, q = (gn xs k).pk := ⟨_, rfl⟩
 obtain ⟨ck, hck⟩ : ∃ q, q = (gn xs k).ck := ⟨_, rfl⟩
 rw [← hpk] at HKS hc2
 rw [← hck] at hc2
 have HLK := lh hlk
 have HKL := lh hkl
 have HBT := lh hB
 have hkI : (k : Int) < n := by omega
 have hnI : (n : Int) ≤ 4000 := by omega
 clear hT hp hn hcells hin hkd hlk hpk hck hkl hF hB
 obtain ⟨b0, hb0⟩ : ∃ b, b = w.heap.size := ⟨_, rfl⟩
 obtain ⟨W4, hW4⟩ : ∃ W, W = (((w.alloc (.cells #[.pointer (some ⟨tb, 0, none⟩)] 163)).alloc (.cells #[.bool false] 4)).alloc (.cells #[.int .i64 (k : Nat)] 3)).alloc (.cells #[.int .i64 0] 3) := ⟨_, rfl⟩
 have hB4 : Below w.heap.size w W4 := by rw [hW4]; exact bl_trans (bl_trans (bl_trans (bl_alloc _ _) (bl_alloc _ _)) (bl_alloc _ _)) (bl_alloc _ _)
 have bP : Bx W4 b0 163 #[.pointer (some ⟨tb, 0, none⟩)] := by
  rw [hW4, hb0]; exact (Bx.new w _ _).below (bl_trans (bl_trans (bl_alloc _ _) (bl_alloc _ _)) (bl_alloc _ _))
 have bR : Bx W4 (b0 + 1) 4 #[.bool false] := by
  have := (Bx.new (w.alloc (.cells #[.pointer (some ⟨tb, 0, none⟩)] 163)) 4 #[.bool false]).below (bl_trans (bl_alloc _ (.cells #[.int .i64 (k : Nat)] 3)) (bl_alloc _ (.cells #[.int .i64 0] 3)))
  rw [World.size_alloc, ← hb0] at this; rw [hW4]; exact this
 have bF : Bx W4 (b0 + 1 + 1) 3 #[.int .i64 (k : Nat)] := by
  have := (Bx.new ((w.alloc (.cells #[.pointer (some ⟨tb, 0, none⟩)] 163)).alloc (.cells #[.bool false] 4)) 3 #[.int .i64 (k : Nat)]).below (bl_alloc _ (.cells #[.int .i64 0] 3))
  rw [World.size_alloc, World.size_alloc, ← hb0] at this; rw [hW4]; exact this
 have bD : Bx W4 (b0 + 1 + 1 + 1) 3 #[.int .i64 0] := by
  have := Bx.new (((w.alloc (.cells #[.pointer (some ⟨tb, 0, none⟩)] 163)).alloc (.cells #[.bool false] 4)).alloc (.cells #[.int .i64 (k : Nat)] 3)) 3 #[.int .i64 0]
  rw [World.size_alloc, World.size_alloc, World.size_alloc, ← hb0] at this; rw [hW4]; exact this
 have hs4 : W4.heap.size = b0 + 1 + 1 + 1 + 1 := by rw [hW4, hb0]; simp
 have k1 : W4.cell? ⟨tb, 0, none⟩ = some (.slice (some ⟨bp, op, none⟩) n c) := by rw [hB4.cell (World.block_lt_of_cell? w _ htc)]; exact htc
 have k2 : W4.cell? ⟨bp, op + k * 9 + 2, none⟩ = some (.slice pk lk ck) := by rw [hB4.cell (World.block_lt_of_cell? w _ hc2)]; exact hc2
 rw [hW4] at k1 k2
 have HW4 := lh hW4
 have HB4 := lh hB4
 have HS4 := lh hs4
 have HBX := lh (And.intro bP (And.intro bR (And.intro bF bD)))
 have HB0 := lh hb0
 have HKI := lh hkn
 clear htc hc2 hW4 hB4 hs4 bP bR bF bD hb0
 refine callsIn_of_wp_marks Tryz.func82 rfl trivial ?_ hro
 simp only [Tryz.ntmps82, List.size_toArray, List.length_cons, List.length_nil, Nat.reduceAdd, Nat.reduceSub, Array.replicate_succ, Array.replicate_zero, List.push_toArray, List.append_toArray, List.nil_append, List.cons_append]
 gi_wp2_with ((refine ⟨trivial, ?_⟩; gi_at_call 126; refine (callsIn_wide.2 (back_any _ _ _ _)).mono ?_; rintro e w' ⟨rfl, rfl⟩))
 clear k1 k2
 rw [← HW4.out, ← HB0.out]
 obtain ⟨W5, hW5⟩ : ∃ W, W = W4.alloc (.cells #[.slice pk lk ck] 24) := ⟨_, rfl⟩
 rw [← hW5]
 have hb45 : Below W4.heap.size W4 W5 := by rw [hW5]; exact bl_alloc _ _
 have bS : Bx W5 (b0 + 1 + 1 + 1 + 1) 24 #[.slice pk lk ck] := by rw [hW5, ← HS4.out]; exact Bx.new _ _ _
 have hB5 : Below w.heap.size w W5 := bl_trans HB4.out hb45
 have hst := back_stops (8 - 1) (b0 + 1 + 1 + 1 + 1) pk lk ck kd HLK.out (by have := HLK.out; have := HKL.out; omega) (by omega) W5 bS (HKS.out.below hB5)
 have HBX5 := lh (And.intro (HBX.out.1.below hb45) (And.intro (HBX.out.2.1.below hb45) (And.intro (HBX.out.2.2.1.below hb45) (HBX.out.2.2.2.below hb45))))
 have HS5 : Hid (W5.heap.size = b0 + 1 + 1 + 1 + 1 + 1) := by show _ = _; rw [hW5, World.size_alloc, HS4.out]
 have HB5 := lh hB5
 clear hW5 hb45 bS hB5
 refine wpIn_rangeFunc_ownH hro (by omega) (gf := 177) (lb := #[.pointer (some ⟨b0 + 1 + 1 + 1 + 1, 0, none⟩)]) rfl trivial (enters_of Tryz.func177 (by kernel_rfl) rfl)
  hst (fun h k => h.trans k) kpz_b (Below.refl _ _) (fun _ => rfl)
  (fun pre W => (∃ f d : Nat, rk (gf acc) (pre.map Prod.snd) k 0 = some (f, d) ∧ Bx W (b0 + 1 + 1) 3 #[.int .i64 (f : Nat)] ∧ Bx W (b0 + 1 + 1 + 1) 3 #[.int .i64 (d : Nat)]) ∧ (Bx W b0 163 #[.pointer (some ⟨tb, 0, none⟩)] ∧ Bx W (b0 + 1) 4 #[.bool false]) ∧ Below w.heap.size w W)
  (fun c pre W => (c = .ret ∧ rk (gf acc) (pre.map Prod.snd) k 0 = none ∧ Bx W (b0 + 1) 4 #[.bool false]) ∧ Below w.heap.size w W)
  (OwnFrom.and (Own.from (fun s X Y row hs hg hr => by
   obtain ⟨f, d, h1, h2, h3⟩ := hs
   exact ⟨f, d, h1, bx_own _ _ (fun (_ : Unit) => #[Value.int .i64 (f : Nat)]) () X Y row h2 hg hr, bx_own _ _ (fun (_ : Unit) => #[Value.int .i64 (d : Nat)]) () X Y row h3 hg hr⟩) _) (OwnFrom.and (OwnFrom.and (Own.from (bx_own _ _ _) _) (Own.from (bx_own _ _ _) _)) (ownFrom_below (Nat.le_refl _) (by have := HS5.out; have := HB0.out; omega))))
  (fun c => OwnFrom.and (Own.from (fun s X Y row hs hg hr => by
   obtain ⟨h1, h2, h3⟩ := hs
   exact ⟨h1, h2, bx_own _ _ (fun (_ : Unit) => #[Value.bool false]) () X Y row h3 hg hr⟩) _) (ownFrom_below (Nat.le_refl _) (by have := HS5.out; have := HB0.out; omega)))
  ⟨⟨k, 0, rfl, HBX5.out.2.2.1, HBX5.out.2.2.2⟩, ⟨HBX5.out.1, HBX5.out.2.1⟩, HB5.out⟩
  (fun x a' W => a' = { tmps := #[.pointer (some ⟨tb, 0, none⟩), .int .i64 (k : Nat), .pointer (some ⟨b0, 0, none⟩), undef, .pointer (some ⟨b0 + 1, 0, none⟩), .pointer (some ⟨b0 + 1 + 1, 0, none⟩), .pointer (some ⟨b0 + 1 + 1 + 1, 0, none⟩), undef, .int .i64 x.2, .int .i64 (k : Nat), .pointer (some ⟨tb, 0, none⟩), .pointer (some ⟨tb, 0, none⟩), .pointer (some ⟨tb, 0, none⟩), .slice (some ⟨bp, op, none⟩) n c, .int .i64 (k : Nat), .pointer (some ⟨bp, op + k * 9, none⟩), .pointer (some ⟨bp, op + k * 9 + 2, none⟩), .slice pk lk ck, .func (.func 177) #[] #[.pointer (some ⟨b0 + 1 + 1 + 1 + 1, 0, none⟩)], .int .i64 (x.1 : Nat), .int .i64 x.2, undef, undef, undef, undef, undef, undef, undef, undef, undef, undef, undef, undef, undef, undef, undef, undef, undef, undef, undef, undef, undef, undef, undef, undef, undef, undef, undef, undef, undef, undef, undef, undef, undef, undef, undef, undef, undef, undef, undef, undef, undef, undef, undef, undef, undef], defers := [] })
  (fun x a' _ X Y row hs hg hr => hs)
  ?assign ?body ?done ?stop
 case assign =>
  rintro l pre x W K hI hK
  gi_wp2
  exact hK _ _ ((KeepsOthers.refl W).from _) ⟨fun h => h, fun _ _ h => h⟩ hI rfl
 case body =>
  rintro l pre x a' W hl ⟨r, hr⟩ ⟨⟨f, d, hrk, hF1, hD1⟩, ⟨hP1, hR1⟩, hB1⟩ rfl hlt
  obtain ⟨x1, x2⟩ := x
  obtain ⟨hfk, hdk⟩ := rk_le HFO.out (Nat.le_refl _) (Nat.zero_le _) hrk
  have HSN : Hid (∀ y : Int, rk (gf acc) ((pre ++ [(x1, y)]).map Prod.snd) k 0 = if f = 0 ∨ y ≠ (f : Int) - 1 then none else some ((gf acc (f - 1)).1, max d (gf acc (f - 1)).2)) := by
   intro y; rw [List.map_append]; exact rk_snoc hrk
  have cP : W.cell? ⟨b0, 0, none⟩ = some (.pointer (some ⟨tb, 0, none⟩)) := hP1.cell rfl
  have fR := hR1.free 0
  have cR : W.cell? ⟨b0 + 1, 0, none⟩ = some (.bool false) := hR1.cell rfl
  have fF := hF1.free 0
  have fD := hD1.free 0
  obtain ⟨fi, hfi⟩ : ∃ z : Int, z = (f : Nat) := ⟨_, rfl⟩
  obtain ⟨di, hdi⟩ : ∃ z : Int, z = (d : Nat) := ⟨_, rfl⟩
  rw [← hfi] at hF1
  rw [← hdi] at hD1
  have cF : W.cell? ⟨b0 + 1 + 1, 0, none⟩ = some (.int .i64 fi) := hF1.cell rfl
  have cD : W.cell? ⟨b0 + 1 + 1 + 1, 0, none⟩ = some (.int .i64 di) := hD1.cell rfl
  have hf1 : 0 ≤ fi := by omega
  have hf2 : fi ≤ 4000 := by omega
  have HBT1 := lh (HT.out.below hB1).box
  have HPX := lh (And.intro hP1 (And.intro hR1 (And.intro hF1 hD1)))
  have HB1 := lh hB1
  have HRK := lh hrk
  have HFD := lh (And.intro hfi (And.intro hdi (And.intro hfk hdk)))
  clear hP1 hR1 hF1 hD1 hB1 hr hlt hrk hfi hdi hfk hdk
  by_cases h0 : fi = 0
  ·have hq : (fi == 0) = true := by rw [h0]; rfl
   have HH := lh h0
   clear h0
   gi_wp2
   refine ⟨(KeepsOthers.setCell _ _ _).from _, ⟨rfl, ?_, HPX.out.2.1.set 0 _⟩, HB1.out.setCell (p := ⟨b0 + 1, 0, none⟩) (by have := HB0.out; show w.heap.size ≤ b0 + 1; omega) _⟩
   rw [HSN.out, if_pos (.inl (by have := HH.out; have := HFD.out.1; omega))]
  ·have hq : (fi == 0) = false := by rw [beq_eq_false_iff_ne]; exact h0
   by_cases h1 : x2 = fi - 1
   ·obtain ⟨j, hj⟩ : ∃ j : Nat, x2 = (j : Nat) := ⟨(fi - 1).toNat, by rw [h1]; omega⟩
    subst hj
    have hjk : j < k := by have := HFD.out.1; have := HFD.out.2.2.1; omega
    have hne : (((j : Nat) : Int) != fi - 1) = false := by rw [bne_eq_false_iff_eq]; exact h1
    have HTW := lh (HT.out.below HB1.out)
    have hja : j < acc.length := by have := HT.out.len; omega
    obtain ⟨gF, rfl, hgF, cGF, _, _⟩ := ownZ_at HTW.out.fs (by rw [fsZ_length]; exact HT.out.len) hjk
    obtain ⟨gD, rfl, hgD, cGD, _, _⟩ := ownZ_at HTW.out.ds (by rw [dsZ_length]; exact HT.out.len) hjk
    rw [fsZ_at hja] at cGF
    rw [dsZ_at hja] at cGD
    have cT1 : W.cell? ⟨tb, 1, none⟩ = some (.slice (some ⟨gF, 0, none⟩) k cf) := HBT1.out.cell rfl
    have cT2 : W.cell? ⟨tb, 2, none⟩ = some (.slice (some ⟨gD, 0, none⟩) k cd) := HBT1.out.cell rfl
    have hjI : (j : Int) < k := by omega
    have hfp : ¬ fi = 0 := h0
    have hl1 := (World.ownsRow.lt HT.out.ds gD rfl).2
    have hl2 := (World.ownsRow.lt HT.out.fs gF rfl).2
    have hl3 := HT.out.box.lt
    rw [← HB0.out] at hl1 hl2 hl3
    have n1 : ¬ gD = b0 + 1 + 1 := by omega
    have n2 : ¬ gF = b0 + 1 + 1 := by omega
    have n3 : ¬ tb = b0 + 1 + 1 := by omega
    have n4 : ¬ b0 = b0 + 1 + 1 := by omega
    have n7 : ¬ b0 + 1 + 1 + 1 = b0 + 1 + 1 := by omega
    clear hl1 hl2 hl3
    have HFJ : Hid (f - 1 = j ∧ f ≠ 0) := by show _ ∧ _; have := HFD.out.1; omega
    have HH1 := lh h1
    clear h1 hja hgF hgD h0
    gi_wp2
    refine wpIn_region_L (S := fun (V : World) => V.cell? ⟨b0, 0, none⟩ = some (.pointer (some ⟨tb, 0, none⟩)) ∧ V.cell? ⟨tb, 1, none⟩ = some (.slice (some ⟨gF, 0, none⟩) k cf) ∧ V.cell? ⟨tb, 2, none⟩ = some (.slice (some ⟨gD, 0, none⟩) k cd) ∧ V.cell? ⟨gF, j, none⟩ = some (.int .i64 ((gf acc j).1 : Nat)) ∧ V.cell? ⟨gD, j, none⟩ = some (.int .i64 ((gf acc j).2 : Nat)) ∧ V.cell? ⟨b0 + 1 + 1 + 1, 0, none⟩ = some (.int .i64 di)) (S2 := fun _ => True) 17 17 (by kernel_rfl) (by kernel_rfl) ?_
    have hS : (fun (V : World) => V.cell? ⟨b0, 0, none⟩ = some (.pointer (some ⟨tb, 0, none⟩)) ∧ V.cell? ⟨tb, 1, none⟩ = some (.slice (some ⟨gF, 0, none⟩) k cf) ∧ V.cell? ⟨tb, 2, none⟩ = some (.slice (some ⟨gD, 0, none⟩) k cd) ∧ V.cell? ⟨gF, j, none⟩ = some (.int .i64 ((gf acc j).1 : Nat)) ∧ V.cell? ⟨gD, j, none⟩ = some (.int .i64 ((gf acc j).2 : Nat)) ∧ V.cell? ⟨b0 + 1 + 1 + 1, 0, none⟩ = some (.int .i64 di)) W.drew := ⟨cP, cT1, cT2, cGF, cGD, cD⟩
    have hS2 : True := trivial
    refine tk1 0 ⟨hS, hS2⟩ ?_
    try simp only [Act.put, sb]
    refine tk1 1 ⟨hS, hS2⟩ ?_
    try simp only [Act.put, sb]
    refine tk1 2 ⟨hS, hS2⟩ ?_
    try simp only [Act.put, sb]
    refine tk1 3 ⟨hS, hS2⟩ ?_
    try simp only [Act.put, sb]
    refine tk1 4 ⟨hS, hS2⟩ ?_
    try simp only [Act.put, sb]
    refine tk1 5 ⟨hS, hS2⟩ ?_
    try simp only [Act.put, sb]
    refine tk1 6 ⟨hS, hS2⟩ ?_
    try simp only [Act.put, sb]
    refine tk1 7 ⟨hS, hS2⟩ ?_
    try simp only [Act.put, sb]
    refine tk1 8 ⟨hS, hS2⟩ ?_
    try simp only [Act.put, sb]
    refine tk1 9 ⟨hS, hS2⟩ ?_
    try simp only [Act.put, sb]
    refine tk1 10 ⟨hS, hS2⟩ ?_
    try simp only [Act.put, sb]
    refine tk1 11 ⟨hS, hS2⟩ ?_
    try simp only [Act.put, sb]
    refine tk1 12 ⟨hS, hS2⟩ ?_
    try simp only [Act.put, sb]
    refine tk1 13 ⟨hS, hS2⟩ ?_
    try simp only [Act.put, sb]
    refine tk1 14 ⟨hS, hS2⟩ ?_
    try simp only [Act.put, sb]
    refine anyL_take1 (i := 15) (u := .int .i64 (max di ((gf acc j).2 : Nat))) rfl (by kernel_rfl) (fun _ _ _ h => h) (Or.inl ⟨by kernel_rfl, ?_⟩) ⟨fun _ => hS, fun _ => hS2⟩ ?_
    focus (intro w hSw; (try dsimp only at hSw); go_simp; exact max_if _ _)
    try simp only [Act.put, sb]
    refine aone 16 (fun K hK => ?_)
    go_simp
    refine hK.out _ _ ⟨fun _ => ⟨far_cell cP n4, far_cell cT1 n3, far_cell cT2 n3, far_cell cGF n2, far_cell cGD n1, far_cell cD n7⟩, fun _ => trivial⟩ ?_
    clear hK K
    try simp only [Act.put, sb]
    refine aone 17 (fun K hK => ?_)
    go_simp
    refine hK.out _ _ ⟨fun h => absurd h (by decide), fun _ => trivial⟩ ?_
    clear hK K
    try simp only [Act.put, sb]
    refine anyL_done (by kernel_rfl) (show onlyN _ .normal _ _ from ?_) _
    gi_wp2
    have hbz := HB0.out
    have hBW := (HB1.out.setCell (p := ⟨b0 + 1 + 1, 0, none⟩) (show w.heap.size ≤ b0 + 1 + 1 by omega) (.int .i64 ((gf acc j).1 : Nat))).setCell (p := ⟨b0 + 1 + 1 + 1, 0, none⟩) (show w.heap.size ≤ b0 + 1 + 1 + 1 by omega) (.int .i64 (max di ((gf acc j).2 : Nat)))
    have HKB := lh (((Below.refl w.heap.size W).setCell (p := ⟨b0 + 1 + 1, 0, none⟩) (show w.heap.size ≤ b0 + 1 + 1 by omega) (.int .i64 ((gf acc j).1 : Nat))).setCell (p := ⟨b0 + 1 + 1 + 1, 0, none⟩) (show w.heap.size ≤ b0 + 1 + 1 + 1 by omega) (.int .i64 (max di ((gf acc j).2 : Nat)))).drew
    have hkk := ((KeepsOthers.setCell W ⟨b0 + 1 + 1, 0, none⟩ (.int .i64 ((gf acc j).1 : Nat))).trans (KeepsOthers.setCell _ ⟨b0 + 1 + 1 + 1, 0, none⟩ (.int .i64 (max di ((gf acc j).2 : Nat))))).from W5.heap.size
    refine ⟨⟨hkk.size, hkk.same⟩, ⟨fun h => slz_keep HKS.out (HKB.out) h, fun T cs h => ((h.other (a := ⟨b0 + 1 + 1, 0, none⟩) (by show _ ≠ b0 + 1 + 1; omega) _).other (a := ⟨b0 + 1 + 1 + 1, 0, none⟩) (by show _ ≠ b0 + 1 + 1 + 1; omega) _)⟩, ⟨(gf acc j).1, max d (gf acc j).2, ?_, ?_, ?_⟩, ⟨?_, ?_⟩, hBW.drew⟩
    ·rw [HSN.out, if_neg (by have := HFJ.out; have := HFD.out.1; have := HH1.out; omega), HFJ.out.1]
    ·exact ((HPX.out.2.2.1.set 0 _).other (a := ⟨b0 + 1 + 1 + 1, 0, none⟩) (by show b0 + 1 + 1 ≠ b0 + 1 + 1 + 1; omega) _)
    ·have h := ((HPX.out.2.2.2.other (a := ⟨b0 + 1 + 1, 0, none⟩) (by show b0 + 1 + 1 + 1 ≠ b0 + 1 + 1; omega) (.int .i64 ((gf acc j).1 : Nat))).set 0 (.int .i64 (max di ((gf acc j).2 : Nat))))
     have e : (max di ((gf acc j).2 : Nat)) = ((max d (gf acc j).2 : Nat) : Int) := by rw [HFD.out.2.1]; omega
     rw [e] at h ⊢
     exact h
    ·exact (HPX.out.1.other (a := ⟨b0 + 1 + 1, 0, none⟩) (by show b0 ≠ b0 + 1 + 1; omega) _).other (a := ⟨b0 + 1 + 1 + 1, 0, none⟩) (by show b0 ≠ b0 + 1 + 1 + 1; omega) _
    ·exact (HPX.out.2.1.other (a := ⟨b0 + 1 + 1, 0, none⟩) (by show b0 + 1 ≠ b0 + 1 + 1; omega) _).other (a := ⟨b0 + 1 + 1 + 1, 0, none⟩) (by show b0 + 1 ≠ b0 + 1 + 1 + 1; omega) _
   ·have hne : (x2 != fi - 1) = true := by rw [bne_iff_ne]; exact h1
    have HH := lh h1
    clear h1 h0
    gi_wp2
    refine ⟨(KeepsOthers.setCell _ _ _).from _, ⟨rfl, ?_, HPX.out.2.1.set 0 _⟩, HB1.out.setCell (p := ⟨b0 + 1, 0, none⟩) (by have := HB0.out; show w.heap.size ≤ b0 + 1; omega) _⟩
    rw [HSN.out, if_pos (.inr (by have := HH.out; have := HFD.out.1; omega))]
 case done =>
  rintro D ys W hD rfl ⟨⟨f, d, hrk, hF1, hD1⟩, ⟨hP1, hR1⟩, hB1⟩ hK
  rw [bk_snd kd lk (by have := HLK.out; omega), List.take_of_length_le (by have := HLK.out; omega)] at hrk
  obtain ⟨hfk, hdk⟩ := rk_le HFO.out (Nat.le_refl _) (Nat.zero_le _) hrk
  have hTW := HT.out.below hB1
  have hsz : w.heap.size ≤ W.heap.size := hB1.size
  have hlf : ∀ g, (Value.slice pf k cf).ownBlock = some g → g < b0 := fun g e => by have := (World.ownsRow.lt HT.out.fs g e).2; have := HB0.out; omega
  have hld : ∀ g, (Value.slice pd k cd).ownBlock = some g → g < b0 := fun g e => by have := (World.ownsRow.lt HT.out.ds g e).2; have := HB0.out; omega
  have hBw : B ≤ w.heap.size := by have := HT.out.box.lt; have := HBT.out; omega
  obtain ⟨fi, hfi⟩ : ∃ z : Int, z = (f : Nat) := ⟨_, rfl⟩
  obtain ⟨di, hdi⟩ : ∃ z : Int, z = (d : Nat) := ⟨_, rfl⟩
  rw [← hfi] at hF1
  rw [← hdi] at hD1
  have HM0 : Hid (M7 b0 tb B D k #[.slice (some ⟨bp, op, none⟩) n c, .slice pf k cf, .slice pd k cd] fi di w (.slice pf k cf) (fsZ acc) (.slice pd k cd) (dsZ acc) W) := ⟨hP1, hR1, hF1, hD1, hTW.box, hTW.fs, hTW.ds, hTW.ap, fun g e => .inl (e.elim (hlf g) (hld g)), hB1.mono hBw, hK⟩
  have hb3 : b0 + 1 + 1 + 1 < W.heap.size := hD1.lt
  have HSZ := lh (And.intro hBw (And.intro hsz hb3))
  have HFD := lh (And.intro hfi (And.intro hdi (And.intro hfk hdk)))
  have HRK := lh hrk
  have HLA := lh (show (fsZ acc).length = k ∧ (dsZ acc).length = k from ⟨by rw [fsZ_length]; exact HT.out.len.symm, by rw [dsZ_length]; exact HT.out.len.symm⟩)
  have HKK := lh hkn
  have hw1 : IntKind.i64.wrap (di + 1) = di + 1 := by rw [IntKind.wrap_i64]; omega
  have hd1 : 0 ≤ di := by omega
  have hd2 : di ≤ 4000 := by omega
  have HLF := lh (And.intro hlf hld)
  clear hF1 hD1 hP1 hR1 hB1 hTW hlf hld hsz hBw hb3 hfi hdi hfk hdk hrk hK
  gi_wp2
  refine wpIn_wide.2 ?_
  refine wp_region_L (S := fun (V : World) => V.cell? ⟨tb, 1, none⟩ = some (.slice pf k cf) ∧ V.cell? ⟨tb, 2, none⟩ = some (.slice pd k cd)) (S2 := fun (V : World) => V.cell? ⟨b0, 0, none⟩ = some (.pointer (some ⟨tb, 0, none⟩)) ∧ V.cell? ⟨b0 + 1 + 1, 0, none⟩ = some (.int .i64 fi) ∧ V.cell? ⟨b0 + 1 + 1 + 1, 0, none⟩ = some (.int .i64 di)) 19 22 (by kernel_rfl) ?_
  obtain ⟨hS, hS2⟩ : (fun (V : World) => V.cell? ⟨tb, 1, none⟩ = some (.slice pf k cf) ∧ V.cell? ⟨tb, 2, none⟩ = some (.slice pd k cd)) W.drew ∧ (fun (V : World) => V.cell? ⟨b0, 0, none⟩ = some (.pointer (some ⟨tb, 0, none⟩)) ∧ V.cell? ⟨b0 + 1 + 1, 0, none⟩ = some (.int .i64 fi) ∧ V.cell? ⟨b0 + 1 + 1 + 1, 0, none⟩ = some (.int .i64 di)) W.drew := m7_s (HM0.out.below (bl_drew W) (Nat.le_trans HSZ.out.1 HSZ.out.2.1))
  refine tk2 0 ⟨hS, hS2⟩ ?_
  try simp only [Act.put, sb]
  refine tk2 1 ⟨hS, hS2⟩ ?_
  try simp only [Act.put, sb]
  refine tk2 2 ⟨hS, hS2⟩ ?_
  try simp only [Act.put, sb]
  refine tk2 3 ⟨hS, hS2⟩ ?_
  try simp only [Act.put, sb]
  refine tk2 4 ⟨hS, hS2⟩ ?_
  try simp only [Act.put, sb]
  refine tk1 5 ⟨hS, hS2⟩ ?_
  try simp only [Act.put, sb]
  refine tk2 6 ⟨hS, hS2⟩ ?_
  try simp only [Act.put, sb]
  refine tk2 9 ⟨hS, hS2⟩ ?_
  try simp only [Act.put, sb]
  refine tk2 10 ⟨hS, hS2⟩ ?_
  try simp only [Act.put, sb]
  refine tk2 11 ⟨hS, hS2⟩ ?_
  try simp only [Act.put, sb]
  refine tk1 12 ⟨hS, hS2⟩ ?_
  try simp only [Act.put, sb]
  refine tk2 13 ⟨hS, hS2⟩ ?_
  try simp only [Act.put, sb]
  refine anyL_take2 (i := 14) (u := .int .i64 (di + 1)) rfl (by kernel_rfl) (fun _ _ _ h => h) (Or.inl ⟨by kernel_rfl, ?_⟩) ⟨fun _ => hS, fun _ => hS2⟩ ?_
  focus (intro w hSw; (try dsimp only at hSw); go_simp)
  try simp only [Act.put, sb]
  refine anyL_two (i := 7) (k := 15) (o := ⟨some 52, Op.buildSlice 24 1 #[(0, .tmp 51)], 24, "nodes.go:88", #[⟨6, .data⟩], none⟩) (o' := ⟨some 60, Op.buildSlice 24 1 #[(0, .tmp 59)], 24, "nodes.go:88", #[⟨14, .data⟩], none⟩) (by kernel_rfl) rfl rfl (fun K hK => ?_) (fun K hK => ?_)
  ·go_simp
   obtain ⟨V1, hV1⟩ : ∃ X, X = (W.alloc (.cells #[.int .i64 fi] 3)).drew := ⟨_, rfl⟩
   rw [← hV1]
   have hbl1 : Below W.heap.size W V1 := by rw [hV1]; exact (bl_alloc _ _).drew
   have HM1 := lh (HM0.out.below hbl1 (Nat.le_trans HSZ.out.1 HSZ.out.2.1))
   have HZ1 : Hid (B ≤ V1.heap.size ∧ b0 + 1 + 1 + 1 < V1.heap.size) := ⟨Nat.le_trans (Nat.le_trans HSZ.out.1 HSZ.out.2.1) hbl1.size, Nat.lt_of_lt_of_le HSZ.out.2.2 hbl1.size⟩
   have HBF1 : Hid (Bx V1 W.heap.size 3 #[.int .i64 fi]) := by rw [hV1]; exact Bx.new _ _ _
   clear hV1 hbl1
   obtain ⟨hSa1, hTa1⟩ := m7_s HM1.out
   refine hK.out _ _ ⟨fun _ => hSa1, fun _ => hTa1⟩ ?_
   clear hK K hS hS2
   have hS := hSa1
   have hS2 := hTa1
   clear hSa1 hTa1
   try simp only [Act.put, sb]
   refine anyL_two (i := 8) (k := 15) (o := ⟨some 53, Op.call { callee := Callee.builtin Builtin.append, args := #[.tmp 50, .tmp 52], argTypes := #[24, 24] }, 24, "nodes.go:88", #[⟨5, .data⟩, ⟨7, .data⟩], none⟩) (o' := ⟨some 60, Op.buildSlice 24 1 #[(0, .tmp 59)], 24, "nodes.go:88", #[⟨14, .data⟩], none⟩) (by kernel_rfl) rfl rfl (fun K hK => ?_) (fun K hK => ?_)
   ·refine step_one (by rfl) _ _ (by rfl) (nb := W.heap.size) (f := fi) (by rfl) (by rfl) HM1.out.fs HBF1.out (by have := HLA.out.1; omega) HZ1.out.1 ?_
    intro g2 c2 V2 ho2 hg2 hat2
    rw [HLA.out.1] at ho2 ⊢
    have HM2 := lh (HM1.out.fst hg2 HZ1.out.1 HZ1.out.2 ho2 (fun g e => by simp only [Value.ownBlock, Option.some.injEq] at e; subst e; exact hat2))
    have HZ2 : Hid (B ≤ V2.heap.size ∧ b0 + 1 + 1 + 1 < V2.heap.size) := ⟨Nat.le_trans HZ1.out.1 hg2.size, Nat.lt_of_lt_of_le HZ1.out.2 hg2.size⟩
    clear ho2 hg2 hat2
    obtain ⟨hSa2, hTa2⟩ := m7_s HM2.out
    refine hK.out _ _ ⟨fun _ => hSa2, fun _ => hTa2⟩ ?_
    clear hK K hS hS2
    have hS := hSa2
    have hS2 := hTa2
    clear hSa2 hTa2
    try simp only [Act.put, sb]
    refine aone 15 (fun K hK => ?_)
    go_simp
    obtain ⟨V3, hV3⟩ : ∃ X, X = (V2.alloc (.cells #[.int .i64 (di + 1)] 3)) := ⟨_, rfl⟩
    rw [← hV3]
    have hbl3 : Below V2.heap.size V2 V3 := by rw [hV3]; exact bl_alloc _ _
    have HM3 := lh (HM2.out.below hbl3 HZ2.out.1)
    have HZ3 : Hid (B ≤ V3.heap.size ∧ b0 + 1 + 1 + 1 < V3.heap.size) := ⟨Nat.le_trans HZ2.out.1 hbl3.size, Nat.lt_of_lt_of_le HZ2.out.2 hbl3.size⟩
    have HBD3 : Hid (Bx V3 V2.heap.size 3 #[.int .i64 (di + 1)]) := by rw [hV3]; exact Bx.new _ _ _
    clear hV3 hbl3
    obtain ⟨hSa3, hTa3⟩ := m7_s HM3.out
    refine hK.out _ _ ⟨fun _ => hSa3, fun _ => hTa3⟩ ?_
    clear hK K hS hS2
    have hS := hSa3
    have hS2 := hTa3
    clear hSa3 hTa3
    try simp only [Act.put, sb]
    refine aone 16 (fun K hK => ?_)
    refine step_one (by rfl) _ _ (by rfl) (nb := V2.heap.size) (f := (di + 1)) (by rfl) (by rfl) HM3.out.ds HBD3.out (by have := HLA.out.2; omega) HZ3.out.1 ?_
    intro g4 c4 V4 ho4 hg4 hat4
    rw [HLA.out.2] at ho4 ⊢
    have HM4 := lh (HM3.out.snd hg4 HZ3.out.1 HZ3.out.2 ho4 (fun g e => by simp only [Value.ownBlock, Option.some.injEq] at e; subst e; exact hat4))
    have HZ4 : Hid (B ≤ V4.heap.size ∧ b0 + 1 + 1 + 1 < V4.heap.size) := ⟨Nat.le_trans HZ3.out.1 hg4.size, Nat.lt_of_lt_of_le HZ3.out.2 hg4.size⟩
    clear ho4 hg4 hat4
    obtain ⟨hSa4, hTa4⟩ := m7_s HM4.out
    refine hK.out _ _ ⟨fun _ => hSa4, fun _ => hTa4⟩ ?_
    clear hK K hS hS2
    have hS := hSa4
    have hS2 := hTa4
    clear hSa4 hTa4
    try simp only [Act.put, sb]
    refine tk2 17 ⟨hS, hS2⟩ ?_
    try simp only [Act.put, sb]
    refine tk2 18 ⟨hS, hS2⟩ ?_
    try simp only [Act.put, sb]
    have kt := HM4.out.bt
    have kc1 : V4.cell? ⟨tb, 1, none⟩ = some (.slice pf k cf) := kt.cell rfl
    have kc2 : V4.cell? ⟨tb, 2, none⟩ = some (.slice pd k cd) := kt.cell rfl
    have kf1 := kt.free 1
    have kf2 := kt.free 2
    clear kt
    refine aone 19 (fun K hK => ?_)
    go_simp
    have HN9 := m7_ne HM4.out
    refine hK.out _ _ ⟨fun h => absurd h (by decide), fun _ => ⟨by rw [World.cell?_setCell_far _ _ _ _ HN9.1]; exact hS2.1, by rw [World.cell?_setCell_far _ _ _ _ HN9.2.1]; exact hS2.2.1, by rw [World.cell?_setCell_far _ _ _ _ HN9.2.2]; exact hS2.2.2⟩⟩ ?_
    clear hK K hS
    have hS2b : (fun (V : World) => V.cell? ⟨b0, 0, none⟩ = some (.pointer (some ⟨tb, 0, none⟩)) ∧ V.cell? ⟨b0 + 1 + 1, 0, none⟩ = some (.int .i64 fi) ∧ V.cell? ⟨b0 + 1 + 1 + 1, 0, none⟩ = some (.int .i64 di)) (V4.setCell ⟨tb, 1, none⟩ (.slice (some ⟨g2, 0, none⟩) (k + 1) c2)) := ⟨by rw [World.cell?_setCell_far _ _ _ _ HN9.1]; exact hS2.1, by rw [World.cell?_setCell_far _ _ _ _ HN9.2.1]; exact hS2.2.1, by rw [World.cell?_setCell_far _ _ _ _ HN9.2.2]; exact hS2.2.2⟩
    clear hS2 HN9
    have hS2 := hS2b; clear hS2b
    try simp only [Act.put, sb]
    have hS : False → False := id
    refine aone 20 (fun K hK => ?_)
    go_simp
    refine hK.out _ _ ⟨fun h => absurd h (by decide), fun _ => hS2⟩ ?_
    clear hK K
    try simp only [Act.put, sb]
    refine anyL_take2 (i := 21) (u := ?_) rfl (by kernel_rfl) (fun _ _ _ h => h) (Or.inl ⟨by kernel_rfl, ?_⟩) ⟨fun h => absurd h (by decide), fun _ => hS2⟩ ?_
    rotate_left
    focus (intro w hSw; (try dsimp only at hSw); go_simp; try with_reducible rfl)
    try simp only [Act.put, sb]
    refine aone 22 (fun K hK => ?_)
    go_simp
    refine hK.out _ _ ⟨fun h => absurd h (by decide), fun h => absurd h (by decide)⟩ ?_
    clear hK K hS hS2 kc1 kc2 kf1 kf2
    try simp only [Act.put, sb]
    refine anyL_done (by kernel_rfl) (show onlyN _ .normal _ _ from ?_) _
    have HE := lh (m7_end (x := .slice (some ⟨g2, 0, none⟩) (k + 1) c2) (y := .slice (some ⟨g4, 0, none⟩) (k + 1) c4) HM4.out HBT.out)
    obtain ⟨V9, hV9⟩ : ∃ X, X = (V4.setCell ⟨tb, 1, none⟩ (.slice (some ⟨g2, 0, none⟩) (k + 1) c2)).setCell ⟨tb, 2, none⟩ (.slice (some ⟨g4, 0, none⟩) (k + 1) c4) := ⟨_, rfl⟩
    rw [← hV9] at HE ⊢
    clear hV9
    have cR9 : V9.cell? ⟨b0 + 1, 0, none⟩ = some (.bool false) := HE.out.2.1.cell rfl
    have fR9 := HE.out.2.1.free 0
    unfold onlyN
    gi_wp2
    have hBb : B ≤ b0 := by have := HSZ.out.1; have := HB0.out; omega
    have HTR := m7_tree (acc' := acc ++ [(f, d + 1)]) HE.out hBb (by have := HLA.out.1; rw [fsZ_length] at this; rw [List.length_append, this]; rfl) (by rw [fsZ_snoc, HFD.out.1]) (by rw [dsZ_snoc, HFD.out.2.1]; simp) (Nat.le_trans (Nat.le_trans HSZ.out.1 HB5.out.size) hD)
    have hKq : (V9.setCell ⟨b0 + 1, 0, none⟩ (.bool true)).heap[D]? = some (.deferred (some [])) := (KeepsOthers.setCell V9 ⟨b0 + 1, 0, none⟩ (.bool true)).same D _ HE.out.2.2.2.2.2.2 rfl
    refine ⟨by simp, .inl ⟨_, _, rfl, run_takeDeferred hKq, ?_⟩⟩
    have hc5 := HTR.2.2
    refine ⟨.bool true, ?_, HTR.2.1, .inr ⟨f, d, _, _, _, _, rfl, HRK.out, HTR.1⟩⟩
    simp [results, Tryz.f82, go_sem, hc5]
   ·go_simp
    obtain ⟨V2, hV2⟩ : ∃ X, X = (V1.alloc (.cells #[.int .i64 (di + 1)] 3)) := ⟨_, rfl⟩
    rw [← hV2]
    have hbl2 : Below V1.heap.size V1 V2 := by rw [hV2]; exact bl_alloc _ _
    have HM2 := lh (HM1.out.below hbl2 HZ1.out.1)
    have HZ2 : Hid (B ≤ V2.heap.size ∧ b0 + 1 + 1 + 1 < V2.heap.size) := ⟨Nat.le_trans HZ1.out.1 hbl2.size, Nat.lt_of_lt_of_le HZ1.out.2 hbl2.size⟩
    have HBD2 : Hid (Bx V2 V1.heap.size 3 #[.int .i64 (di + 1)]) := by rw [hV2]; exact Bx.new _ _ _
    have HBF2 := lh (HBF1.out.below hbl2)
    clear hV2 hbl2
    obtain ⟨hSa2, hTa2⟩ := m7_s HM2.out
    refine hK.out _ _ ⟨fun _ => hSa2, fun _ => hTa2⟩ ?_
    clear hK K hS hS2
    have hS := hSa2
    have hS2 := hTa2
    clear hSa2 hTa2
    try simp only [Act.put, sb]
    refine aone 8 (fun K hK => ?_)
    refine step_one (by rfl) _ _ (by rfl) (nb := W.heap.size) (f := fi) (by rfl) (by rfl) HM2.out.fs HBF2.out (by have := HLA.out.1; omega) HZ2.out.1 ?_
    intro g3 c3 V3 ho3 hg3 hat3
    rw [HLA.out.1] at ho3 ⊢
    have HM3 := lh (HM2.out.fst hg3 HZ2.out.1 HZ2.out.2 ho3 (fun g e => by simp only [Value.ownBlock, Option.some.injEq] at e; subst e; exact hat3))
    have HZ3 : Hid (B ≤ V3.heap.size ∧ b0 + 1 + 1 + 1 < V3.heap.size) := ⟨Nat.le_trans HZ2.out.1 hg3.size, Nat.lt_of_lt_of_le HZ2.out.2 hg3.size⟩
    have HBD3 := lh (HBD2.out.kept hg3 (fun e => by have := HLF.out.1 _ e.symm; have h0 := HZ1.out.2; omega))
    clear ho3 hg3 hat3
    obtain ⟨hSa3, hTa3⟩ := m7_s HM3.out
    refine hK.out _ _ ⟨fun _ => hSa3, fun _ => hTa3⟩ ?_
    clear hK K hS hS2
    have hS := hSa3
    have hS2 := hTa3
    clear hSa3 hTa3
    try simp only [Act.put, sb]
    refine aone 16 (fun K hK => ?_)
    refine step_one (by rfl) _ _ (by rfl) (nb := V1.heap.size) (f := (di + 1)) (by rfl) (by rfl) HM3.out.ds HBD3.out (by have := HLA.out.2; omega) HZ3.out.1 ?_
    intro g4 c4 V4 ho4 hg4 hat4
    rw [HLA.out.2] at ho4 ⊢
    have HM4 := lh (HM3.out.snd hg4 HZ3.out.1 HZ3.out.2 ho4 (fun g e => by simp only [Value.ownBlock, Option.some.injEq] at e; subst e; exact hat4))
    have HZ4 : Hid (B ≤ V4.heap.size ∧ b0 + 1 + 1 + 1 < V4.heap.size) := ⟨Nat.le_trans HZ3.out.1 hg4.size, Nat.lt_of_lt_of_le HZ3.out.2 hg4.size⟩
    clear ho4 hg4 hat4
    obtain ⟨hSa4, hTa4⟩ := m7_s HM4.out
    refine hK.out _ _ ⟨fun _ => hSa4, fun _ => hTa4⟩ ?_
    clear hK K hS hS2
    have hS := hSa4
    have hS2 := hTa4
    clear hSa4 hTa4
    try simp only [Act.put, sb]
    refine tk2 17 ⟨hS, hS2⟩ ?_
    try simp only [Act.put, sb]
    refine tk2 18 ⟨hS, hS2⟩ ?_
    try simp only [Act.put, sb]
    have kt := HM4.out.bt
    have kc1 : V4.cell? ⟨tb, 1, none⟩ = some (.slice pf k cf) := kt.cell rfl
    have kc2 : V4.cell? ⟨tb, 2, none⟩ = some (.slice pd k cd) := kt.cell rfl
    have kf1 := kt.free 1
    have kf2 := kt.free 2
    clear kt
    refine aone 19 (fun K hK => ?_)
    go_simp
    have HN9 := m7_ne HM4.out
    refine hK.out _ _ ⟨fun h => absurd h (by decide), fun _ => ⟨by rw [World.cell?_setCell_far _ _ _ _ HN9.1]; exact hS2.1, by rw [World.cell?_setCell_far _ _ _ _ HN9.2.1]; exact hS2.2.1, by rw [World.cell?_setCell_far _ _ _ _ HN9.2.2]; exact hS2.2.2⟩⟩ ?_
    clear hK K hS
    have hS2b : (fun (V : World) => V.cell? ⟨b0, 0, none⟩ = some (.pointer (some ⟨tb, 0, none⟩)) ∧ V.cell? ⟨b0 + 1 + 1, 0, none⟩ = some (.int .i64 fi) ∧ V.cell? ⟨b0 + 1 + 1 + 1, 0, none⟩ = some (.int .i64 di)) (V4.setCell ⟨tb, 1, none⟩ (.slice (some ⟨g3, 0, none⟩) (k + 1) c3)) := ⟨by rw [World.cell?_setCell_far _ _ _ _ HN9.1]; exact hS2.1, by rw [World.cell?_setCell_far _ _ _ _ HN9.2.1]; exact hS2.2.1, by rw [World.cell?_setCell_far _ _ _ _ HN9.2.2]; exact hS2.2.2⟩
    clear hS2 HN9
    have hS2 := hS2b; clear hS2b
    try simp only [Act.put, sb]
    have hS : False → False := id
    refine aone 20 (fun K hK => ?_)
    go_simp
    refine hK.out _ _ ⟨fun h => absurd h (by decide), fun _ => hS2⟩ ?_
    clear hK K
    try simp only [Act.put, sb]
    refine anyL_take2 (i := 21) (u := ?_) rfl (by kernel_rfl) (fun _ _ _ h => h) (Or.inl ⟨by kernel_rfl, ?_⟩) ⟨fun h => absurd h (by decide), fun _ => hS2⟩ ?_
    rotate_left
    focus (intro w hSw; (try dsimp only at hSw); go_simp; try with_reducible rfl)
    try simp only [Act.put, sb]
    refine aone 22 (fun K hK => ?_)
    go_simp
    refine hK.out _ _ ⟨fun h => absurd h (by decide), fun h => absurd h (by decide)⟩ ?_
    clear hK K hS hS2 kc1 kc2 kf1 kf2
    try simp only [Act.put, sb]
    refine anyL_done (by kernel_rfl) (show onlyN _ .normal _ _ from ?_) _
    have HE := lh (m7_end (x := .slice (some ⟨g3, 0, none⟩) (k + 1) c3) (y := .slice (some ⟨g4, 0, none⟩) (k + 1) c4) HM4.out HBT.out)
    obtain ⟨V9, hV9⟩ : ∃ X, X = (V4.setCell ⟨tb, 1, none⟩ (.slice (some ⟨g3, 0, none⟩) (k + 1) c3)).setCell ⟨tb, 2, none⟩ (.slice (some ⟨g4, 0, none⟩) (k + 1) c4) := ⟨_, rfl⟩
    rw [← hV9] at HE ⊢
    clear hV9
    have cR9 : V9.cell? ⟨b0 + 1, 0, none⟩ = some (.bool false) := HE.out.2.1.cell rfl
    have fR9 := HE.out.2.1.free 0
    unfold onlyN
    gi_wp2
    have hBb : B ≤ b0 := by have := HSZ.out.1; have := HB0.out; omega
    have HTR := m7_tree (acc' := acc ++ [(f, d + 1)]) HE.out hBb (by have := HLA.out.1; rw [fsZ_length] at this; rw [List.length_append, this]; rfl) (by rw [fsZ_snoc, HFD.out.1]) (by rw [dsZ_snoc, HFD.out.2.1]; simp) (Nat.le_trans (Nat.le_trans HSZ.out.1 HB5.out.size) hD)
    have hKq : (V9.setCell ⟨b0 + 1, 0, none⟩ (.bool true)).heap[D]? = some (.deferred (some [])) := (KeepsOthers.setCell V9 ⟨b0 + 1, 0, none⟩ (.bool true)).same D _ HE.out.2.2.2.2.2.2 rfl
    refine ⟨by simp, .inl ⟨_, _, rfl, run_takeDeferred hKq, ?_⟩⟩
    have hc5 := HTR.2.2
    refine ⟨.bool true, ?_, HTR.2.1, .inr ⟨f, d, _, _, _, _, rfl, HRK.out, HTR.1⟩⟩
    simp [results, Tryz.f82, go_sem, hc5]
  ·go_simp
   obtain ⟨V1, hV1⟩ : ∃ X, X = (W.alloc (.cells #[.int .i64 (di + 1)] 3)).drew := ⟨_, rfl⟩
   rw [← hV1]
   have hbl1 : Below W.heap.size W V1 := by rw [hV1]; exact (bl_alloc _ _).drew
   have HM1 := lh (HM0.out.below hbl1 (Nat.le_trans HSZ.out.1 HSZ.out.2.1))
   have HZ1 : Hid (B ≤ V1.heap.size ∧ b0 + 1 + 1 + 1 < V1.heap.size) := ⟨Nat.le_trans (Nat.le_trans HSZ.out.1 HSZ.out.2.1) hbl1.size, Nat.lt_of_lt_of_le HSZ.out.2.2 hbl1.size⟩
   have HBD1 : Hid (Bx V1 W.heap.size 3 #[.int .i64 (di + 1)]) := by rw [hV1]; exact Bx.new _ _ _
   clear hV1 hbl1
   obtain ⟨hSa1, hTa1⟩ := m7_s HM1.out
   refine hK.out _ _ ⟨fun _ => hSa1, fun _ => hTa1⟩ ?_
   clear hK K hS hS2
   have hS := hSa1
   have hS2 := hTa1
   clear hSa1 hTa1
   try simp only [Act.put, sb]
   refine aone 7 (fun K hK => ?_)
   go_simp
   obtain ⟨V2, hV2⟩ : ∃ X, X = (V1.alloc (.cells #[.int .i64 fi] 3)) := ⟨_, rfl⟩
   rw [← hV2]
   have hbl2 : Below V1.heap.size V1 V2 := by rw [hV2]; exact bl_alloc _ _
   have HM2 := lh (HM1.out.below hbl2 HZ1.out.1)
   have HZ2 : Hid (B ≤ V2.heap.size ∧ b0 + 1 + 1 + 1 < V2.heap.size) := ⟨Nat.le_trans HZ1.out.1 hbl2.size, Nat.lt_of_lt_of_le HZ1.out.2 hbl2.size⟩
   have HBF2 : Hid (Bx V2 V1.heap.size 3 #[.int .i64 fi]) := by rw [hV2]; exact Bx.new _ _ _
   have HBD2 := lh (HBD1.out.below hbl2)
   clear hV2 hbl2
   obtain ⟨hSa2, hTa2⟩ := m7_s HM2.out
   refine hK.out _ _ ⟨fun _ => hSa2, fun _ => hTa2⟩ ?_
   clear hK K hS hS2
   have hS := hSa2
   have hS2 := hTa2
   clear hSa2 hTa2
   try simp only [Act.put, sb]
   refine aone 8 (fun K hK => ?_)
   refine step_one (by rfl) _ _ (by rfl) (nb := V1.heap.size) (f := fi) (by rfl) (by rfl) HM2.out.fs HBF2.out (by have := HLA.out.1; omega) HZ2.out.1 ?_
   intro g3 c3 V3 ho3 hg3 hat3
   rw [HLA.out.1] at ho3 ⊢
   have HM3 := lh (HM2.out.fst hg3 HZ2.out.1 HZ2.out.2 ho3 (fun g e => by simp only [Value.ownBlock, Option.some.injEq] at e; subst e; exact hat3))
   have HZ3 : Hid (B ≤ V3.heap.size ∧ b0 + 1 + 1 + 1 < V3.heap.size) := ⟨Nat.le_trans HZ2.out.1 hg3.size, Nat.lt_of_lt_of_le HZ2.out.2 hg3.size⟩
   have HBD3 := lh (HBD2.out.kept hg3 (fun e => by have := HLF.out.1 _ e.symm; have h0 := HSZ.out.2.2; omega))
   clear ho3 hg3 hat3
   obtain ⟨hSa3, hTa3⟩ := m7_s HM3.out
   refine hK.out _ _ ⟨fun _ => hSa3, fun _ => hTa3⟩ ?_
   clear hK K hS hS2
   have hS := hSa3
   have hS2 := hTa3
   clear hSa3 hTa3
   try simp only [Act.put, sb]
   refine aone 16 (fun K hK => ?_)
   refine step_one (by rfl) _ _ (by rfl) (nb := W.heap.size) (f := (di + 1)) (by rfl) (by rfl) HM3.out.ds HBD3.out (by have := HLA.out.2; omega) HZ3.out.1 ?_
   intro g4 c4 V4 ho4 hg4 hat4
   rw [HLA.out.2] at ho4 ⊢
   have HM4 := lh (HM3.out.snd hg4 HZ3.out.1 HZ3.out.2 ho4 (fun g e => by simp only [Value.ownBlock, Option.some.injEq] at e; subst e; exact hat4))
   have HZ4 : Hid (B ≤ V4.heap.size ∧ b0 + 1 + 1 + 1 < V4.heap.size) := ⟨Nat.le_trans HZ3.out.1 hg4.size, Nat.lt_of_lt_of_le HZ3.out.2 hg4.size⟩
   clear ho4 hg4 hat4
   obtain ⟨hSa4, hTa4⟩ := m7_s HM4.out
   refine hK.out _ _ ⟨fun _ => hSa4, fun _ => hTa4⟩ ?_
   clear hK K hS hS2
   have hS := hSa4
   have hS2 := hTa4
   clear hSa4 hTa4
   try simp only [Act.put, sb]
   refine tk2 17 ⟨hS, hS2⟩ ?_
   try simp only [Act.put, sb]
   refine tk2 18 ⟨hS, hS2⟩ ?_
   try simp only [Act.put, sb]
   have kt := HM4.out.bt
   have kc1 : V4.cell? ⟨tb, 1, none⟩ = some (.slice pf k cf) := kt.cell rfl
   have kc2 : V4.cell? ⟨tb, 2, none⟩ = some (.slice pd k cd) := kt.cell rfl
   have kf1 := kt.free 1
   have kf2 := kt.free 2
   clear kt
   refine aone 19 (fun K hK => ?_)
   go_simp
   have HN9 := m7_ne HM4.out
   refine hK.out _ _ ⟨fun h => absurd h (by decide), fun _ => ⟨by rw [World.cell?_setCell_far _ _ _ _ HN9.1]; exact hS2.1, by rw [World.cell?_setCell_far _ _ _ _ HN9.2.1]; exact hS2.2.1, by rw [World.cell?_setCell_far _ _ _ _ HN9.2.2]; exact hS2.2.2⟩⟩ ?_
   clear hK K hS
   have hS2b : (fun (V : World) => V.cell? ⟨b0, 0, none⟩ = some (.pointer (some ⟨tb, 0, none⟩)) ∧ V.cell? ⟨b0 + 1 + 1, 0, none⟩ = some (.int .i64 fi) ∧ V.cell? ⟨b0 + 1 + 1 + 1, 0, none⟩ = some (.int .i64 di)) (V4.setCell ⟨tb, 1, none⟩ (.slice (some ⟨g3, 0, none⟩) (k + 1) c3)) := ⟨by rw [World.cell?_setCell_far _ _ _ _ HN9.1]; exact hS2.1, by rw [World.cell?_setCell_far _ _ _ _ HN9.2.1]; exact hS2.2.1, by rw [World.cell?_setCell_far _ _ _ _ HN9.2.2]; exact hS2.2.2⟩
   clear hS2 HN9
   have hS2 := hS2b; clear hS2b
   try simp only [Act.put, sb]
   have hS : False → False := id
   refine aone 20 (fun K hK => ?_)
   go_simp
   refine hK.out _ _ ⟨fun h => absurd h (by decide), fun _ => hS2⟩ ?_
   clear hK K
   try simp only [Act.put, sb]
   refine anyL_take2 (i := 21) (u := ?_) rfl (by kernel_rfl) (fun _ _ _ h => h) (Or.inl ⟨by kernel_rfl, ?_⟩) ⟨fun h => absurd h (by decide), fun _ => hS2⟩ ?_
   rotate_left
   focus (intro w hSw; (try dsimp only at hSw); go_simp; try with_reducible rfl)
   try simp only [Act.put, sb]
   refine aone 22 (fun K hK => ?_)
   go_simp
   refine hK.out _ _ ⟨fun h => absurd h (by decide), fun h => absurd h (by decide)⟩ ?_
   clear hK K hS hS2 kc1 kc2 kf1 kf2
   try simp only [Act.put, sb]
   refine anyL_done (by kernel_rfl) (show onlyN _ .normal _ _ from ?_) _
   have HE := lh (m7_end (x := .slice (some ⟨g3, 0, none⟩) (k + 1) c3) (y := .slice (some ⟨g4, 0, none⟩) (k + 1) c4) HM4.out HBT.out)
   obtain ⟨V9, hV9⟩ : ∃ X, X = (V4.setCell ⟨tb, 1, none⟩ (.slice (some ⟨g3, 0, none⟩) (k + 1) c3)).setCell ⟨tb, 2, none⟩ (.slice (some ⟨g4, 0, none⟩) (k + 1) c4) := ⟨_, rfl⟩
   rw [← hV9] at HE ⊢
   clear hV9
   have cR9 : V9.cell? ⟨b0 + 1, 0, none⟩ = some (.bool false) := HE.out.2.1.cell rfl
   have fR9 := HE.out.2.1.free 0
   unfold onlyN
   gi_wp2
   have hBb : B ≤ b0 := by have := HSZ.out.1; have := HB0.out; omega
   have HTR := m7_tree (acc' := acc ++ [(f, d + 1)]) HE.out hBb (by have := HLA.out.1; rw [fsZ_length] at this; rw [List.length_append, this]; rfl) (by rw [fsZ_snoc, HFD.out.1]) (by rw [dsZ_snoc, HFD.out.2.1]; simp) (Nat.le_trans (Nat.le_trans HSZ.out.1 HB5.out.size) hD)
   have hKq : (V9.setCell ⟨b0 + 1, 0, none⟩ (.bool true)).heap[D]? = some (.deferred (some [])) := (KeepsOthers.setCell V9 ⟨b0 + 1, 0, none⟩ (.bool true)).same D _ HE.out.2.2.2.2.2.2 rfl
   refine ⟨by simp, .inl ⟨_, _, rfl, run_takeDeferred hKq, ?_⟩⟩
   have hc5 := HTR.2.2
   refine ⟨.bool true, ?_, HTR.2.1, .inr ⟨f, d, _, _, _, _, rfl, HRK.out, HTR.1⟩⟩
   simp [results, Tryz.f82, go_sem, hc5]
 case stop =>
  rintro D c' pre W hD hSp ⟨⟨rfl, hrk, hR1⟩, hB1⟩ hK
  have HKK := lh hK
  have HR1 := lh hR1
  obtain ⟨t, ht⟩ := hSp
  have HRK : Hid (rk (gf acc) kd.reverse k 0 = none) := by
   show _ = none
   have e := bk_snd kd lk (by have := HLK.out; omega)
   rw [List.take_of_length_le (by have := HLK.out; omega)] at e
   rw [← e, ← ht, List.map_append]
   exact rk_prefix hrk
  clear hK hrk hR1 ht
  gi_wp2
  refine ⟨by simp, .inl ⟨_, _, rfl, run_takeDeferred HKK.out, ?_⟩⟩
  have hc5 := cell_kept (HR1.out.cell (i := 0) (v := .bool false) rfl) (grownBy_putObj' _ D (.deferred none)) (fun r e => by cases e; exact ⟨_, HKK.out, rfl⟩)
  have hBw : B ≤ w.heap.size := by have := HT.out.box.lt; have := HBT.out; omega
  refine ⟨.bool false, ?_, (hB1.mono hBw).trans ((belowK_b (w := w) (Nat.le_refl _) _ D _ _ (by have := HS5.out; have := HB0.out; omega) HKK.out rfl rfl).mono hBw), .inl ⟨rfl, HRK.out⟩⟩
  simp [results, Tryz.f82, go_sem, hc5]
end Go.Proofs.YtkefndfgkmdphaaGreat
