/- Rows of rows at work: each row in memory of its own; one is appended to, one more is begun; the walk of sets. -/
import Derived.Test.YtildfjlaieaadaaGreatQi

namespace Go.Proofs.YtildfjlaieaadaaGreat
open Go.RowKit Tnr

def NotR (w : World) (k : Nat) : Prop := ∀ c fz, w.heap[k]? ≠ some (.cells c 28 fz)
def gv (vs : List Value) (i : Nat) : Value := vs.getD i (.slice none 0 0)
theorem gv_get {vs : List Value} {i : Nat} (h : i < vs.length) : gv vs i = vs[i] := by
  unfold gv; rw [List.getD_eq_getElem?_getD, List.getElem?_eq_getElem h]; rfl
theorem gv_set {vs : List Value} {k i : Nat} (v : Value) (hk : k < vs.length) : gv (vs.set k v) i = if i = k then v else gv vs i := by
  unfold gv
  rw [List.getD_eq_getElem?_getD, List.getElem?_set, List.getD_eq_getElem?_getD]
  by_cases h : k = i
  · subst h; simp [hk]
  · rw [if_neg h, if_neg (fun e => h e.symm)]
theorem gl_set {L : List (List R)} {k i : Nat} (v : List R) (hk : k < L.length) : gl (L.set k v) i = if i = k then v else gl L i := by
  unfold gl
  rw [List.getD_eq_getElem?_getD, List.getElem?_set, List.getD_eq_getElem?_getD]
  by_cases h : k = i
  · subst h; simp [hk]
  · rw [if_neg h, if_neg (fun e => h e.symm)]
theorem ownR_cells {w : World} {B n : Nat} {v : Value} {xs : List Value} (h : w.ownsRow B 28 2 v n xs) {k : Nat} (hk : v.ownBlock = some k) : ¬ NotR w k := by
  intro hn
  rcases h.2 with ⟨rfl, _⟩ | ⟨g, cap, cur, rfl, _, hh, _⟩
  · simp [Value.ownBlock] at hk
  · simp only [Value.ownBlock, Option.some.injEq] at hk
    subst hk
    exact hn _ _ hh
theorem nr_of {w : World} {k : Nat} {c : Array Value} {T : TypeId} {fz : Nat × Nat} (h : w.heap[k]? = some (.cells c T fz)) (hT : T ≠ 28) : NotR w k := by
  intro c2 f2 e
  rw [h] at e
  simp only [Option.some.injEq, Obj.cells.injEq] at e
  exact hT e.2.1
theorem row_nr {w : World} {B n g co : Nat} {xs : List Value} (h : w.ownsRow B 29 1 (.slice (some ⟨g, 0, none⟩) n co) n xs) : NotR w g := by
  rcases h.2 with ⟨h', _⟩ | ⟨g', cap, cur, e, _, hh, _⟩
  · simp at h'
  · simp only [Value.slice.injEq, Option.some.injEq, Addr.mk.injEq, and_true, true_and] at e
    obtain ⟨rfl, rfl⟩ := e
    exact nr_of hh (by decide)
theorem ownR_kept {w w' : World} {B : Nat} {v : Value} {l : List R} {row : Option Nat} (h : OwnR w B v l) (hg : w.grownBy w' row) (hne : v.ownBlock = none ∨ v.ownBlock ≠ row) : OwnR w' B v l := World.ownsRow.kept h hg hne

/-- a row of rows at work. -/
structure RowsIn (w : World) (B : Nat) (v : Value) (vs : List Value) (L : List (List R)) : Prop where
  out : w.ownsRow B 29 1 v vs.length vs
  len : vs.length = L.length
  own : ∀ i, i < L.length → OwnR w B (gv vs i) (gl L i)
  apart : ∀ i k, i < L.length → k < L.length → i ≠ k → ∀ g, (gv vs i).ownBlock = some g → (gv vs k).ownBlock ≠ some g
theorem RowsIn.below {w w' : World} {B : Nat} {v : Value} {vs : List Value} {L : List (List R)} (h : RowsIn w B v vs L) (hb : Below w.heap.size w w') : RowsIn w' B v vs L := by
  refine ⟨?_, h.len, fun i hi => ownR_below (h.own i hi) hb, h.apart⟩
  obtain ⟨h1, h2⟩ := h.out
  refine ⟨h1, ?_⟩
  rcases h2 with h2 | ⟨g, cap, cur, rfl, hg, hh, r⟩
  · exact .inl h2
  · exact .inr ⟨g, cap, cur, rfl, hg, by rw [hb.block g (lt_of_block hh)]; exact hh, r⟩
theorem RowsIn.nil (w : World) (B : Nat) : RowsIn w B (.slice none 0 0) [] [] :=
  ⟨World.ownsRow_nil w B _ 1, rfl, fun i hi => by simp at hi, fun i k hi => by simp at hi⟩
theorem not_two {a b : Option Nat} (h : ∀ g, b = some g → a ≠ some g) : a = none ∨ a ≠ b := by
  rcases ha : a with _ | g
  · exact .inl rfl
  · right
    intro e
    exact h g e.symm ha
/-- one row is appended to, and stored. -/
theorem RowsIn.put {w w2 : World} {B g nn co num li gg cap : Nat} {vs : List Value} {L : List (List R)} {vi : Value} {x y : Int} (h : RowsIn w B (.slice (some ⟨g, 0, none⟩) nn co) vs L) (hnum : num < L.length) (hvi : vi = gv vs num) (hli : li = (gl L num).length)
    (hown : w2.ownsRow B 28 2 (.slice (some ⟨gg, 0, none⟩) (li + 1) cap) (li + 1) ((gl L num).flatMap encR ++ [.int .i64 x, .int .i64 y])) (hgrow : ((w.alloc (.cells #[.int .i64 x, .int .i64 y] 28)).drew).grownBy w2 vi.ownBlock)
    (hat : vi.ownBlock = some gg ∨ gg = w.heap.size + 1) (hnn : nn = L.length) (hB : B ≤ w.heap.size) :
    RowsIn (w2.setCell ⟨g, num, none⟩ (.slice (some ⟨gg, 0, none⟩) (li + 1) cap)) B (.slice (some ⟨g, 0, none⟩) nn co) (vs.set num (.slice (some ⟨gg, 0, none⟩) (li + 1) cap)) (L.set num (gl L num ++ [(x, y)])) ∧
      (∀ k, k < w.heap.size → k ≠ g → NotR w k → (w2.setCell ⟨g, num, none⟩ (.slice (some ⟨gg, 0, none⟩) (li + 1) cap)).heap[k]? = w.heap[k]?) ∧ ∀ z, Below B z w → Below B z (w2.setCell ⟨g, num, none⟩ (.slice (some ⟨gg, 0, none⟩) (li + 1) cap)) := by
  have hbl : Below w.heap.size w ((w.alloc (.cells #[.int .i64 x, .int .i64 y] 28)).drew) := (bl_alloc _ _).drew
  have h1 := h.below hbl
  have hout := h.out
  have hlen := h.len
  have hvl : nn = vs.length := hnn.trans hlen.symm
  rw [← hvl] at hout
  have hgl : g < w.heap.size := (hout.lt g rfl).2
  have hgB : B ≤ g := (hout.lt g rfl).1
  have hnr := row_nr hout
  have hviown := h.own num hnum
  rw [← hvi] at hviown
  have hne : vi.ownBlock ≠ some g := fun e => ownR_cells hviown e hnr
  have hggne : gg ≠ g := by
    rcases hat with e | e
    · intro q; exact hne (q ▸ e)
    · omega
  have hout2 : w2.ownsRow B 29 1 (.slice (some ⟨g, 0, none⟩) nn co) nn vs := by
    have q := h1.out
    rw [← hvl] at q
    exact q.kept hgrow (.inr (fun e => hne e.symm))
  have hset : ∀ {v : Value} {l : List R}, OwnR w2 B v l → v.ownBlock ≠ some g → OwnR (w2.setCell ⟨g, num, none⟩ (.slice (some ⟨gg, 0, none⟩) (li + 1) cap)) B v l := fun q e => ownsRow_setCell_other (a := ⟨g, num, none⟩) q e _
  have hnew : OwnR w2 B (.slice (some ⟨gg, 0, none⟩) (li + 1) cap) (gl L num ++ [(x, y)]) := ownR_appended (r := (x, y)) hli.symm hown
  have hold : ∀ i, i < L.length → i ≠ num → OwnR w2 B (gv vs i) (gl L i) ∧ (gv vs i).ownBlock ≠ some gg ∧ (gv vs i).ownBlock ≠ some g := by
    intro i hi hin
    have q := h1.own i hi
    have q0 := h.own i hi
    have ap := h.apart num i hnum hi (fun e => hin e.symm)
    refine ⟨ownR_kept q hgrow (not_two fun k hk => ap k (by rw [← hvi]; exact hk)), fun e => ?_, fun e => ownR_cells q0 e hnr⟩
    rcases hat with hh | hh
    · exact ap gg (by rw [← hvi]; exact hh) e
    · have := (World.ownsRow.lt q0 gg e).2
      omega
  refine ⟨⟨?_, by simp [hlen], fun i hi => ?_, fun i k hi hk hik b hb => ?_⟩, fun k hk hkg hkn => ?_, fun z hz => ?_⟩
  · rw [List.length_set, ← hvl]
    exact (hout2.stored num _).1
  · rw [List.length_set] at hi
    rw [gv_set _ (by omega), gl_set _ hnum]
    by_cases e : i = num
    · rw [if_pos e, if_pos e]
      exact hset hnew (by simp [Value.ownBlock]; exact hggne)
    · rw [if_neg e, if_neg e]
      exact hset (hold i hi e).1 (hold i hi e).2.2
  · rw [List.length_set] at hi hk
    rw [gv_set _ (by omega)] at hb ⊢
    by_cases e : i = num
    · rw [if_pos e] at hb
      simp only [Value.ownBlock, Option.some.injEq] at hb
      subst hb
      rw [if_neg (by omega)]
      exact (hold k hk (by omega)).2.1
    · rw [if_neg e] at hb
      by_cases e2 : k = num
      · rw [if_pos e2]
        intro q
        simp only [Value.ownBlock, Option.some.injEq] at q
        rw [← q] at hb
        exact (hold i hi e).2.1 hb
      · rw [if_neg e2]
        exact h.apart i k hi hk hik b hb
  · rw [Below.heap_setCell _ _ _ k hkg, hgrow.block k (by simp; omega) (fun e => ownR_cells hviown e.symm hkn)]
    exact hbl.block k hk
  · refine ((hz.trans (hbl.mono hB)).grown hgrow (by simp; omega) (fun k hk => (World.ownsRow.lt hviown k hk).1)).setCell hgB _
/-- one row more. -/
theorem RowsIn.more {w w2 : World} {B nn : Nat} {v v' : Value} {vs : List Value} {L : List (List R)} (h : RowsIn w B v vs L) (hnn : nn = L.length)
    (hown : w2.ownsRow B 29 1 v' (nn + 1) (vs ++ [.slice none 0 0])) (hgrow : (w.alloc (.cells #[.slice none 0 0] 29)).grownBy w2 v.ownBlock) (hB : B ≤ w.heap.size) :
    RowsIn w2 B v' (vs ++ [.slice none 0 0]) (L ++ [[]]) ∧ (∀ k, k < w.heap.size → some k ≠ v.ownBlock → w2.heap[k]? = w.heap[k]?) ∧ ∀ z, Below B z w → Below B z w2 := by
  have hbl : Below w.heap.size w (w.alloc (.cells #[.slice none 0 0] 29)) := bl_alloc _ _
  have h1 := h.below hbl
  have hlen := h.len
  have hout := h.out
  have gvl : ∀ i, i < vs.length → gv (vs ++ [.slice none 0 0]) i = gv vs i := by
    intro i hi
    unfold gv
    rw [List.getD_eq_getElem?_getD, List.getD_eq_getElem?_getD, List.getElem?_append_left hi]
  have gll : ∀ i, i < L.length → gl (L ++ [[]]) i = gl L i := by
    intro i hi
    unfold gl
    rw [List.getD_eq_getElem?_getD, List.getD_eq_getElem?_getD, List.getElem?_append_left hi]
  have gvn : gv (vs ++ [.slice none 0 0]) vs.length = .slice none 0 0 := by unfold gv; simp
  have gln : gl (L ++ [[]]) L.length = [] := by unfold gl; simp
  refine ⟨⟨?_, by simp [hlen], fun i hi => ?_, fun i k hi hk hik b hb => ?_⟩, fun k hk hne => ?_, fun z hz => ?_⟩
  · rw [List.length_append, hlen, ← hnn]; exact hown
  · rw [List.length_append] at hi
    by_cases e : i < L.length
    · rw [gvl i (by omega), gll i e]
      refine ownR_kept (h1.own i e) hgrow (not_two fun g hg hv => ?_)
      rcases hout.2 with ⟨rfl, _⟩ | ⟨g', cap, cur, rfl, _, hh, _⟩
      · simp [Value.ownBlock] at hg
      · simp only [Value.ownBlock, Option.some.injEq] at hg
        subst hg
        exact ownR_cells (h.own i e) hv (nr_of hh (by decide))
    · have e2 : i = L.length := by simp at hi; omega
      subst e2
      rw [← hlen, gvn, hlen, gln]
      exact ownR_nil _ _
  · rw [List.length_append] at hi hk
    simp only [List.length_cons, List.length_nil] at hi hk
    by_cases e : i < L.length
    · rw [gvl i (by omega)] at hb
      by_cases e2 : k < L.length
      · rw [gvl k (by omega)]
        exact h.apart i k e e2 hik b hb
      · have e3 : k = vs.length := by omega
        rw [e3, gvn]
        simp [Value.ownBlock]
    · have e3 : i = vs.length := by omega
      rw [e3, gvn] at hb
      simp [Value.ownBlock] at hb
  · rw [hgrow.block k (by simp; omega) hne]
    exact hbl.block k hk
  · exact (hz.trans (hbl.mono hB)).grown hgrow (by simp; omega) (fun k hk => (hout.lt k hk).1)
/-- what is told. -/
theorem RowsIn.sls {w : World} {B n c : Nat} {p : Option Addr} {vs : List Value} {L : List (List R)} (h : RowsIn w B (.slice p n c) vs L) : ∃ xs : List SV, rowsV xs = L ∧ SlS w p xs := by
  obtain ⟨F, hF⟩ := Classical.axiomOfChoice (r := fun (i : Fin L.length) (x : SV) => gv vs i = .slice x.1 x.2.2.length x.2.1 ∧ x.2.2 = gl L i ∧ SlR w x.1 x.2.2) (fun i => by
    obtain ⟨q, cq, e, _, _, _, hs, _⟩ := ownR_form (h.own i i.2)
    exact ⟨(q, cq, gl L i), e, rfl, hs⟩)
  have hlen := h.len
  refine ⟨List.ofFn F, ?_, fun x hx => ?_, ?_⟩
  · unfold rowsV
    rw [List.map_ofFn]
    apply List.ext_getElem
    · simp
    · intro i h1 h2
      rw [List.getElem_ofFn]
      show (F _).2.2 = _
      rw [(hF _).2.1]
      exact gl_get h2
  · obtain ⟨i, rfl⟩ := List.mem_ofFn.1 hx
    exact (hF i).2.2
  · by_cases h0 : L.length = 0
    · left
      exact List.eq_nil_of_length_eq_zero (by simp; exact List.eq_nil_of_length_eq_zero h0)
    · right
      rcases h.out.2 with ⟨_, hn⟩ | ⟨g, cap, cur, e, hb, hh, r⟩
      · omega
      · simp only [Value.slice.injEq] at e
        obtain ⟨rfl, rfl, rfl⟩ := e
        refine ⟨g, 0, rfl, fun i hi => ?_⟩
        rw [List.length_ofFn] at hi
        have e1 : gs (List.ofFn F) i = F ⟨i, hi⟩ := by
          rw [gs_get (by simpa using hi), List.getElem_ofFn]
        rw [e1, ← (hF ⟨i, hi⟩).1, Nat.zero_add, h.out.cellAt i (by omega), List.getElem?_eq_getElem (by omega)]
        show some _ = some (gv vs i)
        rw [gv_get (by omega)]
end Go.Proofs.YtildfjlaieaadaaGreat
