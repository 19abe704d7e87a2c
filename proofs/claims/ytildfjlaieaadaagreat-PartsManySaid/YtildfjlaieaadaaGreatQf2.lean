/- Two rows of numbers beside each other, one of them appended to; the walk of with: what holds at each round. -/
import Derived.Test.YtildfjlaieaadaaGreatQf

namespace Go.Proofs.YtildfjlaieaadaaGreat
open Go.RowKit Tnr Go.Maps

theorem ownQ_kept {w w' : World} {B : Nat} {v : Value} {l : List Int} {row : Option Nat} (h : OwnQ w B v l) (hg : w.grownBy w' row) (hne : v.ownBlock = none ∨ v.ownBlock ≠ row) : OwnQ w' B v l := World.ownsRow.kept h hg hne
theorem ownQ_int {w : World} {B n : Nat} {v : Value} {xs : List Value} (h : w.ownsRow B 3 1 v n xs) {k : Nat} (hk : v.ownBlock = some k) : ¬ NotInt w k := by
  intro hn
  rcases h.2 with ⟨rfl, _⟩ | ⟨g, cap, cur, rfl, _, hh, _⟩
  · simp [Value.ownBlock] at hk
  · simp only [Value.ownBlock, Option.some.injEq] at hk
    subst hk
    exact hn _ _ hh
/-- one of two rows is appended to. -/
theorem grow_one {B n gg : Nat} {w w' w2 : World} {v v' u : Value} {a b : List Int} {x : Int} (hn : n = a.length) (hr : w.ownsRow B 3 1 v n (a.map (Value.int .i64))) (hu : OwnQ w B u b)
    (hap : ∀ g, v.ownBlock = some g → u.ownBlock ≠ some g) (hw : Below w.heap.size w w') (hs : w'.heap.size = w.heap.size + 1)
    (hown : w2.ownsRow B 3 1 v' (n + 1) (a.map (Value.int .i64) ++ [.int .i64 x])) (hg : w'.grownBy w2 v.ownBlock) (hat : v.ownBlock = some gg ∨ gg = w.heap.size + 1) (hB : B ≤ w.heap.size) :
    OwnQ w2 B v' (a ++ [x]) ∧ OwnQ w2 B u b ∧ u.ownBlock ≠ some gg ∧ (∀ k, k < w.heap.size → NotInt w k → w2.heap[k]? = w.heap[k]?) ∧ ∀ z, Below B z w → Below B z w2 := by
  refine ⟨ownQ_appended hn hown, ?_, ?_, fun k hk hni => ?_, fun z hz => ?_⟩
  · refine ownQ_kept (ownQ_below hu hw) hg ?_
    rcases h : v.ownBlock with _ | g
    · rcases h2 : u.ownBlock with _ | g2
      · exact .inl rfl
      · exact .inr (by simp)
    · exact .inr (hap g h)
  · rcases hat with h | h
    · exact hap gg h
    · intro e
      have := (World.ownsRow.lt hu gg e).2
      omega
  · rw [hg.block k (by omega) (fun e => ownQ_int hr e.symm hni)]
    exact hw.block k hk
  · exact ((hz.trans (hw.mono hB)).grown hg (by omega) (fun k hk => (hr.lt k hk).1))
theorem ni_of {w : World} {k : Nat} {c : Array Value} {T : TypeId} {fz : Nat × Nat} (h : w.heap[k]? = some (.cells c T fz)) (hT : T ≠ 3) : NotInt w k := by
  intro c2 f2 e
  rw [h] at e
  simp only [Option.some.injEq, Obj.cells.injEq] at e
  exact hT e.2.1
theorem ownQ_set {w : World} {B k : Nat} {v : Value} {l : List Int} (h : OwnQ w B v l) (hk : NotInt w k) (i : Nat) (x : Value) : OwnQ (w.setCell ⟨k, i, none⟩ x) B v l :=
  ownsRow_setCell_other (a := ⟨k, i, none⟩) h (fun e => ownQ_int h e hk) x

/-- behind the number of a piece. -/
structure WJ (w W : World) (B : Nat) (u v u' v' : Value) (don : List (Int × (Nat × Nat))) (k : Nat × Nat) (num : Nat) : Prop where
  b0 : Box2 W B 37 u v
  b1 : Box2 W (B + 1) 37 u' v'
  b2 : Box2 W (B + 1 + 1) 37 (.slice none 0 0) (.slice none 0 0)
  map : ∃ D, W.ownsMap Tryz.prog 95 (plainElem Tryz.prog 3) (B + 1 + 1 + 1 + 1) (keysOn (keys don) ((0 : Int), k)).length D ∧ MapIs D (keysOn (keys don) ((0 : Int), k))
  rows : ∃ pc cc pn cn, Box2 W (B + 1 + 1 + 1) 37 (.slice pc don.length cc) (.slice pn don.length cn) ∧ OwnQ W B (.slice pc don.length cc) (don.map Prod.fst) ∧ OwnQ W B (.slice pn don.length cn) ((numd don).map fun x => (x.2 : Int)) ∧
    ∀ g, (Value.slice pc don.length cc).ownBlock = some g → (Value.slice pn don.length cn).ownBlock ≠ some g
  low : Below w.heap.size w W
  num : num = ix (keysOn (keys don) ((0 : Int), k)) k

structure WI (w wr : World) (B : Nat) (l m : List (Int × Nat)) (u v u' v' : Value) (i j : Nat) (don : List (Int × (Nat × Nat))) : Prop where
  eq : mergeP l m = don ++ mergeP (l.drop i) (m.drop j)
  st : St (l.drop i) (m.drop j)
  b0 : Box2 wr B 37 u v
  b1 : Box2 wr (B + 1) 37 u' v'
  b2 : Box2 wr (B + 1 + 1) 37 (.slice none 0 0) (.slice none 0 0)
  few : (keys don).length ≤ 60
  map : ∃ D, wr.ownsMap Tryz.prog 95 (plainElem Tryz.prog 3) (B + 1 + 1 + 1 + 1) (keys don).length D ∧ MapIs D (keys don)
  rows : ∃ pc cc pn cn, Box2 wr (B + 1 + 1 + 1) 37 (.slice pc don.length cc) (.slice pn don.length cn) ∧ OwnQ wr B (.slice pc don.length cc) (don.map Prod.fst) ∧ OwnQ wr B (.slice pn don.length cn) ((numd don).map fun x => (x.2 : Int)) ∧
    ∀ g, (Value.slice pc don.length cc).ownBlock = some g → (Value.slice pn don.length cn).ownBlock ≠ some g
  low : Below w.heap.size w wr
theorem merge_at {l m : List (Int × Nat)} {don : List (Int × (Nat × Nat))} {i j : Nat} {x y : Int} {a b : Nat} (eq : mergeP l m = don ++ mergeP (l.drop i) (m.drop j)) (st : St (l.drop i) (m.drop j)) (HD : l.drop i = (x, a) :: l.drop (i + 1)) (HD' : m.drop j = (y, b) :: m.drop (j + 1))
    {i' j' : Nat} (hi : i' = if ends (l.drop i) ≤ ends (m.drop j) then i + 1 else i) (hj : j' = if ends (m.drop j) ≤ ends (l.drop i) then j + 1 else j) :
    mergeP l m = (don ++ [(max x y, (a, b))]) ++ mergeP (l.drop i') (m.drop j') ∧ St (l.drop i') (m.drop j') := by
  have e1 : l.drop i' = if ends (l.drop i) ≤ ends (m.drop j) then l.drop (i + 1) else l.drop i := by rw [hi]; split <;> rfl
  have e2 : m.drop j' = if ends (m.drop j) ≤ ends (l.drop i) then m.drop (j + 1) else m.drop j := by rw [hj]; split <;> rfl
  rw [e1, e2]
  rw [HD, HD'] at eq st ⊢
  refine ⟨?_, st.next⟩
  rw [eq, mergeP_cons, List.append_assoc]
  rfl

/-- behind the appends: the box, both rows, all else as it was. -/
structure Aft (B : Nat) (W W' : World) (v u : Value) (a b : List Int) : Prop where
  box : Box2 W' (B + 1 + 1 + 1) 37 v u
  one : OwnQ W' B v a
  two : OwnQ W' B u b
  apart : ∀ g, v.ownBlock = some g → u.ownBlock ≠ some g
  same : ∀ k, k < W.heap.size → k ≠ B + 1 + 1 + 1 → NotInt W k → W'.heap[k]? = W.heap[k]?
  low : ∀ z, Below B z W → Below B z W'
theorem aft_first {B : Nat} {w w2 : World} {v u : Value} {dl gg cap : Nat} {mx : Int} {don : List (Int × (Nat × Nat))} {b : List Int} (hdl : dl = don.length)
    (hbw : Box2 w2 (B + 1 + 1 + 1) 37 v u) (hr : w.ownsRow B 3 1 v dl ((don.map Prod.fst).map (Value.int .i64))) (hon : OwnQ w B u b)
    (hap : ∀ g, v.ownBlock = some g → u.ownBlock ≠ some g)
    (hown : w2.ownsRow B 3 1 (.slice (some ⟨gg, 0, none⟩) (dl + 1) cap) (dl + 1) ((don.map Prod.fst).map (Value.int .i64) ++ [.int .i64 mx]))
    (hg : ((w.alloc (.cells #[.int .i64 mx] 3)).drew).grownBy w2 v.ownBlock) (hat : v.ownBlock = some gg ∨ gg = w.heap.size + 1) (hB : B ≤ w.heap.size) :
    Aft B w (w2.setCell ⟨B + 1 + 1 + 1, 0, none⟩ (.slice (some ⟨gg, 0, none⟩) (dl + 1) cap)) (.slice (some ⟨gg, 0, none⟩) (dl + 1) cap) u (don.map Prod.fst ++ [mx]) b := by
  obtain ⟨h1, h2, h3, h4, h5⟩ := grow_one (by rw [List.length_map]; exact hdl) hr hon hap (bl_alloc w (.cells #[.int .i64 mx] 3)).drew (by simp) hown hg hat hB
  have hni : NotInt w2 (B + 1 + 1 + 1) := ni_of (show w2.heap[B + 1 + 1 + 1]? = some _ from hbw) (by decide)
  refine ⟨hbw.set0 _, ownQ_set h1 hni _ _, ownQ_set h2 hni _ _, fun g hg2 => ?_, fun k hk hne hn => ?_, fun z hz => (h5 z hz).setCell (by show B ≤ B + 1 + 1 + 1; omega) _⟩
  · simp only [Value.ownBlock, Option.some.injEq] at hg2
    rw [← hg2]; exact h3
  · rw [Below.heap_setCell _ _ _ k hne]
    exact h4 k hk hn
theorem aft_second {B : Nat} {w W w2 : World} {v u : Value} {n g2 cap : Nat} {x : Int} {a b : List Int} (h : Aft B w W v u a b) (hn : n = b.length) (hr : W.ownsRow B 3 1 u n (b.map (Value.int .i64)))
    (hbw : Box2 w2 (B + 1 + 1 + 1) 37 v u)
    (hown : w2.ownsRow B 3 1 (.slice (some ⟨g2, 0, none⟩) (n + 1) cap) (n + 1) (b.map (Value.int .i64) ++ [.int .i64 x]))
    (hg : (W.alloc (.cells #[.int .i64 x] 3)).grownBy w2 u.ownBlock) (hat : u.ownBlock = some g2 ∨ g2 = W.heap.size + 1) (hB : B ≤ W.heap.size) (hs : w.heap.size ≤ W.heap.size) :
    Aft B w (w2.setCell ⟨B + 1 + 1 + 1, 1, none⟩ (.slice (some ⟨g2, 0, none⟩) (n + 1) cap)) v (.slice (some ⟨g2, 0, none⟩) (n + 1) cap) a (b ++ [x]) := by
  obtain ⟨h1, h2, h3, h4, h5⟩ := grow_one hn hr h.one (fun g hg hv => h.apart g hv hg) (bl_alloc W (.cells #[.int .i64 x] 3)) (by simp) hown hg hat hB
  have hni : NotInt w2 (B + 1 + 1 + 1) := ni_of (show w2.heap[B + 1 + 1 + 1]? = some _ from hbw) (by decide)
  refine ⟨hbw.set1 _, ownQ_set h2 hni _ _, ownQ_set h1 hni _ _, fun g hg2 e => ?_, fun k hk hne hn2 => ?_, fun z hz => (h5 z (h.low z hz)).setCell (by show B ≤ B + 1 + 1 + 1; omega) _⟩
  · simp only [Value.ownBlock, Option.some.injEq] at e
    rw [e] at h3; exact h3 hg2
  · rw [Below.heap_setCell _ _ _ k hne, ← h.same k hk hne hn2]
    refine h4 k (by omega) fun c fz e => ?_
    rw [h.same k hk hne hn2] at e
    exact hn2 c fz e

theorem keysOn_of (ks : List (Nat × Nat)) (x : Int) (k : Nat × Nat) : keysOn ks (x, k) = keysOn ks ((0 : Int), k) := rfl
theorem wi_next {w wr W W' : World} {B i j i' j' num : Nat} {l m : List (Int × Nat)} {u v u' v' : Value} {don : List (Int × (Nat × Nat))} {x y : Int} {a b : Nat} {pc pn : Option Addr} {dl cc cn : Nat}
    (h : WI w wr B l m u v u' v' i j don) (hj : WJ w W B u v u' v' don (a, b) num) (hd : dl = don.length) (ha : Aft B W W' (.slice pc (dl + 1) cc) (.slice pn (dl + 1) cn) (don.map Prod.fst ++ [max x y]) (((numd don).map fun x => (x.2 : Int)) ++ [(num : Int)])) (hB : B = w.heap.size) (h60 : num < 60)
    (hn : mergeP l m = (don ++ [(max x y, (a, b))]) ++ mergeP (l.drop i') (m.drop j') ∧ St (l.drop i') (m.drop j')) : WI w W' B l m u v u' v' i' j' (don ++ [(max x y, (a, b))]) := by
  have ek : keys (don ++ [(max x y, (a, b))]) = keysOn (keys don) ((0 : Int), (a, b)) := by rw [keys_snoc]; rfl
  have n0 : ∀ {k : Nat} {s t : Value}, Box2 W k 37 s t → k ≠ B + 1 + 1 + 1 → Box2 W' k 37 s t := fun hb hk => hb.at (ha.same _ hb.lt hk (ni_of (show W.heap[_]? = some _ from hb) (by decide)))
  have el : (don ++ [(max x y, (a, b))]).length = dl + 1 := by rw [List.length_append, hd]; rfl
  refine ⟨hn.1, hn.2, n0 hj.b0 (by omega), n0 hj.b1 (by omega), n0 hj.b2 (by omega), ?_, ?_, ⟨pc, cc, pn, cn, ?_, ?_, ?_, ?_⟩, ?_⟩
  · rw [ek]
    have hnum := hj.num
    by_cases hm : (a, b) ∈ keys don
    · unfold keysOn; rw [if_pos hm]; exact h.few
    · rw [ix_new (p := ((0 : Int), (a, b))) hm] at hnum
      rw [keysOn_length, if_neg hm]; omega
  · rw [ek]
    obtain ⟨D, h1, h2⟩ := hj.map
    refine ⟨D, ?_, h2⟩
    have hlt := h1.lt
    obtain ⟨es, ck, h3, h4⟩ := h1
    refine ⟨es, ck, (ha.same _ hlt (by omega) fun c fz e => ?_).trans h3, h4⟩
    rw [h3] at e; cases e
  · rw [el]; exact ha.box
  · rw [el, List.map_append]; exact ha.one
  · rw [el, numd_snoc_ix, List.map_append]
    have e : ix (keysOn (keys don) (max x y, (a, b))) (a, b) = num := by rw [hj.num]; rfl
    show OwnQ W' B (.slice pn (dl + 1) cn) (((numd don).map fun x => (x.2 : Int)) ++ [((ix (keysOn (keys don) (max x y, (a, b))) (a, b) : Nat) : Int)])
    rw [e]; exact ha.two
  · rw [el]; exact ha.apart
  · rw [← hB]; exact ha.low w (by rw [hB]; exact hj.low)

theorem WI.drew {w wr : World} {B i j : Nat} {l m : List (Int × Nat)} {u v u' v' : Value} {don : List (Int × (Nat × Nat))} (h : WI w wr B l m u v u' v' i j don) (n : Nat) : WI w (wr.drewN n) B l m u v u' v' i j don := by
  have hb := drewN_below wr n
  refine ⟨h.eq, h.st, h.b0.below hb, h.b1.below hb, h.b2.below hb, h.few, ?_, ?_, bl_trans h.low hb⟩
  · obtain ⟨D, h1, h2⟩ := h.map
    have hlt := h1.lt
    obtain ⟨es, ck, h3, h4⟩ := h1
    exact ⟨D, ⟨es, ck, (hb.block _ hlt).trans h3, h4⟩, h2⟩
  · obtain ⟨pc, cc, pn, cn, r1, r2, r3, r4⟩ := h.rows
    exact ⟨pc, cc, pn, cn, r1.below hb, ownQ_below r2 hb, ownQ_below r3 hb, r4⟩
theorem good_inQ {S : List (List R)} {ps : List (Int × Nat)} {n : Nat} (h : Tnr.Good S ps n) : InQ (ps.map Prod.fst) := by
  obtain ⟨a, l, rfl⟩ := h.start
  intro i hi
  rw [gq_get hi, List.getElem_map]
  exact Wf.above h.wf _ (List.getElem_mem _)
theorem ownQ_notmap {w : World} {B b : Nat} {v : Value} {l : List Int} {P : Program} {k : TypeId} {R : Value → Option (DataW Unit × List MemPlace)} {n : Nat} {D : DataW Unit} (h : OwnQ w B v l) (hm : w.ownsMap P k R b n D) : v.ownBlock ≠ some b := by
  intro e
  obtain ⟨es, ck, h3, _⟩ := hm
  exact ownQ_int h e fun c fz k => by rw [h3] at k; cases k

def WithPost (S T : List (List R)) (l m : List (Int × Nat)) (w : World) (e : Ending) (w' : World) : Prop :=
  Below w.heap.size w w' ∧ ((e = .returned (.tuple #[.agg #[.slice none 0 0, .slice none 0 0], .bool false]) ∧ More (S ++ T)) ∨
    ∃ v n ps, e = .returned (.tuple #[v, .bool true]) ∧ ClsAt w' v ps ∧ Tnr.Good (S ++ T) ps n ∧ ps.length + 1 ≤ l.length + m.length)
end Go.Proofs.YtildfjlaieaadaaGreat
