/- Rows of numbers, boxes of two; the walks of last, cut. -/
import Derived.Test.YtildfjlaieaadaaGreatRe
import Derived.Test.YtildfjlaieaadaaGreatQh

namespace Go.Proofs.YtildfjlaieaadaaGreat
open Go.RowKit Tnr

def gq (l : List Int) (i : Nat) : Int := l.getD i 0
theorem gq_get {l : List Int} {i : Nat} (h : i < l.length) : gq l i = l[i] := by
  unfold gq
  rw [List.getD_eq_getElem?_getD, List.getElem?_eq_getElem h]; rfl
/-- a slice of numbers: its cells. -/
def SlQ (w : World) (p : Option Addr) (l : List Int) : Prop :=
  l = [] ∨ ∃ b off, p = some ⟨b, off, none⟩ ∧ ∀ i, i < l.length → w.cell? ⟨b, off + i, none⟩ = some (.int .i64 (gq l i))
theorem SlQ.below {w w' : World} {p : Option Addr} {l : List Int} (h : SlQ w p l) (hb : Below w.heap.size w w') : SlQ w' p l := by
  rcases h with h | ⟨b, off, h1, h2⟩
  · exact .inl h
  · exact .inr ⟨b, off, h1, fun i hi => by rw [hb.cell (World.block_lt_of_cell? w _ (h2 i hi))]; exact h2 i hi⟩
theorem slq_at {w : World} {p : Option Addr} {l : List Int} (h : SlQ w p l) {k : Nat} (hk : k < l.length) : ∃ b off, p = some ⟨b, off, none⟩ ∧ w.cell? ⟨b, off + k, none⟩ = some (.int .i64 (gq l k)) := by
  rcases h with h | ⟨b, off, h1, h2⟩
  · rw [h] at hk; simp at hk
  · exact ⟨b, off, h1, h2 k hk⟩
/-- a row of numbers in a block of the call's own. -/
def OwnQ (w : World) (B : Nat) (v : Value) (l : List Int) : Prop := w.ownsRow B 3 1 v l.length (l.map (Value.int .i64))
theorem ownQ_nil (w : World) (B : Nat) : OwnQ w B (.slice none 0 0) [] := World.ownsRow_nil w B 3 1
theorem ownQ_below {w w' : World} {B : Nat} {v : Value} {l : List Int} (h : OwnQ w B v l) (hb : Below w.heap.size w w') : OwnQ w' B v l := by
  obtain ⟨h1, h2⟩ := h
  refine ⟨h1, ?_⟩
  rcases h2 with h2 | ⟨g, cap, cur, rfl, hg, hh, r⟩
  · exact .inl h2
  · exact .inr ⟨g, cap, cur, rfl, hg, by rw [hb.block g (lt_of_block hh)]; exact hh, r⟩
theorem ownQ_form {w : World} {B : Nat} {v : Value} {l : List Int} (h : OwnQ w B v l) :
    ∃ p c, v = .slice p l.length c ∧ l.length ≤ c ∧ c ≤ 9223372036854775807 ∧ SlQ w p l := by
  have h' := h
  rcases h.2 with ⟨rfl, hn⟩ | ⟨g, cap, cur, rfl, hb, hg, hnc, hcm, hcs, htake⟩
  · have hl : l = [] := List.eq_nil_of_length_eq_zero hn
    subst hl
    exact ⟨none, 0, rfl, by simp, by omega, .inl rfl⟩
  · refine ⟨some ⟨g, 0, none⟩, cap, rfl, hnc, by simpa [maxLen] using hcm, .inr ⟨g, 0, rfl, fun i hi => ?_⟩⟩
    unfold OwnQ at h'
    rw [Nat.zero_add, h'.cellAt i (by omega), List.getElem?_map, List.getElem?_eq_getElem hi, gq_get hi]; rfl
theorem ownQ_ne {w : World} {B : Nat} {v : Value} {l : List Int} (h : OwnQ w B v l) {nb : Nat} {o : Obj} (hv : w.heap[nb]? = some o) (ho : ∀ c fz, o ≠ .cells c 3 fz) : v.ownBlock ≠ some nb := by
  intro hg
  rcases h.2 with ⟨rfl, _⟩ | ⟨g, cap, cur, rfl, _, hh, _⟩
  · simp [Value.ownBlock] at hg
  · simp only [Value.ownBlock, Option.some.injEq] at hg
    subst hg
    rw [hh] at hv
    simp only [Option.some.injEq] at hv
    exact ho _ _ hv.symm
theorem ownQ_appended {w' : World} {B : Nat} {v' : Value} {l : List Int} {n : Nat} {x : Int} (hn : n = l.length) (h : w'.ownsRow B 3 1 v' (n + 1) (l.map (Value.int .i64) ++ [.int .i64 x])) : OwnQ w' B v' (l ++ [x]) := by
  unfold OwnQ
  rw [List.length_append, ← hn, List.map_append]
  exact h
theorem ownQ_row {w : World} {B no d : Nat} {q : Option Addr} {l : List Int} (h : OwnQ w B (.slice q no d) l) (hn : no = l.length) : w.ownsRow B 3 1 (.slice q no d) no (l.map (Value.int .i64)) := by
  unfold OwnQ at h; rw [← hn] at h; exact h
theorem info_intq : (Tryz.prog.info? 3).map (fun i => (i.zero, i.size, i.bytes)) = some (some (.int .i64 0), 1, 8) := by kernel_rfl
theorem ownQ_new (w : World) (x : Int) : OwnQ (w.alloc (.cells #[.int .i64 x] 3)) w.heap.size (.slice (some ⟨w.heap.size, 0, none⟩) 1 1) [x] :=
  World.ownsRow_lit w #[.int .i64 x] 1 (Nat.le_refl _) (by decide) rfl
theorem ownQ_down {w : World} {B B' : Nat} {v : Value} {l : List Int} (h : OwnQ w B v l) (hB : B' ≤ B) : OwnQ w B' v l := World.ownsRow.mono h hB

theorem cells_one_q (w : World) (u : Value) (T : TypeId) : ∀ j x, [u][j]? = some x → (w.alloc (.cells #[u] T)).cell? ((⟨w.heap.size, 0, none⟩ : Addr).add j) = some x := by
  intro j x hx
  match j, hx with
  | 0, hx => show (w.alloc (.cells #[u] T)).cell? ⟨w.heap.size, 0, none⟩ = _; rw [World.cell?_alloc_at _ _ _ _ rfl]; exact hx
  | n + 1, hx => simp at hx
/-- a box of two. -/
def Box2 (W : World) (b : Nat) (T : TypeId) (u v : Value) : Prop := W.heap[b]? = some (.cells #[u, v] T (0, 0))
theorem Box2.lt {W : World} {b : Nat} {T : TypeId} {u v : Value} (h : Box2 W b T u v) : b < W.heap.size := (Array.getElem?_eq_some_iff.1 h).1
theorem Box2.cell0 {W : World} {b : Nat} {T : TypeId} {u v : Value} (h : Box2 W b T u v) : W.cell? ⟨b, 0, none⟩ = some u := by simp [World.cell?, show W.heap[b]? = _ from h]
theorem Box2.cell1 {W : World} {b : Nat} {T : TypeId} {u v : Value} (h : Box2 W b T u v) : W.cell? ⟨b, 1, none⟩ = some v := by simp [World.cell?, show W.heap[b]? = _ from h]
theorem Box2.free {W : World} {b : Nat} {T : TypeId} {u v : Value} (h : Box2 W b T u v) (i : Nat) : W.frozen? ⟨b, i, none⟩ = false := by simp [World.frozen?, show W.heap[b]? = _ from h]
theorem Box2.new (W : World) (T : TypeId) (u v : Value) : Box2 (W.alloc (.cells #[u, v] T)) W.heap.size T u v := World.alloc_heap_new W _
theorem Box2.at {W W' : World} {b : Nat} {T : TypeId} {u v : Value} (h : Box2 W b T u v) (e : W'.heap[b]? = W.heap[b]?) : Box2 W' b T u v := e.trans h
theorem Box2.below {W W' : World} {b : Nat} {T : TypeId} {u v : Value} (h : Box2 W b T u v) (hb : Below W.heap.size W W') : Box2 W' b T u v := (hb.block b h.lt).trans h
theorem Box2.kept {W W' : World} {row : Option Nat} {b : Nat} {T : TypeId} {u v : Value} (h : Box2 W b T u v) (hg : W.grownBy W' row) (hne : some b ≠ row) : Box2 W' b T u v := (hg.block b h.lt hne).trans h
theorem Box2.set0 {W : World} {b : Nat} {T : TypeId} {u v : Value} (x : Value) (h : Box2 W b T u v) : Box2 (W.setCell ⟨b, 0, none⟩ x) b T x v := by
  obtain ⟨hlt, hk⟩ := Array.getElem?_eq_some_iff.1 h
  show (W.heap.modify b _)[b]? = _
  rw [Array.getElem?_eq_getElem (by rw [Array.size_modify]; exact hlt), Array.getElem_modify_self, hk]
  rfl
theorem Box2.set1 {W : World} {b : Nat} {T : TypeId} {u v : Value} (x : Value) (h : Box2 W b T u v) : Box2 (W.setCell ⟨b, 1, none⟩ x) b T u x := by
  obtain ⟨hlt, hk⟩ := Array.getElem?_eq_some_iff.1 h
  show (W.heap.modify b _)[b]? = _
  rw [Array.getElem?_eq_getElem (by rw [Array.size_modify]; exact hlt), Array.getElem_modify_self, hk]
  rfl
theorem Box2.other {W : World} {b : Nat} {T : TypeId} {u v : Value} (h : Box2 W b T u v) {a : Addr} (ha : b ≠ a.block) (x : Value) : Box2 (W.setCell a x) b T u v := by
  unfold Box2
  rw [Below.heap_setCell _ _ _ _ ha]; exact h

/-- the last code point of a piece. -/
def endQ (cs : List Int) (i : Nat) : Int := if i + 1 = cs.length then 1114111 else gq cs (i + 1) - 1
def InQ (cs : List Int) : Prop := ∀ i, i < cs.length → 0 ≤ gq cs i ∧ gq cs i ≤ 1114111

set_option maxHeartbeats 800000 in
set_option maxRecDepth 100000 in
theorem last_any (p : Option Addr) (c n i : Nat) (cs : List Int) (w : World) (hn : n = cs.length) (hp : SlQ w p cs) (hi : i < n) (hl : n ≤ 1000000) (hb : InQ cs) :
    Calls Tryz.prog 30 #[.slice p n c, .int .i64 (i : Nat)] w fun e w' => e = .returned (.int .i64 (endQ cs i)) ∧ w = w' := by
  have hlI : (n : Int) ≤ 1000000 := by omega
  have hiI : (i : Int) < n := by omega
  have HN := Lib.hid hn
  have HP := Lib.hid hp
  have HB := Lib.hid hb
  clear hn hp hb
  by_cases h : i + 1 = n
  · have h' : (i : Int) = n - 1 := by omega
    have HE : Hid (endQ cs i = 1114111) := by show endQ cs i = _; unfold endQ; rw [if_pos (by rw [← HN.out]; exact h)]
    have hq : ((i : Int) == (n : Int) - 1) = true := by rw [beq_iff_eq]; exact h'
    clear h
    go_enter Tryz.func30, Tryz.ntmps30
    go_wp2
    go_ret
    exact ⟨by rw [HE.out]; rfl, rfl⟩
  · have h' : ¬ (i : Int) = n - 1 := by omega
    have hlt : i + 1 < n := by omega
    obtain ⟨b, o, rfl, hc⟩ := slq_at HP.out (show i + 1 < cs.length by have := HN.out; omega)
    obtain ⟨x, hx⟩ : ∃ x, x = gq cs (i + 1) := ⟨_, rfl⟩
    have hb1 := HB.out (i + 1) (by have := HN.out; omega)
    rw [← hx] at hc hb1
    have HE : Hid (endQ cs i = x - 1) := by show endQ cs i = _; unfold endQ; rw [if_neg (by rw [← HN.out]; exact h), hx]
    have hlI2 : (i : Int) + 1 < n := by omega
    have hq : ((i : Int) == (n : Int) - 1) = false := by rw [beq_eq_false_iff_ne]; exact h'
    clear h hx
    go_enter Tryz.func30, Tryz.ntmps30
    go_wp2
    go_ret
    exact ⟨by rw [HE.out]; rfl, rfl⟩

/-- cuts at work: their row, in the box of classes. -/
def CutIn (w : World) (b B : Nat) (cs : List Int) (v : Value) : Prop := ∃ p c, Box2 w b 37 (.slice p cs.length c) v ∧ OwnQ w B (.slice p cs.length c) cs
theorem CutIn.below {w w' : World} {b B : Nat} {cs : List Int} {v : Value} (h : CutIn w b B cs v) (hb : Below w.heap.size w w') : CutIn w' b B cs v := by
  obtain ⟨p, c, h1, h2⟩ := h
  exact ⟨p, c, h1.below hb, ownQ_below h2 hb⟩
def NotInt (w : World) (k : Nat) : Prop := ∀ c fz, w.heap[k]? ≠ some (.cells c 3 fz)
def CutPost (b B : Nat) (_cs cs' : List Int) (v : Value) (w : World) (e : Ending) (w' : World) : Prop :=
  e = .returned (.tuple #[]) ∧ CutIn w' b B cs' v ∧ Below B w w' ∧ ∀ k, k < w.heap.size → k ≠ b → NotInt w k → w'.heap[k]? = w.heap[k]?

set_option maxHeartbeats 1600000 in
set_option maxRecDepth 100000 in
theorem cut_any (b B : Nat) (cs cs' : List Int) (v : Value) (x : Int) (w : World) (hcs : cs' = cs ++ (if okCut x then [x] else [])) (h : CutIn w b B cs v) (hB : B ≤ b) (hl : cs.length ≤ 1000000) :
    Calls Tryz.prog 47 #[.pointer (some ⟨b, 0, none⟩), .int .i64 x] w (CutPost b B cs cs' v w) := by
  obtain ⟨i0, hinf, hz0, hz1, hz2⟩ := info_parts info_intq
  obtain ⟨p, c, hbx, how⟩ := h
  have HBB := Lib.hid hB
  have HL := Lib.hid hl
  have HBX := Lib.hid hbx
  have HOW := Lib.hid how
  have hc := hbx.cell0
  have hf := hbx.free 0
  have HNE : Hid ((Value.slice p cs.length c).ownBlock ≠ some b) := ownQ_ne how (show w.heap[b]? = some _ from hbx) (by intro c fz e; injection e with _ h2 _; exact absurd h2 (by decide))
  obtain ⟨n, hn⟩ : ∃ n, n = cs.length := ⟨_, rfl⟩
  have HN := Lib.hid hn
  have HCS := Lib.hid hcs
  have hbl := hbx.lt
  by_cases h1 : 0 < x
  · by_cases h2 : x ≤ 1114111
    · have hok : okCut x = true := by simp [okCut]; omega
      have HE : Hid (cs' = cs ++ [x]) := by show _ = _; rw [HCS.out, if_pos hok]
      rw [← hn] at hc HBX HOW HNE
      have hrow := ownQ_row HOW.out hn
      have HRO := Lib.hid hrow
      have hc2 : (w.alloc (.cells #[.int .i64 x] 3)).cell? ⟨b, 0, none⟩ = some (.slice p n c) := by
        rw [(bl_alloc w (.cells #[.int .i64 x] 3)).cell hbl]; exact hc
      clear hbx how hB hl hn hcs hok hrow
      go_enter Tryz.func47, Tryz.ntmps47
      go_wp2_with (at_builtin; refine wpList_append_own _ rfl _ _ 35 rfl B 3 i0 (.int .i64 0) 1 8 Tryz.underlying35 hinf hz0 hz1 hz2 rfl (by decide) (.slice p n c) n _ rfl (HRO.out.alloc _) ⟨w.heap.size, 0, none⟩ 1 1 [.int .i64 x] rfl rfl (cells_one_q _ _ _) (by simp [Value.oneCell']) (by have := HL.out; have := HN.out; simp only [maxLen]; omega) (by have := HL.out; have := HN.out; omega) (by have := HBB.out; simp; omega) ?_)
      intro v5 w5 hown5 hgrow5 _
      have hO5 : OwnQ w5 B v5 (cs ++ [x]) := ownQ_appended HN.out hown5
      have hbx0 : Box2 (w.alloc (.cells #[.int .i64 x] 3)) b 37 (.slice p n c) v := HBX.out.below (bl_alloc _ _)
      have hbx5 : Box2 w5 b 37 (.slice p n c) v := hbx0.kept hgrow5 (Ne.symm HNE.out)
      obtain ⟨g5, cap5, rfl⟩ := ownsRow_succ hown5
      have hc5 := hbx5.cell0
      have hf5 := hbx5.free 0
      have HX5 := Lib.hid hbx5
      have HO5 := Lib.hid hO5
      have HG5 := Lib.hid hgrow5
      have HR5 := Lib.hid hown5
      clear hbx0 hbx5 hO5 hown5 hgrow5
      go_wp2
      go_end0
      have hlen : n + 1 = (cs ++ [x]).length := by rw [List.length_append, ← HN.out]; rfl
      refine ⟨rfl, ⟨some ⟨g5, 0, none⟩, cap5, ?_, ?_⟩, ?_, ?_⟩
      · rw [HE.out, ← hlen]
        exact HX5.out.set0 _
      · rw [HE.out, ← hlen]
        refine ownsRow_setCell_other (a := ⟨b, 0, none⟩) HO5.out (ownQ_ne HO5.out (show w5.heap[b]? = some _ from HX5.out) ?_) _
        intro c fz e; injection e with _ h2 _; exact absurd h2 (by decide)
      · have hbb := HBB.out
        exact ((((Below.refl B w).alloc (by omega) _).grown HG5.out (by simp; omega) (fun k hk => (HRO.out.lt k hk).1))).setCell hbb _
      · intro k hk hkb hni
        rw [Below.heap_setCell _ _ _ k (by simpa using hkb), HG5.out.block k (by simp; omega) (fun e => ?_)]
        · exact heap_alloc_old _ _ hk
        · obtain ⟨_, hkl⟩ := HRO.out.lt k e.symm
          rcases HOW.out.2 with ⟨e2, _⟩ | ⟨g, cap, cur, e2, _, hh, _⟩
          · rw [e2] at e; simp [Value.ownBlock] at e
          · rw [e2] at e
            simp only [Value.ownBlock, Option.some.injEq] at e
            subst e
            exact hni _ _ hh
    · have h2' : 1114111 < x := by omega
      have hok : okCut x = false := by simp [okCut]; omega
      have HE : Hid (cs' = cs) := by show _ = _; rw [HCS.out, hok]; simp
      clear hbx how hB hl hn hcs hok
      go_enter Tryz.func47, Tryz.ntmps47
      go_wp2
      go_end0
      exact ⟨rfl, by rw [HE.out]; exact ⟨p, c, HBX.out, HOW.out⟩, Below.refl _ _, fun _ _ _ _ => rfl⟩
  · have h1' : x ≤ 0 := by omega
    have hok : okCut x = false := by simp [okCut]; omega
    have HE : Hid (cs' = cs) := by show _ = _; rw [HCS.out, hok]; simp
    clear hbx how hB hl hn hcs hok h1
    go_enter Tryz.func47, Tryz.ntmps47
    go_wp2
    go_end0
    exact ⟨rfl, by rw [HE.out]; exact ⟨p, c, HBX.out, HOW.out⟩, Below.refl _ _, fun _ _ _ _ => rfl⟩
/-- a value of classes: where its pieces lie. -/
def ClsAt (w : World) (v : Value) (ps : List (Int × Nat)) : Prop :=
  ∃ p c q d, v = .agg #[.slice p ps.length c, .slice q ps.length d] ∧ SlQ w p (ps.map Prod.fst) ∧ SlQ w q (ps.map fun x => (x.2 : Int))
theorem ClsAt.below {w w' : World} {v : Value} {ps : List (Int × Nat)} (h : ClsAt w v ps) (hb : Below w.heap.size w w') : ClsAt w' v ps := by
  obtain ⟨p, c, q, d, h1, h2, h3⟩ := h
  exact ⟨p, c, q, d, h1, h2.below hb, h3.below hb⟩
end Go.Proofs.YtildfjlaieaadaaGreat
