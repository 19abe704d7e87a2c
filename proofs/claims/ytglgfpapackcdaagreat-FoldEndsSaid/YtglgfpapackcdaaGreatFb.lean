/- The marks of the kit's flat.. calls; appending to a row handed out, for the walk. -/
import Derived.Test.YtglgfpapackcdaaGreatFa
import Derived.WalkKit
import Derived.WalkSpells
import Derived.WalkLawsBesides
import Derived.LoopTactic
import Derived.RegionTactic
import Derived.Deep.QuietTactic
import Derived.BigQuiet
import Derived.Deep.RegionWith
import Derived.Outline
import Derived.OneCell
import Derived.Laws.OwnMore
import Derived.Lib.SmallJoins
import Derived.Maps.AppendAt
import Derived.Deep.LoopGhost
import Derived.Deep.RegionHeld3
import Derived.Deep.RegionLaw
import Derived.Shelf.Abstract

namespace Go.Proofs.YtglgfpapackcdaaGreat
open Go.RowKit

theorem finfo_parts {P : Program} {T : TypeId} {z : Option Value} {s b : Nat} (h : (P.info? T).map (fun i => (i.zero, i.size, i.bytes)) = some (z, s, b)) : ∃ i, P.info? T = some i ∧ i.zero = z ∧ i.size = s ∧ i.bytes = b := by
  cases hi : P.info? T with
  | none => rw [hi] at h; simp at h
  | some i => rw [hi] at h; simp only [Option.map_some, Option.some.injEq, Prod.mk.injEq] at h; exact ⟨i, rfl, h.1, h.2.1, h.2.2⟩

def mk (k i : Nat) : Int := 1000003 * ((k : Int) + 7) + i
theorem mark2_any (k i : Nat) (w : World) (h0 : k ≤ 1000) (h1 : i ≤ 1000000000) : Calls Tryz.prog 117 #[.int .i64 (k : Nat), .int .i64 (i : Nat)] w fun e w' => e = .returned (.int .i64 (mk k i)) ∧ w' = w := by
  have hkI : (k : Int) ≤ 1000 := by omega
  have hiI : (i : Int) ≤ 1000000000 := by omega
  go_enter Tryz.func117, Tryz.ntmps117
  go_wp2
  go_ret
  exact ⟨rfl, rfl⟩
theorem markRange2_any (k i : Nat) (w : World) (h0 : k ≤ 1000) (h1 : i ≤ 1000000000) : Calls Tryz.prog 74 #[.int .i64 (k : Nat), .int .i64 (i : Nat)] w fun e w' => e = .returned (.agg #[.int .i64 (mk k i), .int .i64 0]) ∧ Below w.heap.size w w' := by
  have HM := fun W => mark2_any k i W h0 h1
  obtain ⟨x, hx⟩ : ∃ x, x = mk k i := ⟨_, rfl⟩
  rw [← hx] at HM ⊢
  clear hx h0 h1
  go_enter Tryz.func74, Tryz.ntmps74
  go_wp2_with (go_at_call 117; refine (HM _).mono ?_; rintro e w' ⟨rfl, hw'⟩; obtain rfl := hw'.symm; clear hw')
  refine bodyPost_ret (v := .agg #[.int .i64 x, .int .i64 0]) (by simp [results, Tryz.results74, go_sem]) rfl ?_
  exact ⟨rfl, (Below.refl _ _).alloc (Nat.le_refl _) _⟩

def mrow (mc : Nat → Nat → List Value) (k n : Nat) : List Value := (List.range n).flatMap (mc k)
theorem mrow_succ (mc : Nat → Nat → List Value) (k n : Nat) : mrow mc k (n + 1) = mrow mc k n ++ mc k n := by unfold mrow; rw [List.range_succ, List.flatMap_append]; simp
theorem mrow_length {mc : Nat → Nat → List Value} {sz : Nat} (hmc : ∀ k i, (mc k i).length = sz) (k n : Nat) : (mrow mc k n).length = n * sz := by
  induction n with
  | zero => simp [mrow]
  | succ n ih => rw [mrow_succ, List.length_append, ih, hmc, Nat.add_mul, Nat.one_mul]
theorem mrow_at {mc : Nat → Nat → List Value} {sz : Nat} (hmc : ∀ k i, (mc k i).length = sz) (k n i t : Nat) (h : i < n) (ht : t < sz) : (mrow mc k n)[i * sz + t]? = (mc k i)[t]? := by
  induction n with
  | zero => omega
  | succ n ih =>
    have hl := mrow_length hmc k n
    rw [mrow_succ]
    by_cases hi : i < n
    · have hle : (i + 1) * sz ≤ n * sz := Nat.mul_le_mul_right _ hi
      rw [Nat.add_mul, Nat.one_mul] at hle
      rw [List.getElem?_append_left (by omega)]
      exact ih hi
    · obtain rfl : i = n := by omega
      rw [List.getElem?_append_right (by omega), hl]
      congr 1; omega
theorem Fill.front {w : World} {d : D} {xs ys : List Value} (h : Fill w d (xs ++ ys)) : Fill w d xs := fun b hb j u hu => h b hb j u (by
  rw [List.getElem?_append_left (List.getElem?_eq_some_iff.1 hu).1]; exact hu)
theorem mrow_cell {mc : Nat → Nat → List Value} {sz : Nat} (hmc : ∀ k i, (mc k i).length = sz) {w : World} {d : D} {k n i b t : Nat} {u : Value} (h : Fill w d (mrow mc k n)) (hb : d.p = some b) (hi : i < n) (ht : t < sz) (hu : (mc k i)[t]? = some u) : w.cell? ⟨b, i * sz + t, none⟩ = some u :=
  h b hb _ _ (by rw [mrow_at hmc k n i t hi ht]; exact hu)

def Grew (w : World) (sz : Nat) (e0 : D) (m : Nat) (ys : List Value) (d' : D) (w' : World) : Prop :=
  d'.n = e0.n + m ∧ Room w' sz d' ∧ Fill w' d' ys ∧ w.grownBy w' e0.p ∧ Stay w w' sz e0 ∧ ((d'.p = e0.p ∧ d'.c = e0.c) ∨ ∃ b, d'.p = some b ∧ w.heap.size ≤ b)

theorem wpList_append_far {P : Program} {w : World} {ops : Array Oper} {rest : List Oper} {o : Oper} {a : Act} {Q : Exit → Act → World → Prop} (hgd : o.guard = none) (s x : Operand) (t : TypeId)
    (hop : o.op = .call { callee := .builtin .append, args := #[s, x], argTypes := #[t, t] })
    (e : TypeId) (i : TypeInfo) (z : Value) (sz bytes : Nat) (h1 : P.underlying t = some (.slice e)) (h2 : P.info? e = some i) (h3 : i.zero = some z) (h4 : i.size = sz) (h5 : i.bytes = bytes) (h6 : z.cells.size = sz) (h7 : 0 < sz)
    (e0 : D) (hs : a.eval s = e0.val) (he : Room w sz e0) (xs : List Value) (hxl : xs.length = e0.n * sz) (hxf : Fill w e0 xs)
    (ad : Addr) (m c : Nat) (news : List Value) (hx : a.eval x = .slice (some ad) m c) (hn : news.length = m * sz) (hc : ∀ j u, news[j]? = some u → w.cell? (ad.add j) = some u) (h1c : ∀ u ∈ news, u.oneCell' = true) (hm : 0 < m)
    (b1 : e0.n + m ≤ maxLen) (b2 : (e0.n + m) * bytes ≤ 140737488355328)
    (hK : ∀ d' w', Grew w sz e0 m (xs ++ news) d' w' → wpList P ops Q rest (a.put o.dst d'.val) w') : wpList P ops Q (o :: rest) a w := by
  refine wpList_plain hgd fun K hK' => ?_
  obtain ⟨d', w', hrun, hr⟩ := run_grow (P := P) t o.type e i z bytes h1 h2 h3 h4 h5 h6 h7 e0 he xs hxl hxf ad m c news hn hc h1c hm b1 b2
  unfold Oper.wp
  simp [execOp, hop, resolve, invoke, builtin, hs, hx, hrun, Result.andThen]
  exact hK' _ _ (hK d' w' hr)

theorem slD_at {w : World} {q : Option Addr} {ds : List D} (h : SlD w q ds) {k : Nat} (hk : k < ds.length) : ∃ b off, q = some ⟨b, off, none⟩ ∧ w.cell? ⟨b, off + k, none⟩ = some (dg ds k).val ∧ ¬ InD ds b ∧ b < w.heap.size := by
  rcases h with h | ⟨b, off, h1, h2, h3, h4⟩
  · subst h; simp at hk
  · exact ⟨b, off, h1, h4 k hk, h2, h3⟩
theorem slD_cell {w : World} {b off : Nat} {ds : List D} (h : SlD w (some ⟨b, off, none⟩) ds) {k : Nat} (hk : k < ds.length) : w.cell? ⟨b, off + k, none⟩ = some (dg ds k).val := by
  obtain ⟨b', off', e, hc, _⟩ := slD_at h hk
  simp only [Option.some.injEq, Addr.mk.injEq, and_true] at e
  obtain ⟨rfl, rfl⟩ := e
  exact hc
theorem room_some {w : World} {sz : Nat} {d : D} (h : Room w sz d) (hn : 0 < d.n) : ∃ b, d.p = some b := by
  cases e : d.p with
  | none => have := h.nil e; have := h.le; omega
  | some b => exact ⟨b, rfl⟩
theorem val_some (b n c : Nat) : D.val ⟨some b, n, c⟩ = .slice (some ⟨b, 0, none⟩) n c := rfl
theorem fkeep_cell {W w6 : World} {a : Addr} {v : Value} (hb : Below W.heap.size W w6) (h : W.cell? a = some v) : w6.cell? a = some v := by rw [hb.cell (World.block_lt_of_cell? W _ h)]; exact h
theorem fkeep_frozen {W w6 : World} {a : Addr} {v : Value} (hb : Below W.heap.size W w6) (h : W.cell? a = some v) (hf : W.frozen? a = false) : w6.frozen? a = false := by rw [hb.frozen (World.block_lt_of_cell? W _ h)]; exact hf
theorem fl_drew {w w' : World} (h : Below w.drew.heap.size w.drew w') : Below w.heap.size w w' := ((Below.refl _ w).drew).trans h
theorem Fill.below {d : D} {xs : List Value} {sz : Nat} {W W' : World} (h : Fill W d xs) (hr : Room W sz d) (hb : Below W.heap.size W W') : Fill W' d xs := h.at (fun b e => hb.block b (hr.lt b e))
theorem Room.below {d : D} {sz : Nat} {W W' : World} (hr : Room W sz d) (hb : Below W.heap.size W W') : Room W' sz d := hr.at hb.size (fun b e => hb.block b (hr.lt b e))
theorem room_set {sz : Nat} {d : D} {W : World} (h : Room W sz d) (b o : Nat) (vs : List Value) : Room (W.setCells b o vs) sz d :=
  ⟨h.le, h.max, h.nil, fun b' e' => Nat.lt_of_lt_of_le (h.lt b' e') (grown_setCells W b o vs).size, fun b' e' j hj => ⟨World.isSome_setCells b _ _ W _ (h.cell b' e' j hj).1, (World.frozen?_setCells b _ _ _ _).trans (h.cell b' e' j hj).2⟩⟩
theorem fill_set {mc : Nat → Nat → List Value} {sz : Nat} (hmc : ∀ k i, (mc k i).length = sz) {d : D} {W : World} {k i b : Nat} (hr : Room W sz d) (hb : d.p = some b) (hi : i < d.c) (h : Fill W d (mrow mc k i)) : Fill (W.setCells b (i * sz) (mc k i)) d (mrow mc k (i + 1)) := by
  have hle : (i + 1) * sz ≤ d.c * sz := Nat.mul_le_mul_right _ hi
  rw [Nat.add_mul, Nat.one_mul] at hle
  have hsome : ∀ j, j < (mc k i).length → (W.cell? ⟨b, i * sz + j, none⟩).isSome = true := fun j hj => (hr.cell b hb _ (by rw [hmc] at hj; omega)).1
  intro b' e' j x hx
  have hb' : b = b' := by rw [hb] at e'; simpa using e'
  subst hb'
  rw [mrow_succ] at hx
  have hl := mrow_length hmc k i
  by_cases hj : j < i * sz
  · rw [List.getElem?_append_left (by omega)] at hx
    rw [World.cell?_setCells_out b _ _ _ _ (fun _ _ => Or.inl hj)]
    exact h b hb j x hx
  · rw [List.getElem?_append_right (by omega), hl] at hx
    have hlt : j - i * sz < (mc k i).length := (List.getElem?_eq_some_iff.1 hx).1
    have hin := World.cell?_setCells_in b (mc k i) (i * sz) W hsome (j - i * sz) hlt
    rw [show i * sz + (j - i * sz) = j by omega] at hin
    rw [hin, ← List.getElem?_eq_getElem hlt]; exact hx

structure L1 (sz : Nat) (mc : Nat → Nat → List Value) (ds : List D) (m : Nat) (w : World) (k : Nat) (wr : World) : Prop where
  but : But (InD ds) w wr
  room : ∀ j, j < m → Room wr sz (dg ds j)
  fill : ∀ j, j < k → j < m → Fill wr (dg ds j) (mrow mc j (dg ds j).n)
theorem L1.below {sz : Nat} {mc : Nat → Nat → List Value} {ds : List D} {m k : Nat} {w W W' : World} (h : L1 sz mc ds m w k W) (hb : Below W.heap.size W W') : L1 sz mc ds m w k W' :=
  ⟨h.but.trans (But.ofBelow hb _), fun j hj => (h.room j hj).below hb, fun j hj hjm => (h.fill j hj hjm).below (h.room j hjm) hb⟩
theorem mark_one {sz : Nat} {mc : Nat → Nat → List Value} (hmc : ∀ k i, (mc k i).length = sz) {W w' : World} {ds : List D} {m k i b n c : Nat} {w : World} (hm : m = ds.length) (hf : Far ds) (h : L1 sz mc ds m w k W) (hk : k < m) (hd : dg ds k = ⟨some b, n, c⟩) (hi : i < n)
    (hfi : Fill W (dg ds k) (mrow mc k i)) (hw : w' = W.setCells b (i * sz) (mc k i)) : L1 sz mc ds m w k w' ∧ Fill w' (dg ds k) (mrow mc k (i + 1)) := by
  subst hw
  have hroomk := h.room k hk
  have hg := grown_setCells W b (i * sz) (mc k i)
  have hp : (dg ds k).p = some b := by rw [hd]
  have hic : i < (dg ds k).c := by have := hroomk.le; rw [hd] at this ⊢; simp only at this ⊢; omega
  have hb : But (InD ds) W (W.setCells b (i * sz) (mc k i)) := (But.ofGrown hg).mono fun j e => by
    simp only [Option.some.injEq] at e; subst e; exact ⟨k, by omega, hp⟩
  refine ⟨⟨h.but.trans hb, fun j hj => room_set (h.room j hj) _ _ _, fun j hj hjm => ?_⟩, fill_set hmc hroomk hp hic hfi⟩
  refine (h.fill j hj hjm).at (fun b' e => hg.block b' ((h.room j hjm).lt b' e) (fun e2 => ?_))
  simp only [Option.some.injEq] at e2
  subst e2
  have := hf j k b' (by omega) (by omega) e hp
  omega

structure L2 (sz : Nat) (mc : Nat → Nat → List Value) (ds es : List D) (m x G Z : Nat) (w wr : World) : Prop where
  but : But (InD ds) w wr
  room : ∀ j, j < m → Room wr sz (dg ds j)
  fill : ∀ j, j < m → Fill wr (dg ds j) (mrow mc j (dg ds j).n)
  roomE : ∀ j, j < es.length → Room wr sz (dg es j)
  fillE : ∀ j, j < es.length → Fill wr (dg es j) (mrow mc j ((dg ds j).n + x))
  nE : ∀ j, j < es.length → (dg es j).n = (dg ds j).n + 64
  place : ∀ j, j < es.length → (dg es j).p = (dg ds j).p ∨ ∃ b, (dg es j).p = some b ∧ Z ≤ b
  gn : ¬ InD ds G
  gz : G < Z
  zs : Z ≤ wr.heap.size
  wz : w.heap.size ≤ Z
  free : ∀ j, j < m → (wr.cell? ⟨G, j, none⟩).isSome = true ∧ wr.frozen? ⟨G, j, none⟩ = false
  cell : ∀ j, j < es.length → wr.cell? ⟨G, j, none⟩ = some (dg es j).val
  em : es.length ≤ m
  dw : ∀ b, InD ds b → b < w.heap.size
  wg : w.heap.size ≤ G

section
variable {sz : Nat} {mc : Nat → Nat → List Value} {ds es : List D} {m x G Z : Nat} {w W W' : World}

theorem L2.but' (h : L2 sz mc ds es m x G Z w W) {S : Nat → Prop} (hb : But S W W') (hS : ∀ b, S b → ¬ InD ds b ∧ ¬ InD es b ∧ b ≠ G ∧ w.heap.size ≤ b) (hm : m = ds.length) : L2 sz mc ds es m x G Z w W' := by
  have hds : ∀ j, j < m → ∀ b, (dg ds j).p = some b → W'.heap[b]? = W.heap[b]? := fun j hj b e => hb.block b ((h.room j hj).lt b e) (fun s => (hS b s).1 ⟨j, by omega, e⟩)
  have hes : ∀ j, j < es.length → ∀ b, (dg es j).p = some b → W'.heap[b]? = W.heap[b]? := fun j hj b e => hb.block b ((h.roomE j hj).lt b e) (fun s => (hS b s).2.1 ⟨j, hj, e⟩)
  have hG : W'.heap[G]? = W.heap[G]? := hb.block G (Nat.lt_of_lt_of_le h.gz h.zs) (fun s => (hS G s).2.2.1 rfl)
  refine ⟨h.but.then hb (fun i s => .inr (hS i s).2.2.2), fun j hj => (h.room j hj).at hb.size (hds j hj), fun j hj => (h.fill j hj).at (hds j hj), fun j hj => (h.roomE j hj).at hb.size (hes j hj), fun j hj => (h.fillE j hj).at (hes j hj), h.nE, h.place, h.gn, h.gz, Nat.le_trans h.zs hb.size, h.wz, fun j hj => ?_, fun j hj => ?_, h.em, h.dw, h.wg⟩
  · rw [World.cell?_of_block (w := W) (w' := W') (a := ⟨G, j, none⟩) hG, World.frozen?_of_block (w := W) (w' := W') (a := ⟨G, j, none⟩) hG]; exact h.free j hj
  · rw [World.cell?_of_block (w := W) (w' := W') (a := ⟨G, j, none⟩) hG]; exact h.cell j hj
theorem L2.below (h : L2 sz mc ds es m x G Z w W) (hb : Below W.heap.size W W') (hm : m = ds.length) : L2 sz mc ds es m x G Z w W' :=
  h.but' (But.ofBelow hb (fun _ => False)) (fun _ f => f.elim) hm

structure At2 (ds es : List D) (k G Z : Nat) (W : World) (e : D) : Prop where
  or : (e.p = (dg ds k).p ∧ e.c = (dg ds k).c) ∨ ∃ b, e.p = some b ∧ ¬ InD ds b ∧ ¬ InD es b ∧ b ≠ G ∧ Z ≤ b

theorem L2.grew (h : L2 sz mc ds es m x G Z w W) (hm : m = ds.length) (hf : Far ds) (hk : es.length < m) {e e' : D} {a : Nat} {ys : List Value} (ha : At2 ds es es.length G Z W e) (hn : (dg ds es.length).n ≤ e.n) (hmc : ∀ k i, (mc k i).length = sz) (hg : Grew W sz e a ys e' W') :
    L2 sz mc ds es m x G Z w W' ∧ At2 ds es es.length G Z W' e' ∧ Room W' sz e' ∧ Fill W' e' ys ∧ e'.n = e.n + a := by
  obtain ⟨g1, g2, g3, g4, g5, g6⟩ := hg
  have hltD : ∀ b, InD ds b → b < w.heap.size ∨ b < W.heap.size := fun b ⟨j, hj, e⟩ => .inr ((h.room j (by omega)).lt b e)
  have hltE : ∀ b, InD es b → b < W.heap.size := fun b ⟨j, hj, e⟩ => (h.roomE j hj).lt b e
  have hG : G < W.heap.size := Nat.lt_of_lt_of_le h.gz h.zs
  have hwz := h.wz
  have hat : At2 ds es es.length G Z W' e' := by
    rcases g6 with ⟨p1, p2⟩ | ⟨b, p1, p2⟩
    · rcases ha.or with ⟨q1, q2⟩ | ⟨b, q1, q2⟩
      · exact ⟨.inl ⟨p1.trans q1, p2.trans q2⟩⟩
      · exact ⟨.inr ⟨b, p1.trans q1, q2⟩⟩
    · refine ⟨.inr ⟨b, p1, fun s => ?_, fun s => ?_, by omega, Nat.le_trans h.zs p2⟩⟩
      · obtain ⟨j, hj, e2⟩ := s; have := (h.room j (by omega)).lt b e2; omega
      · have := hltE b s; omega
  have hb : But (fun b => e.p = some b) W W' := But.ofGrown g4
  have hds : ∀ j, j < m → j ≠ es.length → ∀ b, (dg ds j).p = some b → W'.heap[b]? = W.heap[b]? := fun j hj hne b eb => hb.block b ((h.room j hj).lt b eb) (fun s => by
    rcases ha.or with ⟨q1, _⟩ | ⟨b', q1, q2, _⟩
    · exact hne (hf j es.length b (by omega) (by omega) eb (q1.symm.trans s))
    · have : b' = b := by rw [s] at q1; simpa using q1.symm
      subst this
      exact q2 ⟨j, by omega, eb⟩)
  have hkk : Room W' sz (dg ds es.length) ∧ Fill W' (dg ds es.length) (mrow mc es.length (dg ds es.length).n) := by
    rcases ha.or with ⟨q1, q2⟩ | ⟨b', q1, q2, _⟩
    · exact g5 _ _ q1.symm q2.symm (by rw [mrow_length hmc]; exact Nat.mul_le_mul_right _ hn) (h.room _ hk) (h.fill _ hk)
    · have hbb : ∀ b, (dg ds es.length).p = some b → W'.heap[b]? = W.heap[b]? := fun b eb => hb.block b ((h.room _ hk).lt b eb) (fun s => by
        have : b' = b := by rw [s] at q1; simpa using q1.symm
        subst this
        exact q2 ⟨es.length, by omega, eb⟩)
      exact ⟨(h.room _ hk).at hb.size hbb, (h.fill _ hk).at hbb⟩
  have hes : ∀ j, j < es.length → ∀ b, (dg es j).p = some b → W'.heap[b]? = W.heap[b]? := fun j hj b eb => hb.block b ((h.roomE j hj).lt b eb) (fun s => by
    rcases ha.or with ⟨q1, _⟩ | ⟨b', q1, _, q3, _⟩
    · have hdk : (dg ds es.length).p = some b := q1.symm.trans s
      rcases h.place j hj with e2 | ⟨b2, e2, hz⟩
      · have := hf j es.length b (by omega) (by omega) (e2.symm.trans eb) hdk
        omega
      · have := h.dw b ⟨es.length, by omega, hdk⟩
        rw [eb] at e2
        simp only [Option.some.injEq] at e2
        omega
    · have : b' = b := by rw [s] at q1; simpa using q1.symm
      subst this
      exact q3 ⟨j, hj, eb⟩)
  have hGG : W'.heap[G]? = W.heap[G]? := hb.block G hG (fun s => by
    rcases ha.or with ⟨q1, _⟩ | ⟨b', q1, _, _, q4, _⟩
    · exact h.gn ⟨es.length, by omega, q1.symm.trans s⟩
    · have : b' = G := by rw [s] at q1; simpa using q1.symm
      exact q4 this)
  refine ⟨⟨h.but.then hb (fun i s => ?_), fun j hj => ?_, fun j hj => ?_, fun j hj => (h.roomE j hj).at hb.size (hes j hj), fun j hj => (h.fillE j hj).at (hes j hj), h.nE, h.place, h.gn, h.gz, Nat.le_trans h.zs hb.size, h.wz, fun j hj => ?_, fun j hj => ?_, h.em, h.dw, h.wg⟩, hat, g2, g3, g1⟩
  · rcases ha.or with ⟨q1, _⟩ | ⟨b', q1, _, _, _, q5⟩
    · exact .inl ⟨es.length, by omega, q1.symm.trans s⟩
    · have : b' = i := by rw [s] at q1; simpa using q1.symm
      exact .inr (by omega)
  · by_cases e2 : j = es.length
    · subst e2; exact hkk.1
    · exact (h.room j hj).at hb.size (hds j hj e2)
  · by_cases e2 : j = es.length
    · subst e2; exact hkk.2
    · exact (h.fill j hj).at (hds j hj e2)
  · rw [World.cell?_of_block (w := W) (w' := W') (a := ⟨G, j, none⟩) hGG, World.frozen?_of_block (w := W) (w' := W') (a := ⟨G, j, none⟩) hGG]; exact h.free j hj
  · rw [World.cell?_of_block (w := W) (w' := W') (a := ⟨G, j, none⟩) hGG]; exact h.cell j hj

theorem dg_front {es : List D} {e : D} {j : Nat} (h : j < es.length) : dg (es ++ [e]) j = dg es j := by
  unfold dg; rw [List.getD_eq_getElem?_getD, List.getD_eq_getElem?_getD, List.getElem?_append_left h]
theorem dg_last (es : List D) (e : D) : dg (es ++ [e]) es.length = e := by
  unfold dg; rw [List.getD_eq_getElem?_getD, List.getElem?_append_right (Nat.le_refl _)]; simp

theorem L2.put (h : L2 sz mc ds es m x G Z w W) (hm : m = ds.length) (hk : es.length < m) {e : D} (ha : At2 ds es es.length G Z W e) (hr : Room W sz e) (hf : Fill W e (mrow mc es.length ((dg ds es.length).n + x))) (hn : e.n = (dg ds es.length).n + 64) :
    L2 sz mc ds (es ++ [e]) m x G Z w (W.setCell ⟨G, es.length, none⟩ e.val) := by
  have hb := But.setCell W ⟨G, es.length, none⟩ e.val
  have hG : G < W.heap.size := Nat.lt_of_lt_of_le h.gz h.zs
  have hwz := h.wz
  have hgz := h.gz
  have hwg := h.wg
  have off : ∀ b, b < W.heap.size → b ≠ G → (W.setCell ⟨G, es.length, none⟩ e.val).heap[b]? = W.heap[b]? := fun b hlt hne => hb.block b hlt hne
  have hne : ∀ b, e.p = some b → b ≠ G := fun b eb => by
    rcases ha.or with ⟨q1, _⟩ | ⟨b', q1, _, _, q4, _⟩
    · intro s; subst s; exact h.gn ⟨es.length, by omega, q1.symm.trans eb⟩
    · have : b' = b := by rw [eb] at q1; simpa using q1.symm
      subst this; exact q4
  have hdG : ∀ j, j < m → ∀ b, (dg ds j).p = some b → b ≠ G := fun j hj b eb s => h.gn (by subst s; exact ⟨j, by omega, eb⟩)
  have heG : ∀ j, j < es.length → ∀ b, (dg es j).p = some b → b ≠ G := fun j hj b eb s => by
    subst s
    rcases h.place j hj with e2 | ⟨b2, e2, hz⟩
    · exact h.gn ⟨j, by omega, e2.symm.trans eb⟩
    · rw [eb] at e2; simp only [Option.some.injEq] at e2; omega
  have hlen : (es ++ [e]).length = es.length + 1 := by simp
  have room' : ∀ {d : D}, Room W sz d → (∀ b, d.p = some b → b ≠ G) → Room (W.setCell ⟨G, es.length, none⟩ e.val) sz d := fun hr hn => hr.at hb.size (fun b eb => off b (hr.lt b eb) (hn b eb))
  have fill' : ∀ {d : D} {ys : List Value}, Room W sz d → Fill W d ys → (∀ b, d.p = some b → b ≠ G) → Fill (W.setCell ⟨G, es.length, none⟩ e.val) d ys := fun hr hf hn => hf.at (fun b eb => off b (hr.lt b eb) (hn b eb))
  refine ⟨h.but.then hb (fun i s => .inr (by simp only at s; omega)), fun j hj => room' (h.room j hj) (hdG j hj), fun j hj => fill' (h.room j hj) (h.fill j hj) (hdG j hj), fun j hj => ?_, fun j hj => ?_, fun j hj => ?_, fun j hj => ?_, h.gn, h.gz, Nat.le_trans h.zs hb.size, h.wz, fun j hj => ?_, fun j hj => ?_, by omega, h.dw, h.wg⟩
  · rcases Nat.lt_or_ge j es.length with hl | hl
    · rw [dg_front hl]; exact room' (h.roomE j hl) (heG j hl)
    · obtain rfl : j = es.length := by omega
      rw [dg_last]; exact room' hr hne
  · rcases Nat.lt_or_ge j es.length with hl | hl
    · rw [dg_front hl]; exact fill' (h.roomE j hl) (h.fillE j hl) (heG j hl)
    · obtain rfl : j = es.length := by omega
      rw [dg_last]; exact fill' hr hf hne
  · rcases Nat.lt_or_ge j es.length with hl | hl
    · rw [dg_front hl]; exact h.nE j hl
    · obtain rfl : j = es.length := by omega
      rw [dg_last]; exact hn
  · rcases Nat.lt_or_ge j es.length with hl | hl
    · rw [dg_front hl]; exact h.place j hl
    · obtain rfl : j = es.length := by omega
      rw [dg_last]
      rcases ha.or with ⟨q1, _⟩ | ⟨b', q1, _, _, _, q5⟩
      · exact .inl q1
      · exact .inr ⟨b', q1, q5⟩
  · obtain ⟨f1, f2⟩ := h.free j hj
    refine ⟨?_, ?_⟩
    · by_cases e2 : j = es.length
      · subst e2; rw [World.cell?_setCell_same' _ _ _ f1]; rfl
      · rw [World.cell?_setCell_other (w := W) (a := ⟨G, es.length, none⟩) (b := ⟨G, j, none⟩) (v := e.val) (h := by intro s; simp only [Addr.mk.injEq, true_and, and_true] at s; omega)]; exact f1
    · rw [World.frozen?_setCell]; exact f2
  · rcases Nat.lt_or_ge j es.length with hl | hl
    · rw [dg_front hl, World.cell?_setCell_other (w := W) (a := ⟨G, es.length, none⟩) (b := ⟨G, j, none⟩) (v := e.val) (h := by intro s; simp only [Addr.mk.injEq, true_and, and_true] at s; omega)]; exact h.cell j hl
    · obtain rfl : j = es.length := by omega
      rw [dg_last, World.cell?_setCell_same' _ _ _ (h.free _ hk).1]

theorem L2.start {T : TypeId} {xs : List Value} (h : L1 sz mc ds m w m W) (hg : W.grownBy W' none) (ho : W'.ownsRow W.heap.size T 1 (.slice (some ⟨W.heap.size, 0, none⟩) m m) m xs) (hm : m = ds.length) (hdw : ∀ b, InD ds b → b < w.heap.size) : L2 sz mc ds [] m x W.heap.size W'.heap.size w W' := by
  have hb : Below W.heap.size W W' := ⟨hg.os, hg.tape, hg.output, hg.size, fun k hk => hg.block k hk (by simp)⟩
  have h' := h.below hb
  have hw := h.but.size
  have hlt := (ho.lt W.heap.size rfl).2
  refine ⟨h'.but, h'.room, fun j hj => h'.fill j hj hj, fun j hj => by simp at hj, fun j hj => by simp at hj, fun j hj => by simp at hj, fun j hj => by simp at hj, fun s => by have := hdw _ s; omega, hlt, Nat.le_refl _, by omega, fun j hj => ⟨?_, ho.frozenAt j⟩, fun j hj => by simp at hj, Nat.zero_le _, hdw, hw⟩
  have hl := ho.1
  rw [ho.cellAt j (by omega), List.getElem?_eq_getElem (by omega)]; rfl
theorem L2.at0 (_ : L2 sz mc ds es m x G Z w W) (_ : es.length < m) : At2 ds es es.length G Z W (dg ds es.length) := ⟨.inl ⟨rfl, rfl⟩⟩
theorem At2.world {k : Nat} {e : D} (h : At2 ds es k G Z W e) : At2 ds es k G Z W' e := ⟨h.or⟩
theorem L2.anew {y : Nat} (h : L2 sz mc ds es m x G Z w W) : L2 sz mc ds [] m y G Z w W :=
  ⟨h.but, h.room, h.fill, fun j hj => by simp at hj, fun j hj => by simp at hj, fun j hj => by simp at hj, fun j hj => by simp at hj, h.gn, h.gz, h.zs, h.wz, h.free, fun j hj => by simp at hj, Nat.zero_le _, h.dw, h.wg⟩
theorem room_of_full {w : World} {B b n sz : Nat} {T : TypeId} {xs : List Value} (h : w.ownsRow B T sz (.slice (some ⟨b, 0, none⟩) n n) n xs) : Room w sz ⟨some b, n, n⟩ := by
  obtain ⟨⟨p, n', c'⟩, hv, _, hr, _, _⟩ := room_of_own h
  have e1 : (some ⟨b, 0, none⟩ : Option Addr) = D.ad ⟨p, n', c'⟩ ∧ n = n' ∧ n = c' := by
    simpa [D.val] using hv
  obtain ⟨e1, rfl, rfl⟩ := e1
  cases p with
  | none => simp [D.ad] at e1
  | some b' =>
    simp only [D.ad, Option.map_some, Option.some.injEq, Addr.mk.injEq, and_true] at e1
    subst e1
    exact hr
theorem two_new (w : World) (u v : Value) (T : TypeId) : ∀ j x, [u, v][j]? = some x → (w.alloc (.cells #[u, v] T)).cell? ((⟨w.heap.size, 0, none⟩ : Addr).add j) = some x := by
  intro j x hx
  match j, hx with
  | 0, hx => show (w.alloc (.cells #[u, v] T)).cell? ⟨w.heap.size, 0, none⟩ = _; rw [World.cell?_alloc_at _ _ _ _ rfl]; exact hx
  | 1, hx => show (w.alloc (.cells #[u, v] T)).cell? ⟨w.heap.size, 1, none⟩ = _; rw [World.cell?_alloc_at _ _ _ _ rfl]; exact hx
  | n + 2, hx => simp at hx
theorem one_new (w : World) (u : Value) (T : TypeId) : ∀ j x, [u][j]? = some x → (w.alloc (.cells #[u] T)).cell? ((⟨w.heap.size, 0, none⟩ : Addr).add j) = some x := by
  intro j x hx
  match j, hx with
  | 0, hx => show (w.alloc (.cells #[u] T)).cell? ⟨w.heap.size, 0, none⟩ = _; rw [World.cell?_alloc_at _ _ _ _ rfl]; exact hx
  | n + 1, hx => simp at hx

theorem L2.grewAt (h : L2 sz mc ds es m x G Z w W) (hm : m = ds.length) (hf : Far ds) {j : Nat} (hj : es.length = j) (hk : j < m) {e e' : D} {a n : Nat} {ys : List Value} (ha : At2 ds es j G Z W e) (hd : (dg ds j).n = n) (hn : n ≤ e.n) (hmc : ∀ k i, (mc k i).length = sz) (hg : Grew W sz e a ys e' W') :
    L2 sz mc ds es m x G Z w W' ∧ At2 ds es j G Z W' e' ∧ Room W' sz e' ∧ Fill W' e' ys ∧ e'.n = e.n + a := by
  subst hj; subst hd; exact h.grew hm hf hk ha hn hmc hg
theorem L2.putAt (h : L2 sz mc ds es m x G Z w W) (hm : m = ds.length) {j : Nat} (hj : es.length = j) (hk : j < m) {e : D} {n : Nat} (ha : At2 ds es j G Z W e) (hd : (dg ds j).n = n) (hr : Room W sz e) (hf : Fill W e (mrow mc j (n + x))) (hn : e.n = n + 64) :
    L2 sz mc ds (es ++ [e]) m x G Z w (W.setCell ⟨G, j, none⟩ e.val) ∧ (es ++ [e]).length = j + 1 := by
  subst hj; subst hd; exact ⟨h.put hm hk ha hr hf hn, by simp⟩
end
end Go.Proofs.YtglgfpapackcdaaGreat
