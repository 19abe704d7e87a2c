/- Rows handed out that lie apart: where each lies, its room, what it holds; what stays when one of them is written, or grown. -/
import Derived.Test.YtglgfpapackcdaaGreatProg
import Derived.Below
import Derived.ArgAppend
import Derived.Lib.Hide
import Derived.Maps.Range
import Derived.Deep.Upon
import Derived.Deep.MidRow
import Derived.Deep.AppendLies

namespace Go.Proofs.YtglgfpapackcdaaGreat
open Go.RowKit

structure D where
  p : Option Nat
  n : Nat
  c : Nat
def D.ad (d : D) : Option Addr := d.p.map fun b => ⟨b, 0, none⟩
def D.val (d : D) : Value := .slice d.ad d.n d.c
structure Room (w : World) (sz : Nat) (d : D) : Prop where
  le : d.n ≤ d.c
  max : d.c ≤ maxLen
  nil : d.p = none → d.c = 0
  lt : ∀ b, d.p = some b → b < w.heap.size
  cell : ∀ b, d.p = some b → ∀ j, j < d.c * sz → (w.cell? ⟨b, j, none⟩).isSome = true ∧ w.frozen? ⟨b, j, none⟩ = false
def Fill (w : World) (d : D) (xs : List Value) : Prop :=
  ∀ b, d.p = some b → ∀ j u, xs[j]? = some u → w.cell? ⟨b, j, none⟩ = some u

theorem Room.at {w w' : World} {sz : Nat} {d : D} (h : Room w sz d) (hs : w.heap.size ≤ w'.heap.size) (hb : ∀ b, d.p = some b → w'.heap[b]? = w.heap[b]?) : Room w' sz d := by
  refine ⟨h.le, h.max, h.nil, fun b e => Nat.lt_of_lt_of_le (h.lt b e) hs, fun b e j hj => ?_⟩
  rw [World.cell?_of_block (w := w) (w' := w') (a := ⟨b, j, none⟩) (hb b e), World.frozen?_of_block (w := w) (w' := w') (a := ⟨b, j, none⟩) (hb b e)]
  exact h.cell b e j hj
theorem Fill.at {w w' : World} {d : D} {xs : List Value} (h : Fill w d xs) (hb : ∀ b, d.p = some b → w'.heap[b]? = w.heap[b]?) : Fill w' d xs := fun b e j u hu => by
  rw [World.cell?_of_block (w := w) (w' := w') (a := ⟨b, j, none⟩) (hb b e)]
  exact h b e j u hu

structure But (S : Nat → Prop) (w w' : World) : Prop where
  os : w'.os = w.os
  tape : w'.tape = w.tape
  output : w'.output = w.output
  size : w.heap.size ≤ w'.heap.size
  block : ∀ k, k < w.heap.size → ¬ S k → w'.heap[k]? = w.heap[k]?
theorem But.refl (S : Nat → Prop) (w : World) : But S w w := ⟨rfl, rfl, rfl, Nat.le_refl _, fun _ _ _ => rfl⟩
theorem But.trans {S : Nat → Prop} {a b c : World} (h : But S a b) (k : But S b c) : But S a c :=
  ⟨k.os.trans h.os, k.tape.trans h.tape, k.output.trans h.output, Nat.le_trans h.size k.size, fun i hi hn => (k.block i (Nat.lt_of_lt_of_le hi h.size) hn).trans (h.block i hi hn)⟩
theorem But.then {S T : Nat → Prop} {a b c : World} (h : But S a b) (k : But T b c) (hT : ∀ i, T i → S i ∨ a.heap.size ≤ i) : But S a c :=
  ⟨k.os.trans h.os, k.tape.trans h.tape, k.output.trans h.output, Nat.le_trans h.size k.size, fun i hi hn => (k.block i (Nat.lt_of_lt_of_le hi h.size) (fun ht => (hT i ht).elim hn (fun h' => absurd hi (by omega)))).trans (h.block i hi hn)⟩
theorem But.mono {S T : Nat → Prop} {a b : World} (h : But S a b) (hS : ∀ i, S i → T i) : But T a b := ⟨h.os, h.tape, h.output, h.size, fun i hi hn => h.block i hi (fun s => hn (hS i s))⟩
theorem But.ofGrown {w w' : World} {r : Option Nat} (h : w.grownBy w' r) : But (fun k => r = some k) w w' := ⟨h.os, h.tape, h.output, h.size, fun k hk hn => h.block k hk (fun e => hn e.symm)⟩
theorem But.ofBelow {w w' : World} (h : Below w.heap.size w w') (S : Nat → Prop) : But S w w' := ⟨h.os, h.tape, h.output, h.size, fun k hk _ => h.block k hk⟩
theorem But.setCell (w : World) (a : Addr) (v : Value) : But (fun k => k = a.block) w (w.setCell a v) := ⟨rfl, rfl, rfl, by simp [World.setCell], fun k _ hn => Below.heap_setCell _ _ _ _ hn⟩
theorem But.below {S : Nat → Prop} {w w' : World} {B : Nat} (h : But S w w') (hB : B ≤ w.heap.size) (hS : ∀ k, S k → B ≤ k) : Below B w w' := ⟨h.os, h.tape, h.output, h.size, fun k hk => h.block k (by omega) (fun s => by have := hS k s; omega)⟩
theorem below0_setCells (b : Nat) : ∀ (vs : List Value) (o : Nat) (w : World), Below 0 w (w.setCells b o vs)
  | [], _, _ => Below.refl _ _
  | v :: vs, o, w => ((Below.refl 0 w).setCell (p := ⟨b, o, none⟩) (Nat.zero_le _) v).trans (below0_setCells b vs (o + 1) _)
theorem grown_setCells (w : World) (b o : Nat) (vs : List Value) : w.grownBy (w.setCells b o vs) (some b) := by
  have h0 := below0_setCells b vs o w
  exact ⟨h0.os, h0.tape, h0.output, h0.size, fun k hk hn => World.heap_setCells_other w b o vs hk (fun e => hn (by rw [e]))⟩
theorem room_of_own {w : World} {B sz n : Nat} {e : TypeId} {v : Value} {xs : List Value} (h : w.ownsRow B e sz v n xs) : ∃ d : D, v = d.val ∧ d.n = n ∧ Room w sz d ∧ Fill w d xs ∧ ∀ b, d.p = some b → B ≤ b := by
  have h' := h
  rcases h.2 with ⟨rfl, rfl⟩ | ⟨g, cap, cur, rfl, hb, hg, hnc, hcm, hcs, htake⟩
  · exact ⟨⟨none, 0, 0⟩, rfl, rfl, ⟨Nat.le_refl _, Nat.zero_le _, fun _ => rfl, fun b e => by simp at e, fun b e => by simp at e⟩, fun b e => by simp at e, fun b e => by simp at e⟩
  · refine ⟨⟨some g, n, cap⟩, rfl, rfl, ⟨hnc, hcm, fun e => by simp at e, fun b e => ?_, fun b e j hj => ?_⟩, fun b e j u hu => ?_, fun b e => ?_⟩
    all_goals simp only [Option.some.injEq] at e; subst e
    · exact (Array.getElem?_eq_some_iff.1 hg).1
    · refine ⟨?_, h'.frozenAt j⟩
      have hj' : j < cur.size := by rw [hcs]; exact hj
      simp [World.cell?, hg, hj']
    · have hj : j < n * sz := by rw [← h'.1]; exact (List.getElem?_eq_some_iff.1 hu).1
      rw [h'.cellAt j hj]; exact hu
    · exact hb

def Stay (w w' : World) (sz : Nat) (e0 : D) : Prop :=
  ∀ (d : D) (ys : List Value), d.p = e0.p → d.c = e0.c → ys.length ≤ e0.n * sz → Room w sz d → Fill w d ys → Room w' sz d ∧ Fill w' d ys

theorem run_grow {P : Program} {w : World} {sz : Nat} (t ty e : TypeId) (i : TypeInfo) (z : Value) (bytes : Nat) (ht : P.underlying t = some (.slice e)) (hi : P.info? e = some i) (hz : i.zero = some z) (hsize : i.size = sz) (hby : i.bytes = bytes) (hzs : z.cells.size = sz) (hsz : 0 < sz)
    (e0 : D) (he : Room w sz e0) (xs : List Value) (hxl : xs.length = e0.n * sz) (hx : Fill w e0 xs)
    (ad : Addr) (m c : Nat) (news : List Value) (hl : news.length = m * sz) (hnews : ∀ j u, news[j]? = some u → w.cell? (ad.add j) = some u) (h1 : ∀ u ∈ news, u.oneCell' = true) (hm : 0 < m)
    (h63 : e0.n + m ≤ maxLen) (hbytes : (e0.n + m) * bytes ≤ 140737488355328) :
    ∃ (d' : D) (w' : World), (Builtin.append_ #[t, t] ty #[e0.val, .slice (some ad) m c]).run P w = .ok d'.val w' ∧ d'.n = e0.n + m ∧ Room w' sz d' ∧ Fill w' d' (xs ++ news) ∧ w.grownBy w' e0.p ∧ Stay w w' sz e0 ∧ ((d'.p = e0.p ∧ d'.c = e0.c) ∨ ∃ b, d'.p = some b ∧ w.heap.size ≤ b) := by
  obtain ⟨p, n, cap⟩ := e0
  have grow : ∀ v' w', w'.ownsRow w.heap.size e sz v' (n + m) (xs ++ news) → w.grownBy w' none → ∃ d' : D, v' = d'.val ∧ d'.n = n + m ∧ Room w' sz d' ∧ Fill w' d' (xs ++ news) ∧ w.grownBy w' p ∧ Stay w w' sz ⟨p, n, cap⟩ ∧ ((d'.p = p ∧ d'.c = cap) ∨ ∃ b, d'.p = some b ∧ w.heap.size ≤ b) := by
    intro v' w' ho hg
    obtain ⟨d', r1, r2, r3, r4, r5⟩ := room_of_own ho
    refine ⟨d', r1, r2, r3, r4, ⟨hg.os, hg.tape, hg.output, hg.size, fun i hi _ => hg.block i hi (by simp)⟩, fun d ys hp hc hys hr hf => ?_, .inr ?_⟩
    · have hb : ∀ b, d.p = some b → w'.heap[b]? = w.heap[b]? := fun b eb => hg.block b (hr.lt b eb) (by simp)
      exact ⟨hr.at hg.size hb, hf.at hb⟩
    · cases hdp : d'.p with
      | none => have := r3.nil hdp; have := r3.le; omega
      | some b => exact ⟨b, rfl, r5 b hdp⟩
  cases p with
  | none =>
    have h0 : cap = 0 := he.nil rfl
    have hn0 : n = 0 := by have := he.le; simp only at this; omega
    subst h0; subst hn0
    obtain rfl : xs = [] := List.eq_nil_of_length_eq_zero (by simpa using hxl)
    obtain ⟨v', w', hrun, r1, r2, _⟩ := run_append_own (P := P) w w.heap.size t ty e i z sz bytes ht hi hz hsize hby hzs hsz (.slice none 0 0) 0 [] (World.ownsRow_nil w _ e sz) ad m c news hl hnews h1 (by simpa using h63) (by simpa using hbytes) (Nat.le_refl _)
    obtain ⟨d', q1, q2⟩ := grow v' w' r1 r2
    subst q1
    exact ⟨d', w', hrun, q2⟩
  | some b =>
    by_cases hr : n + m ≤ cap
    · have hle : n * sz + m * sz ≤ cap * sz := by rw [← Nat.add_mul]; exact Nat.mul_le_mul_right _ hr
      have hsome : ∀ j, j < news.length → (w.cell? ⟨b, 0 + n * sz + j, none⟩).isSome = true ∧ w.frozen? ⟨b, 0 + n * sz + j, none⟩ = false := fun j hj => he.cell b rfl _ (by simp only; omega)
      subst hsize
      have hrun := run_append_room_cells (P := P) w t ty e i ht hi b 0 n cap ad m c news hl hnews h1 hr (fun j hj => (hsome j hj).1) (fun j hj => (hsome j hj).2)
      have hgr := grown_setCells w b (0 + n * i.size) news
      have hroom : ∀ d : D, d.p = some b → d.c = cap → d.n ≤ d.c → Room (w.setCells b (0 + n * i.size) news) i.size d := by
        intro d hp hc hn
        refine ⟨hn, by rw [hc]; exact he.max, (by rw [hp]; simp), fun b' e' => Nat.lt_of_lt_of_le (he.lt b' (by rw [← e', hp])) hgr.size, fun b' e' j hj => ?_⟩
        rw [hc] at hj
        have hb' : b = b' := by rw [hp] at e'; simpa using e'
        subst hb'
        obtain ⟨k1, k2⟩ := he.cell b rfl j hj
        exact ⟨World.isSome_setCells b news _ w _ k1, (World.frozen?_setCells b _ _ _ _).trans k2⟩
      refine ⟨⟨some b, n + m, cap⟩, _, hrun, rfl, hroom _ rfl rfl hr, fun b' e' j u hu => ?_, hgr, fun d ys hp hc hys hrd hf => ⟨hroom d hp hc hrd.le, fun b' e' j u hu => ?_⟩, .inl ⟨rfl, rfl⟩⟩
      · have hb' : b = b' := by simpa using e'
        subst hb'
        simp only at hxl
        by_cases hj : j < xs.length
        · rw [List.getElem?_append_left hj] at hu
          rw [World.cell?_setCells_out b _ _ _ _ (fun _ _ => Or.inl (by show j < 0 + n * i.size; omega))]
          exact hx b rfl j u hu
        · rw [List.getElem?_append_right (by omega)] at hu
          have hlt : j - xs.length < news.length := (List.getElem?_eq_some_iff.1 hu).1
          have hin := World.cell?_setCells_in b news (0 + n * i.size) w (fun j hj => (hsome j hj).1) (j - xs.length) hlt
          rw [show 0 + n * i.size + (j - xs.length) = j by omega] at hin
          rw [hin, ← List.getElem?_eq_getElem hlt]; exact hu
      · have hb' : b = b' := by rw [hp] at e'; simpa using e'
        subst hb'
        have hj : j < ys.length := (List.getElem?_eq_some_iff.1 hu).1
        simp only at hys
        rw [World.cell?_setCells_out b _ _ _ _ (fun _ _ => Or.inl (by show j < 0 + n * i.size; omega))]
        exact hf b e' j u hu
    · obtain ⟨v', w', hrun, r1, r2⟩ := run_append_arg_grows (P := P) w t ty e i z sz bytes ht hi hz hsize hby hzs hsz ⟨b, 0, none⟩ n cap xs hxl (fun j u hu => by rw [Addr.add_lit, Nat.zero_add]; exact hx b rfl j u hu) ad m c news hl hnews (by omega) h63 hbytes
      obtain ⟨d', q1, q2⟩ := grow v' w' r1 r2
      subst q1
      exact ⟨d', w', hrun, q2⟩

def dg (ds : List D) (k : Nat) : D := ds.getD k ⟨none, 0, 0⟩
def Far (ds : List D) : Prop := ∀ i j b, i < ds.length → j < ds.length → (dg ds i).p = some b → (dg ds j).p = some b → i = j
def InD (ds : List D) (b : Nat) : Prop := ∃ k, k < ds.length ∧ (dg ds k).p = some b
def SlD (w : World) (q : Option Addr) (ds : List D) : Prop :=
  ds = [] ∨ ∃ b off, q = some ⟨b, off, none⟩ ∧ ¬ InD ds b ∧ b < w.heap.size ∧ ∀ k, k < ds.length → w.cell? ⟨b, off + k, none⟩ = some (dg ds k).val
theorem slD_but {w w' : World} {q : Option Addr} {ds : List D} (h : SlD w q ds) (hb : But (InD ds) w w') : SlD w' q ds := by
  rcases h with h | ⟨b, off, h1, h2, h3, h4⟩
  · exact .inl h
  · refine .inr ⟨b, off, h1, h2, Nat.lt_of_lt_of_le h3 hb.size, fun k hk => ?_⟩
    rw [World.cell?_of_block (w := w) (w' := w') (a := ⟨b, off + k, none⟩) (hb.block b h3 h2)]
    exact h4 k hk
end Go.Proofs.YtglgfpapackcdaaGreat
