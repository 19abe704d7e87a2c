/- The walk of ApartRangeRows. -/
import Derived.Test.YtildfjlaieaadaaGreatUg
import Derived.Test.YtildfjlaieaadaaGreatFd
import Derived.OwnWalk

namespace Go.Proofs.YtildfjlaieaadaaGreat
open Go.RowKit Tnr

/-- rows at work as rows handed out. -/
theorem rows_ds {w : World} {B : Nat} {v : Value} {vs : List Value} {L : List (List R)} (h : RowsIn w B v vs L) (hs : ∀ k, k < L.length → (gl L k).length ≤ 4000) :
    ∃ ds : List D, ds.map D.val = vs ∧ ds.length = L.length ∧ (∀ k, k < L.length → Room w 2 (dg ds k) ∧ (dg ds k).n ≤ 4000 ∧ (∀ b, (dg ds k).p = some b → (gv vs k).ownBlock = some b) ∧ ∀ b, (dg ds k).p = some b → B ≤ b ∧ ∃ c fz, w.heap[b]? = some (.cells c 28 fz)) ∧ Far ds := by
  have hall : ∀ i : Fin L.length, ∃ d : D, gv vs i = d.val ∧ d.n = (gl L i).length ∧ Room w 2 d ∧ (∀ b, d.p = some b → (gv vs i).ownBlock = some b) ∧ ∀ b, d.p = some b → B ≤ b ∧ ∃ c fz, w.heap[b]? = some (.cells c 28 fz) := by
    intro i
    have ho := h.own i i.2
    obtain ⟨d, h1, h2, h3, _, h5⟩ := room_of_own ho
    refine ⟨d, h1, h2, h3, fun b e => ?_, fun b e => ⟨h5 b e, ?_⟩⟩
    · rw [h1]; simp [D.val, D.ad, e, Value.ownBlock]
    · rcases ho.2 with ⟨e1, _⟩ | ⟨g, cap, cur, e1, _, hh, _⟩
      · rw [h1] at e1; simp [D.val, D.ad, e] at e1
      · rw [h1] at e1
        simp only [D.val, D.ad, e, Option.map_some, Value.slice.injEq, Option.some.injEq, Addr.mk.injEq, and_true] at e1
        rw [e1.1]; exact ⟨_, _, hh⟩
  obtain ⟨F, hF⟩ := Classical.axiomOfChoice hall
  have hlen := h.len
  refine ⟨List.ofFn F, ?_, by simp, ?_, ?_⟩
  · apply List.ext_getElem
    · simp [hlen]
    · intro i h1 h2
      simp only [List.length_map, List.length_ofFn] at h1
      rw [List.getElem_map, List.getElem_ofFn, ← (hF ⟨i, h1⟩).1, gv_get h2]
  · intro k hk
    have e : dg (List.ofFn F) k = F ⟨k, hk⟩ := by
      unfold dg
      rw [List.getD_eq_getElem?_getD, List.getElem?_eq_getElem (by simpa using hk), List.getElem_ofFn]; rfl
    rw [e]
    exact ⟨(hF ⟨k, hk⟩).2.2.1, by rw [(hF ⟨k, hk⟩).2.1]; exact hs k hk, (hF ⟨k, hk⟩).2.2.2.1, (hF ⟨k, hk⟩).2.2.2.2⟩
  · intro i j b hi hj ei ej
    simp only [List.length_ofFn] at hi hj
    have e : ∀ k (hk : k < L.length), dg (List.ofFn F) k = F ⟨k, hk⟩ := by
      intro k hk
      unfold dg
      rw [List.getD_eq_getElem?_getD, List.getElem?_eq_getElem (by simpa using hk), List.getElem_ofFn]; rfl
    rw [e i hi] at ei
    rw [e j hj] at ej
    have h1 := (hF ⟨i, hi⟩).2.2.2.1 b ei
    have h2 := (hF ⟨j, hj⟩).2.2.2.1 b ej
    exact Classical.byContradiction fun hne => h.apart i j hi hj hne b h1 h2
theorem dg_append {ds es : List D} {k : Nat} : dg (ds ++ es) k = if k < ds.length then dg ds k else dg es (k - ds.length) := by
  unfold dg
  rw [List.getD_eq_getElem?_getD, List.getD_eq_getElem?_getD, List.getD_eq_getElem?_getD]
  split
  · rw [List.getElem?_append_left (by assumption)]
  · rw [List.getElem?_append_right (by omega)]
/-- two of them, one behind the other. -/
theorem two_ds {w : World} {Ba Bc : Nat} {v u : Value} {va vc : List Value} {A C : List (List R)} (h : RowsIn w Ba v va A) (k : RowsIn w Bc u vc C) (hs : ∀ k, k < A.length → (gl A k).length ≤ 4000) (hs2 : ∀ k, k < C.length → (gl C k).length ≤ 4000) (hB : Ba ≤ Bc)
    (hap : ∀ i, i < A.length → ∀ b, (gv va i).ownBlock = some b → b < Bc) :
    ∃ ds : List D, ds.map D.val = va ++ vc ∧ ds.length = A.length + C.length ∧ (∀ k, k < ds.length → Room w 2 (dg ds k) ∧ (dg ds k).n ≤ 100000) ∧ Far ds ∧ ∀ b, InD ds b → Ba ≤ b ∧ b < w.heap.size ∧ ∃ c fz, w.heap[b]? = some (.cells c 28 fz) := by
  obtain ⟨ds, d1, d2, d3, d4⟩ := rows_ds h hs
  obtain ⟨es, e1, e2, e3, e4⟩ := rows_ds k hs2
  refine ⟨ds ++ es, by rw [List.map_append, d1, e1], by rw [List.length_append, d2, e2], ?_, ?_, ?_⟩
  · intro i hi
    rw [List.length_append] at hi
    rw [dg_append]
    split
    · have := d3 i (by omega); exact ⟨this.1, by omega⟩
    · have := e3 (i - ds.length) (by omega); exact ⟨this.1, by omega⟩
  · intro i j b hi hj hi2 hj2
    rw [List.length_append] at hi hj
    rw [dg_append] at hi2 hj2
    split at hi2 <;> split at hj2
    · exact d4 i j b (by omega) (by omega) hi2 hj2
    · have a1 := hap i (by omega) b ((d3 i (by omega)).2.2.1 b hi2)
      have a2 := ((e3 (j - ds.length) (by omega)).2.2.2 b hj2).1
      omega
    · have a1 := hap j (by omega) b ((d3 j (by omega)).2.2.1 b hj2)
      have a2 := ((e3 (i - ds.length) (by omega)).2.2.2 b hi2).1
      omega
    · have := e4 (i - ds.length) (j - ds.length) b (by omega) (by omega) hi2 hj2
      omega
  · rintro b ⟨i, hi, e⟩
    rw [List.length_append] at hi
    rw [dg_append] at e
    split at e
    · have a := d3 i (by omega)
      exact ⟨(a.2.2.2 b e).1, a.1.lt b e, (a.2.2.2 b e).2⟩
    · have a := e3 (i - ds.length) (by omega)
      exact ⟨Nat.le_trans hB (a.2.2.2 b e).1, a.1.lt b e, (a.2.2.2 b e).2⟩
/-- 'make([]T, n)' at a step of a region that draws its order. -/
theorem step_make_full {P : Program} (w : World) {ops : Array Oper} {o : Oper} {a : Act} {K : Act → World → Prop} {Q : Exit → Act → World → Prop} {E : Prop} (hgd : o.guard = none)
    (l c : Operand) (t : TypeId) (hop : o.op = Op.makeSlice t l c)
    (base : Nat) (e : TypeId) (i : TypeInfo) (z : Value) (size : Nat) (h1 : P.underlying t = some (.slice e)) (h2 : P.info? e = some i) (h3 : i.zero = some z) (h4 : i.size = size)
    (kl kc : IntKind) (L C : Int) (n : Nat) (hl : a.eval l = .int kl L) (hc : a.eval c = .int kc C) (hL : L = (n : Int)) (hC : C = (n : Int)) (b2 : i.bytes * n ≤ 281474976710656) (b3 : n ≤ maxLen) (b4 : base ≤ w.heap.size)
    (hK : ∀ w', w'.ownsRow base e size (.slice (some ⟨w.heap.size, 0, none⟩) n n) n (madeCells z.cells (n * size)).toList → w.grownBy w' none → K (a.put o.dst (.slice (some ⟨w.heap.size, 0, none⟩) n n)) w') :
    if Region.wanted o (yielded ops a.tmps) = true then Oper.wp P o a w K Q else E := by
  have hw : Region.wanted o (yielded ops a.tmps) = true := by simp [Region.wanted, hgd]
  rw [if_pos hw]
  obtain ⟨w', hrun, r1, r2⟩ := run_make_full (P := P) w base t e i z size h1 h2 h3 h4 kl kc n b2 b3 b4
  subst hL
  subst hC
  unfold Oper.wp
  simp [execOp, hop, hl, hc, hrun, Result.andThen]
  exact hK w' r1 r2

theorem tmod_nat (k i : Nat) : Int.tmod ((k : Int) * 31 + (i : Int)) 97 = (((k * 31 + i) % 97 : Nat) : Int) := by
  rw [show ((k : Int) * 31 + (i : Int)) = ((k * 31 + i : Nat) : Int) by omega]
  exact (Int.ofNat_tmod _ 97).symm
theorem len_wrap (k i z : Nat) (hk : k < 2) (hi : i < 60) (htm : Int.tmod ((k : Int) * 31 + (i : Int)) 97 = (z : Int)) (hz : z < 97) : IntKind.i64.wrap (1 + (IntKind.i64.wrap (IntKind.i64.wrap ((k : Int) * 31) + (i : Int))).tmod 97) = ((1 + z : Nat) : Int) := by
  have e1 : IntKind.i64.wrap ((k : Int) * 31) = (k : Int) * 31 := by rw [IntKind.wrap_i64]; omega
  have e2 : IntKind.i64.wrap ((k : Int) * 31 + (i : Int)) = (k : Int) * 31 + (i : Int) := by rw [IntKind.wrap_i64]; omega
  rw [e1, e2, htm, IntKind.wrap_i64]
  omega
def rk (va vc : List Value) (k : Nat) : List Value := if k = 0 then va else vc
def gk (ga gc k : Nat) : Nat := if k = 0 then ga else gc
def catN (n k : Nat) : Nat := if k = 0 then 0 else if k = 1 then n else n + n
def catL (va vc : List Value) (k : Nat) : List Value := if k = 0 then [] else if k = 1 then va else va ++ vc

/-- both rows, and the list of the two. -/
structure ST (W wr : World) (Ba b0 n ga ca gc cc : Nat) (va vc : List Value) : Prop where
  a : wr.ownsRow Ba 29 1 (.slice (some ⟨ga, 0, none⟩) n ca) n va
  c : wr.ownsRow Ba 29 1 (.slice (some ⟨gc, 0, none⟩) n cc) n vc
  c0 : wr.cell? ⟨b0, 0, none⟩ = some (.slice (some ⟨ga, 0, none⟩) n ca)
  c1 : wr.cell? ⟨b0, 1, none⟩ = some (.slice (some ⟨gc, 0, none⟩) n cc)
  low : Below Ba W wr
  ne : ga ≠ gc ∧ ga ≠ b0 ∧ gc ≠ b0
theorem row_len {w : World} {B n : Nat} {T : TypeId} {v : Value} {xs : List Value} (h : w.ownsRow B T 1 v n xs) : xs.length = n := by have := h.1; simpa using this
theorem ST.get {W wr : World} {Ba b0 n ga ca gc cc k : Nat} {va vc : List Value} (h : ST W wr Ba b0 n ga ca gc cc va vc) (hk : k < 2) :
    ∃ ck, wr.cell? ⟨b0, k, none⟩ = some (.slice (some ⟨gk ga gc k, 0, none⟩) n ck) ∧ wr.ownsRow Ba 29 1 (.slice (some ⟨gk ga gc k, 0, none⟩) n ck) n (rk va vc k) := by
  match k, hk with
  | 0, _ => exact ⟨ca, h.c0, h.a⟩
  | 1, _ => exact ⟨cc, h.c1, h.c⟩
theorem ST.put {W wr w6 : World} {Ba b0 n ga ca gc cc k i : Nat} {va vc : List Value} {v : Value} (h : ST W wr Ba b0 n ga ca gc cc va vc) (hk : k < 2) (hB : Ba ≤ wr.heap.size) (hb : Below wr.heap.size wr w6) (_hl : b0 < wr.heap.size) :
    ∃ va' vc', ST W (w6.setCell ⟨gk ga gc k, i, none⟩ v) Ba b0 n ga ca gc cc va' vc' ∧ rk va' vc' k = (rk va vc k).set i v ∧ ∀ j, j < 2 → j ≠ k → rk va' vc' j = rk va vc j := by
  have ha := rows_below h.a hb
  have hc := rows_below h.c hb
  have low : Below Ba W w6 := h.low.trans (hb.mono hB)
  have e0 := keep_cellK hb h.c0
  have e1 := keep_cellK hb h.c1
  have na := (h.a.lt ga rfl)
  have nc := (h.c.lt gc rfl)
  obtain ⟨n1, n2, n3⟩ := h.ne
  have oth : ∀ (g j : Nat), g ≠ b0 → (w6.setCell ⟨g, i, none⟩ v).cell? ⟨b0, j, none⟩ = w6.cell? ⟨b0, j, none⟩ := fun g j hne => World.cell?_of_block (Below.heap_setCell _ _ _ _ (by show b0 ≠ g; omega))
  match k, hk with
  | 0, _ =>
    refine ⟨va.set i v, vc, ⟨(ha.stored i v).1, ownsRow_setCell_other (a := ⟨ga, i, none⟩) hc (by simp [Value.ownBlock]; omega) _, ?_, ?_, low.setCell na.1 _, h.ne⟩, rfl, fun j hj hne => ?_⟩
    · exact (oth ga 0 n2).trans e0
    · exact (oth ga 1 n2).trans e1
    · unfold rk; rw [if_neg hne, if_neg hne]
  | 1, _ =>
    refine ⟨va, vc.set i v, ⟨ownsRow_setCell_other (a := ⟨gc, i, none⟩) ha (by simp [Value.ownBlock]; omega) _, (hc.stored i v).1, ?_, ?_, low.setCell nc.1 _, h.ne⟩, rfl, fun j hj hne => ?_⟩
    · exact (oth gc 0 n3).trans e0
    · exact (oth gc 1 n3).trans e1
    · have : j = 0 := by omega
      subst this; rfl
theorem own_block {w w' : World} {B n g c : Nat} {T : TypeId} {xs : List Value} (h : w.ownsRow B T 1 (.slice (some ⟨g, 0, none⟩) n c) n xs) (e : w'.heap[g]? = w.heap[g]?) : w'.ownsRow B T 1 (.slice (some ⟨g, 0, none⟩) n c) n xs := by
  obtain ⟨h1, h2⟩ := h
  refine ⟨h1, ?_⟩
  rcases h2 with h2 | ⟨g', cap, cur, e', hg, hh, r⟩
  · exact .inl h2
  · have e2 := e'
    simp only [Value.slice.injEq, Option.some.injEq, Addr.mk.injEq, and_true, true_and] at e2
    exact .inr ⟨g', cap, cur, e', hg, by rw [← e2.1, e, e2.1]; exact hh, r⟩
theorem ST.below {W wr w6 : World} {Ba b0 n ga ca gc cc : Nat} {va vc : List Value} (h : ST W wr Ba b0 n ga ca gc cc va vc) (hb : Below wr.heap.size wr w6) (hB : Ba ≤ wr.heap.size) : ST W w6 Ba b0 n ga ca gc cc va vc :=
  ⟨rows_below h.a hb, rows_below h.c hb, keep_cellK hb h.c0, keep_cellK hb h.c1, h.low.trans (hb.mono hB), h.ne⟩
theorem ST.but {W wr w6 : World} {Ba b0 n ga ca gc cc : Nat} {va vc : List Value} {S : Nat → Prop} (h : ST W wr Ba b0 n ga ca gc cc va vc) (hb : But S wr w6) (hB : Ba ≤ wr.heap.size) (hS : ∀ b, S b → Ba ≤ b ∧ b ≠ ga ∧ b ≠ gc ∧ b ≠ b0) : ST W w6 Ba b0 n ga ca gc cc va vc := by
  have hl := World.block_lt_of_cell? wr _ h.c0
  have e0 : w6.heap[b0]? = wr.heap[b0]? := hb.block b0 hl fun s => (hS b0 s).2.2.2 rfl
  refine ⟨own_block h.a (hb.block ga (h.a.lt ga rfl).2 fun s => (hS ga s).2.1 rfl), own_block h.c (hb.block gc (h.c.lt gc rfl).2 fun s => (hS gc s).2.2.1 rfl), ?_, ?_, ?_, h.ne⟩
  · exact (World.cell?_of_block (a := ⟨b0, 0, none⟩) e0).trans h.c0
  · exact (World.cell?_of_block (a := ⟨b0, 1, none⟩) e0).trans h.c1
  · exact h.low.trans ⟨hb.os, hb.tape, hb.output, hb.size, fun k hk => hb.block k (by omega) fun s => by have := (hS k s).1; omega⟩
/-- the rows that lie at the places gone by. -/
def DN (n : Nat) (va vc : List Value) (k i : Nat) : Prop := ∀ k2, k2 < 2 → ∀ j, j < n → (k2 < k ∨ (k2 = k ∧ j < i)) → ∃ q c, gv (rk va vc k2) j = .slice q (1 + (k2 * 31 + j) % 97) c
theorem DN.put {n k i m : Nat} {va vc va' vc' : List Value} {q : Option Addr} {c : Nat} (h : DN n va vc k i) (hk : k < 2) (hi : i < n) (hl : (rk va vc k).length = n) (hm : m = 1 + (k * 31 + i) % 97) (e1 : rk va' vc' k = (rk va vc k).set i (.slice q m c)) (e2 : ∀ j, j < 2 → j ≠ k → rk va' vc' j = rk va vc j) : DN n va' vc' k (i + 1) := by
  intro k2 hk2 j hj hd
  by_cases e : k2 = k
  · subst e
    rw [e1, gv_set _ (by omega)]
    by_cases e3 : j = i
    · subst e3
      rw [if_pos rfl, hm]; exact ⟨_, _, rfl⟩
    · rw [if_neg e3]; exact h k2 hk2 j hj (by omega)
  · rw [e2 k2 hk2 e]; exact h k2 hk2 j hj (by omega)
theorem DN.next {n k : Nat} {va vc : List Value} (h : DN n va vc k n) : DN n va vc (k + 1) 0 := by
  intro k2 hk2 j hj hd
  exact h k2 hk2 j hj (by omega)

set_option maxHeartbeats 6400000 in
set_option maxRecDepth 100000 in
theorem apartRows_ok : ApartRowsOk := by
  intro qa qc n ca cc va vc A Ba Bc W hra hrc hn hn60 hn0 hs hlo hlo2 hB hBW
  obtain ⟨i0, hinf, hz0, hz1, hz2⟩ := info_parts info_range
  obtain ⟨i1, ginf, gz0, gz1, gz2⟩ := info_parts info_rows
  by_cases h0 : n = 0
  · subst h0
    obtain ⟨⟨rfl, rfl⟩, rfl, rfl⟩ := hn0 rfl
    obtain ⟨b0, hb0⟩ : ∃ b0, b0 = W.heap.size := ⟨_, rfl⟩
    obtain ⟨W0, hW0⟩ : ∃ W0, W0 = W.alloc (.cells #[.slice none 0 0, .slice none 0 0] 22) := ⟨_, rfl⟩
    have HBL : Hid (Below Ba W W0) := by show Below _ _ _; rw [hW0]; exact (bl_alloc _ _).mono (by omega)
    have HC : Hid (∀ k, k < 2 → W0.cell? ⟨b0, k, none⟩ = some (.slice none 0 0)) := by
      intro k hk
      rw [hW0, hb0, World.cell?_alloc_at _ _ _ _ rfl]
      match k, hk with
      | 0, _ => rfl
      | 1, _ => rfl
    have HZ : Hid (Ba ≤ W0.heap.size) := by show _ ≤ _; rw [hW0]; simp; omega
    rw [← hW0, ← hb0]
    clear hra hrc hn hn60 hn0 hs hlo hlo2 hB hBW hb0 hW0
    go_enter Tryz.func16, Tryz.ntmps16
    go_wp2
    go_loopw [3, 4] (fun av kv wr => ∃ (k : Nat), k ≤ 2 ∧ av = .slice none 0 0 ∧ kv = .int .i64 (k : Nat) ∧ wr = W0) (fun _ kv _ => 2 - (intOf kv).toNat)
    case atStart => exact ⟨0, by omega, rfl, rfl, rfl⟩
    case round =>
      obtain ⟨k, hk2, rfl, rfl, rfl⟩ := hrel
      by_cases hk : k < 2
      · have hkI : (k : Int) < 2 := by omega
        have hcell := HC.out k hk
        go_wp2
        go_roundw
        case rel => exact ⟨k + 1, by omega, rfl, by go_num, by first | rfl | trivial⟩
        case measure => simp [intOf]; omega
      · have hkI : (2 : Int) ≤ k := by omega
        have HAPR := Lib.hid (ApartRanges_any none 0 0 [] wr rfl (.inl rfl) (fun j hj => absurd hj (Nat.not_lt_zero _)) (fun i j b hi => absurd hi (Nat.not_lt_zero _)) (by omega) (fun j hj => absurd hj (Nat.not_lt_zero _)))
        go_wp2_with (go_at_call 34; refine HAPR.out.mono ?_; rintro e w5 ⟨rfl, hb5⟩; have hbb : Below wr.heap.size wr w5 := (by exact ⟨hb5.os, hb5.tape, hb5.output, hb5.size, fun k hk => hb5.block k hk (fun ⟨j, hj, _⟩ => absurd hj (Nat.not_lt_zero _))⟩); have HC5 : Hid (∀ k, k < 2 → w5.cell? ⟨b0, k, none⟩ = some (.slice none 0 0)) := (fun k hk => keep_cellK hbb (HC.out k hk)); have HB5 : Hid (Below Ba W w5) := HBL.out.trans (hbb.mono HZ.out); clear hb5 hbb)
        go_loopw [5] (fun kv wq => ∃ (k : Nat), k ≤ 2 ∧ kv = .int .i64 (k : Nat) ∧ wq = w5) (fun kv _ => 2 - (intOf kv).toNat)
        case atStart => exact ⟨0, by omega, rfl, rfl⟩
        case round =>
          obtain ⟨k, hk2, rfl, rfl⟩ := hrel
          by_cases hk : k < 2
          · have hkI : (k : Int) < 2 := by omega
            have hcell := HC5.out k hk
            go_wp2
            go_loopw [6] (fun iv wz => iv = .int .i64 0 ∧ wz = wr) (fun iv _ => 0)
            case atStart => exact ⟨rfl, rfl⟩
            case round =>
              obtain ⟨rfl, rfl⟩ := hrel
              go_wp2
              go_roundw
              case rel => exact ⟨k + 1, by omega, by go_num, by first | rfl | trivial⟩
              case measure => simp [intOf]; omega
          · have hkI : (2 : Int) ≤ k := by omega
            go_wp2
            go_loopw [7] (fun kv wq => ∃ (k : Nat), k ≤ 2 ∧ kv = .int .i64 (k : Nat) ∧ wq = wr) (fun kv _ => 2 - (intOf kv).toNat)
            case atStart => exact ⟨0, by omega, rfl, rfl⟩
            case round =>
              obtain ⟨k, hk2, rfl, rfl⟩ := hrel
              by_cases hk : k < 2
              · have hkI : (k : Int) < 2 := by omega
                have hcell := HC5.out k hk
                go_wp2
                go_loopw [8] (fun iv wz => iv = .int .i64 0 ∧ wz = wr) (fun iv _ => 0)
                case atStart => exact ⟨rfl, rfl⟩
                case round =>
                  obtain ⟨rfl, rfl⟩ := hrel
                  go_wp2
                  go_roundw
                  case rel => exact ⟨k + 1, by omega, by go_num, by first | rfl | trivial⟩
                  case measure => simp [intOf]; omega
              · have hkI : (2 : Int) ≤ k := by omega
                go_wp2
                go_ret
                exact ⟨rfl, HB5.out⟩
  · have hla : va.length = n := by rw [hra.len, hn]
    have hlc : vc.length = n := by rw [hrc.len, hn]
    have hoa := hra.out
    have hoc := hrc.out
    rw [hla] at hoa
    rw [hlc] at hoc
    obtain ⟨ga, rfl⟩ : ∃ ga, qa = some ⟨ga, 0, none⟩ := by
      rcases hoa.2 with ⟨_, h⟩ | ⟨g, _, _, e, _⟩
      · exact absurd h h0
      · simp only [Value.slice.injEq] at e; exact ⟨g, e.1⟩
    obtain ⟨gc, rfl⟩ : ∃ gc, qc = some ⟨gc, 0, none⟩ := by
      rcases hoc.2 with ⟨_, h⟩ | ⟨g, _, _, e, _⟩
      · exact absurd h h0
      · simp only [Value.slice.injEq] at e; exact ⟨g, e.1⟩
    have hga := hlo ga rfl
    have hgc := hoc.lt gc rfl
    have hga2 := hoa.lt ga rfl
    obtain ⟨b0, hb0⟩ : ∃ b0, b0 = W.heap.size := ⟨_, rfl⟩
    obtain ⟨W0, hW0⟩ : ∃ W0, W0 = W.alloc (.cells #[.slice (some ⟨ga, 0, none⟩) n ca, .slice (some ⟨gc, 0, none⟩) n cc] 22) := ⟨_, rfl⟩
    have hsz : W0.heap.size = b0 + 1 := by rw [hW0, hb0]; simp
    have hbl : Below W.heap.size W W0 := by rw [hW0]; exact bl_alloc _ _
    have HS0 : Hid (ST W W0 Ba b0 n ga ca gc cc va vc) := by
      refine ⟨rows_below hoa hbl, World.ownsRow.mono (rows_below hoc hbl) hB, ?_, ?_, hbl.mono (by omega), by omega, by omega, by omega⟩
      · rw [hW0, hb0, World.cell?_alloc_at _ _ _ _ rfl]; rfl
      · rw [hW0, hb0, World.cell?_alloc_at _ _ _ _ rfl]; rfl
    have HRA := Lib.hid (hra.below hbl)
    have HRC := Lib.hid (hrc.below hbl)
    have HN := Lib.hid hn
    have HSS := Lib.hid hs
    have HLO2 := Lib.hid hlo2
    have HLA := Lib.hid hla
    have HLC := Lib.hid hlc
    have HSZ0 := Lib.hid hsz
    have HBC := Lib.hid hB
    have HB0 : Hid (Ba ≤ b0) := by show Ba ≤ b0; omega
    have HWB := Lib.hid hb0
    have HGA : Hid (ga < b0 ∧ gc < b0) := by show _ ∧ _; omega
    obtain ⟨ds, d1, d2, d3, d4, d5⟩ := two_ds hra hrc hs hs hB hlo2
    have HD1 := Lib.hid d1
    have HD2 : Hid (ds.length = n + n) := by show _ = _; rw [d2, ← hn]
    have HD3 := Lib.hid d3
    have HD4 := Lib.hid d4
    have HD5 : Hid (∀ b, InD ds b → Ba ≤ b ∧ b ≠ ga ∧ b ≠ gc ∧ b < b0) := by
      intro b hb
      obtain ⟨h1, h2, c, fz, h3⟩ := d5 b hb
      refine ⟨h1, fun e => ?_, fun e => ?_, by omega⟩
      · rw [e] at h3; exact row_nr hoa _ _ h3
      · rw [e] at h3; exact row_nr hoc _ _ h3
    have HBLW := Lib.hid hbl
    rw [← hW0, ← hb0]
    clear d1 d2 d3 d4 d5
    clear hra hrc hn hs hlo hlo2 hB hBW hla hlc hoa hoc hga hgc hga2 hb0 hW0 hsz hbl hn0
    have hnI : (n : Int) ≤ 60 := by omega
    go_enter Tryz.func16, Tryz.ntmps16
    go_wp2
    go_loopw [3, 4] (fun av kv wr => ∃ (k len : Nat) (q : Option Addr) (cq : Nat), k ≤ 2 ∧ av = .slice q len cq ∧ kv = .int .i64 (k : Nat) ∧ Hid (len = catN n k) ∧ Hid (wr.ownsRow (b0 + 1) 29 1 (.slice q len cq) len (catL va vc k)) ∧ Hid (Below (b0 + 1) W0 wr)) (fun _ kv _ => 2 - (intOf kv).toNat)
    case atStart => exact ⟨0, 0, none, 0, by omega, rfl, rfl, rfl, World.ownsRow_nil _ _ _ _, Below.refl _ _⟩
    case round =>
      obtain ⟨k, len, q, cq, hk2, rfl, rfl, HLN, HOW, HBL⟩ := hrel
      rename World => wr
      have HBW : Hid (Below W0.heap.size W0 wr) := by show Below _ _ _; rw [HSZ0.out]; exact HBL.out
      have HST : Hid (ST W wr Ba b0 n ga ca gc cc va vc) := HS0.out.below HBW.out (by have := HSZ0.out; have := HB0.out; omega)
      have HSZ : Hid (b0 + 1 ≤ wr.heap.size) := by have := HBW.out.size; have := HSZ0.out; show _ ≤ _; omega
      by_cases hk : k < 2
      · have hkI : (k : Int) < 2 := by omega
        obtain ⟨ck, hcell, hown⟩ := HST.out.get hk
        obtain ⟨g1, hg1⟩ : ∃ g1, g1 = gk ga gc k := ⟨_, rfl⟩
        obtain ⟨vk, hvk⟩ : ∃ vk, vk = rk va vc k := ⟨_, rfl⟩
        rw [← hg1] at hcell hown
        rw [← hvk] at hown
        have HVK := Lib.hid (row_len hown)
        have HCE : Hid (∀ j u, vk[j]? = some u → wr.cell? ((⟨g1, 0, none⟩ : Addr).add j) = some u) := by
          intro j u hu
          have hj : j < vk.length := by rw [List.getElem?_eq_some_iff] at hu; exact hu.1
          have ea : (⟨g1, 0, none⟩ : Addr).add j = ⟨g1, j, none⟩ := by simp only [Addr.add, Nat.zero_add]; try (split <;> simp_all)
          rw [ea, hown.cellAt j (by have := HVK.out; omega), hu]
        have HONE : Hid (∀ u ∈ vk, u.oneCell' = true) := by
          intro u hu
          have h2 : ∀ (v : Value) (vs : List Value) (B : Nat), RowsIn W0 B v vs A → u ∈ vs → u.oneCell' = true := by
            intro v vs B h hu
            obtain ⟨i, hi, rfl⟩ := List.mem_iff_getElem.1 hu
            have hi2 : i < A.length := by have := h.len; omega
            obtain ⟨p, c, e, _⟩ := ownR_form (h.own i hi2)
            rw [gv_get hi] at e
            rw [e]; rfl
          rw [hvk] at hu
          unfold rk at hu
          split at hu
          · exact h2 _ _ _ HRA.out hu
          · exact h2 _ _ _ HRC.out hu
        have HCL : Hid (catL va vc (k + 1) = catL va vc k ++ vk) := by
          show _ = _
          rw [hvk]
          match k, hk with
          | 0, _ => rfl
          | 1, _ => rfl
        have HCN : Hid (len + n = catN n (k + 1)) := by
          show _ = _
          rw [HLN.out]
          match k, hk with
          | 0, _ => simp [catN]
          | 1, _ => rfl
        have hlen : len ≤ 60 := by
          rw [HLN.out]
          match k, hk with
          | 0, _ => simp [catN]
          | 1, _ => simp [catN]; omega
        have hn1 : 0 < n := by omega
        clear hown hg1 hvk
        go_wp2_with (at_builtin; refine wpList_append_lies _ rfl _ _ 22 rfl (b0 + 1) 29 i1 (.slice none 0 0) 1 24 Tryz.underlying22 ginf gz0 gz1 gz2 rfl (by decide) (.slice q len cq) len _ rfl HOW.out ⟨g1, 0, none⟩ n ck vk rfl (by have := HVK.out; omega) HCE.out HONE.out (by omega) (by simp only [maxLen]; omega) (by omega) (by have := HSZ.out; omega) _ rfl ?_)
        intro g cap w6 hown6 hgrow6 hat6 hlt6
        have HOW6 := Lib.hid hown6
        have HBL6 : Hid (Below (b0 + 1) W0 w6) := HBL.out.grown hgrow6 HSZ.out (fun j hj => (HOW.out.lt j hj).1)
        clear hown6 hgrow6 hat6 hlt6 hcell
        go_wp2
        go_roundw
        case rel => exact ⟨k + 1, len + n, _, cap, by omega, rfl, by go_num, HCN.out, (by rw [HCL.out]; exact HOW6.out), HBL6.out⟩
        case measure => simp [intOf]; omega
      · have hkI : (2 : Int) ≤ k := by omega
        obtain rfl : k = 2 := by omega
        have hln : len = n + n := HLN.out
        have hlnI : (len : Int) ≤ 120 := by omega
        have HLN2 := Lib.hid hln
        have HAPR : Hid (Calls Tryz.prog 34 #[.slice q len cq] wr fun e w' => e = .returned (.bool true) ∧ But (InD ds) wr w') := by
          have hlv : (ds.map D.val).length = len := by rw [List.length_map, HD2.out, hln]
          have ho : wr.ownsRow (b0 + 1) 29 1 (.slice q len cq) (ds.map D.val).length (ds.map D.val) := by
            rw [hlv, HD1.out]; exact HOW.out
          have hbw := bl_trans HBLW.out HBW.out
          exact ApartRanges_any q cq len ds wr (by rw [HD2.out]; exact hln) (slD_of_ownRanges (Bb := b0) ho (fun b hb => (HD5.out b hb).2.2.2)).1 (fun j hj => (HD3.out j (by rw [HD2.out]; omega)).1.below hbw) HD4.out (by omega) (fun j hj => (HD3.out j (by rw [HD2.out]; omega)).2)
        have HBZ : Hid (Ba ≤ wr.heap.size) := by have := HSZ.out; have := HB0.out; show _ ≤ _; omega
        clear hln
        go_wp2_with (go_at_call 34; refine HAPR.out.mono ?_; rintro e w5 ⟨rfl, hb5⟩; have HST5 := Lib.hid (HST.out.but hb5 HBZ.out (fun b hb => (by have h := HD5.out b hb; exact ⟨h.1, h.2.1, h.2.2.1, by omega⟩))); clear hb5)
        go_loopw [5] (fun kv wq => ∃ (k : Nat) (va2 vc2 : List Value), k ≤ 2 ∧ kv = .int .i64 (k : Nat) ∧ Hid (ST W wq Ba b0 n ga ca gc cc va2 vc2) ∧ Hid (DN n va2 vc2 k 0)) (fun kv _ => 2 - (intOf kv).toNat)
        case atStart => exact ⟨0, va, vc, by omega, rfl, HST5.out, fun k2 _ j _ h => by omega⟩
        case round =>
          obtain ⟨k, va2, vc2, hk2, rfl, HT, HDN⟩ := hrel
          rename World => wq
          by_cases hk : k < 2
          · have hkI : (k : Int) < 2 := by omega
            have HK := Lib.hid hk
            obtain ⟨ck0, hcell0, _⟩ := HT.out.get hk
            go_wp2
            go_loopw [6] (fun iv wz => ∃ (i : Nat) (va2 vc2 : List Value), i ≤ n ∧ iv = .int .i64 (i : Nat) ∧ Hid (ST W wz Ba b0 n ga ca gc cc va2 vc2) ∧ Hid (DN n va2 vc2 k i)) (fun iv _ => n - (intOf iv).toNat)
            case atStart => exact ⟨0, va2, vc2, Nat.zero_le _, rfl, HT.out, HDN.out⟩
            case round =>
              clear HT HDN hcell0
              obtain ⟨i, va2, vc2, hi, rfl, HT, HDN⟩ := hrel
              rename World => wr
              obtain ⟨ck, hcell, hown⟩ := HT.out.get HK.out
              obtain ⟨g1, hg1⟩ : ∃ g1, g1 = gk ga gc k := ⟨_, rfl⟩
              rw [← hg1] at hcell hown
              have HRW := Lib.hid hown
              have HG1 := Lib.hid hg1
              clear hown hg1
              by_cases hin : i < n
              · have hiI : (i : Int) < n := by omega
                obtain ⟨z, hz⟩ : ∃ z, z = (k * 31 + i) % 97 := ⟨_, rfl⟩
                have htm := tmod_nat k i
                rw [← hz] at htm
                have hz97 : z < 97 := by rw [hz]; exact Nat.mod_lt _ (by omega)
                have hzI : (z : Int) < 97 := by omega
                have HZ := Lib.hid hz
                have HSZ : Hid (Ba ≤ wr.heap.size ∧ b0 < wr.heap.size) := by
                  have h1 := World.block_lt_of_cell? wr _ hcell
                  have h2 := HB0.out
                  show _ ∧ _
                  simp only at h1
                  omega
                have HCI : Hid (∀ w6, Below wr.heap.size wr w6 → ∃ u, w6.cell? ⟨g1, i, none⟩ = some u) := by
                  intro w6 hb
                  have h := HRW.out
                  have hl := row_len h
                  exact ⟨(rk va2 vc2 k)[i]'(by omega), keep_cellK hb (by rw [h.cellAt i (by omega), List.getElem?_eq_getElem (by omega)])⟩
                clear hz
                have HLW := Lib.hid (len_wrap k i z HK.out (by omega) htm hz97)
                have hkI : (k : Int) < 2 := by have := HK.out; omega
                go_wp2
                refine wp_region_K (S := fun (W : World) => W.cell? ⟨b0, k, none⟩ = some (.slice (some ⟨g1, 0, none⟩) n ck)) 13 (by kernel_rfl) ?_
                have hHeld : (fun (W : World) => W.cell? ⟨b0, k, none⟩ = some (.slice (some ⟨g1, 0, none⟩) n ck)) wr.drew := hcell
                refine anyK_take (i := 0) (oi := { dst := some 39, op := Op.move (Operand.tmp 0), type := 46, pos := "rows.go:124", after := #[], guard := none }) (u := ?_) rfl (by kernel_rfl) (fun _ _ _ h => h) (Or.inl ⟨by kernel_rfl, ?_⟩) hHeld ?_
                rotate_left
                focus (intro w hSw; (try dsimp only at hSw); go_simp; try with_reducible rfl)
                try simp only [Act.put, List.setIfInBounds_toArray, List.set_cons_zero, List.set_cons_succ]
                refine anyK_take (i := 1) (oi := { dst := some 40, op := Op.move (Operand.tmp 5), type := 3, pos := "rows.go:124", after := #[], guard := none }) (u := ?_) rfl (by kernel_rfl) (fun _ _ _ h => h) (Or.inl ⟨by kernel_rfl, ?_⟩) hHeld ?_
                rotate_left
                focus (intro w hSw; (try dsimp only at hSw); go_simp; try with_reducible rfl)
                try simp only [Act.put, List.setIfInBounds_toArray, List.set_cons_zero, List.set_cons_succ]
                refine anyK_take (i := 2) (oi := { dst := some 41, op := Op.indexAddr 46 (Operand.tmp 39) (Operand.tmp 40), type := 0, pos := "rows.go:124", after := #[{ on := 0, ground := Ground.data }, { on := 1, ground := Ground.data }], guard := none }) (u := ?_) rfl (by kernel_rfl) (fun _ _ _ h => h) (Or.inl ⟨by kernel_rfl, ?_⟩) hHeld ?_
                rotate_left
                focus (intro w hSw; (try dsimp only at hSw); go_simp; try with_reducible rfl)
                try simp only [Act.put, List.setIfInBounds_toArray, List.set_cons_zero, List.set_cons_succ]
                refine anyK_take (i := 3) (oi := { dst := some 42, op := Op.load 22 (Operand.tmp 41), type := 22, pos := "rows.go:124", after := #[{ on := 2, ground := Ground.data }], guard := none }) (u := ?_) rfl (by kernel_rfl) (fun _ _ _ h => h) (Or.inl ⟨by kernel_rfl, ?_⟩) hHeld ?_
                rotate_left
                focus (intro w hSw; (try dsimp only at hSw); go_simp; try with_reducible rfl)
                try simp only [Act.put, List.setIfInBounds_toArray, List.set_cons_zero, List.set_cons_succ]
                refine anyK_take (i := 4) (oi := { dst := some 43, op := Op.move (Operand.tmp 6), type := 3, pos := "rows.go:124", after := #[], guard := none }) (u := ?_) rfl (by kernel_rfl) (fun _ _ _ h => h) (Or.inl ⟨by kernel_rfl, ?_⟩) hHeld ?_
                rotate_left
                focus (intro w hSw; (try dsimp only at hSw); go_simp; try with_reducible rfl)
                try simp only [Act.put, List.setIfInBounds_toArray, List.set_cons_zero, List.set_cons_succ]
                refine anyK_take (i := 5) (oi := { dst := some 44, op := Op.move (Operand.tmp 5), type := 3, pos := "rows.go:124", after := #[], guard := none }) (u := ?_) rfl (by kernel_rfl) (fun _ _ _ h => h) (Or.inl ⟨by kernel_rfl, ?_⟩) hHeld ?_
                rotate_left
                focus (intro w hSw; (try dsimp only at hSw); go_simp; try with_reducible rfl)
                try simp only [Act.put, List.setIfInBounds_toArray, List.set_cons_zero, List.set_cons_succ]
                refine anyK_take (i := 6) (oi := { dst := some 45, op := Op.binOp BinOp.mul 3 (Operand.tmp 44) (Operand.const (Value.int IntKind.i64 31)) 3, type := 3, pos := "rows.go:124", after := #[{ on := 5, ground := Ground.data }], guard := none }) (u := ?_) rfl (by kernel_rfl) (fun _ _ _ h => h) (Or.inl ⟨by kernel_rfl, ?_⟩) hHeld ?_
                rotate_left
                focus (intro w hSw; (try dsimp only at hSw); go_simp; try with_reducible rfl)
                try simp only [Act.put, List.setIfInBounds_toArray, List.set_cons_zero, List.set_cons_succ]
                refine anyK_take (i := 7) (oi := { dst := some 46, op := Op.move (Operand.tmp 6), type := 3, pos := "rows.go:124", after := #[], guard := none }) (u := ?_) rfl (by kernel_rfl) (fun _ _ _ h => h) (Or.inl ⟨by kernel_rfl, ?_⟩) hHeld ?_
                rotate_left
                focus (intro w hSw; (try dsimp only at hSw); go_simp; try with_reducible rfl)
                try simp only [Act.put, List.setIfInBounds_toArray, List.set_cons_zero, List.set_cons_succ]
                refine anyK_take (i := 8) (oi := { dst := some 47, op := Op.binOp BinOp.add 3 (Operand.tmp 45) (Operand.tmp 46) 3, type := 3, pos := "rows.go:124", after := #[{ on := 6, ground := Ground.data }, { on := 7, ground := Ground.data }], guard := none }) (u := ?_) rfl (by kernel_rfl) (fun _ _ _ h => h) (Or.inl ⟨by kernel_rfl, ?_⟩) hHeld ?_
                rotate_left
                focus (intro w hSw; (try dsimp only at hSw); go_simp; try with_reducible rfl)
                try simp only [Act.put, List.setIfInBounds_toArray, List.set_cons_zero, List.set_cons_succ]
                refine anyK_take (i := 9) (oi := { dst := some 48, op := Op.binOp BinOp.rem 3 (Operand.tmp 47) (Operand.const (Value.int IntKind.i64 97)) 3, type := 3, pos := "rows.go:124", after := #[{ on := 8, ground := Ground.data }], guard := none }) (u := ?_) rfl (by kernel_rfl) (fun _ _ _ h => h) (Or.inl ⟨by kernel_rfl, ?_⟩) hHeld ?_
                rotate_left
                focus (intro w hSw; (try dsimp only at hSw); go_simp; try with_reducible rfl)
                try simp only [Act.put, List.setIfInBounds_toArray, List.set_cons_zero, List.set_cons_succ]
                refine anyK_take (i := 10) (oi := { dst := some 49, op := Op.binOp BinOp.add 3 (Operand.const (Value.int IntKind.i64 1)) (Operand.tmp 48) 3, type := 3, pos := "rows.go:124", after := #[{ on := 9, ground := Ground.data }], guard := none }) (u := ?_) rfl (by kernel_rfl) (fun _ _ _ h => h) (Or.inl ⟨by kernel_rfl, ?_⟩) hHeld ?_
                rotate_left
                focus (intro w hSw; (try dsimp only at hSw); go_simp; try with_reducible rfl)
                try simp only [Act.put, List.setIfInBounds_toArray, List.set_cons_zero, List.set_cons_succ]
                refine anyK_one (i := 11) (o := { dst := some 50, op := Op.makeSlice 29 (Operand.tmp 49) (Operand.tmp 49), type := 29, pos := "rows.go:124", after := #[{ on := 10, ground := Ground.data }, { on := 10, ground := Ground.data }], guard := none }) (by kernel_rfl) rfl (fun K hK => ?_)
                refine step_make_full _ (by rfl) _ _ _ (by rfl) Ba 28 i0 (.agg #[.int .i64 0, .int .i64 0]) 2 Tryz.underlying29 hinf hz0 hz1 .i64 .i64 _ _ (1 + z) (by rfl) (by rfl) HLW.out HLW.out (by rw [hz2]; omega) (by simp only [maxLen]; omega) (by exact HSZ.out.1) ?_
                intro w6 hown6 hgrow6
                have hb6 : Below wr.heap.size wr w6 := by have h := (Below.refl wr.heap.size wr).drew.grown hgrow6 (Nat.le_refl _) (fun k hk => by cases hk); exact h
                have hS6 := keep_cellK hb6 hcell
                have HB6 := Lib.hid hb6
                have sfg : w6.frozen? ⟨g1, i, none⟩ = false := (rows_below HRW.out hb6).frozenAt i
                have scg : ∃ u, w6.cell? ⟨g1, i, none⟩ = some u := HCI.out w6 hb6
                obtain ⟨u0, scg⟩ := scg
                refine hK.out _ _ (fun _ => hS6) ?_
                clear hK K hHeld hown6 hgrow6 hb6
                have hHeld : (fun (W : World) => W.cell? ⟨b0, k, none⟩ = some (.slice (some ⟨g1, 0, none⟩) n ck)) w6 := hS6
                try simp only [Act.put, List.setIfInBounds_toArray, List.set_cons_zero, List.set_cons_succ]
                refine anyK_take (i := 12) (oi := { dst := some 51, op := Op.indexAddr 22 (Operand.tmp 42) (Operand.tmp 43), type := 0, pos := "rows.go:124", after := #[{ on := 3, ground := Ground.data }, { on := 4, ground := Ground.data }, { on := 0, ground := Ground.phase }, { on := 1, ground := Ground.phase }, { on := 2, ground := Ground.phase }, { on := 3, ground := Ground.phase }, { on := 4, ground := Ground.phase }, { on := 5, ground := Ground.phase }, { on := 6, ground := Ground.phase }, { on := 7, ground := Ground.phase }, { on := 8, ground := Ground.phase }, { on := 9, ground := Ground.phase }, { on := 10, ground := Ground.phase }, { on := 11, ground := Ground.phase }], guard := none }) (u := ?_) rfl (by kernel_rfl) (fun _ _ _ h => h) (Or.inl ⟨by kernel_rfl, ?_⟩) hHeld ?_
                rotate_left
                focus (intro w hSw; (try dsimp only at hSw); go_simp; try with_reducible rfl)
                try simp only [Act.put, List.setIfInBounds_toArray, List.set_cons_zero, List.set_cons_succ]
                refine anyK_one (i := 13) (o := { dst := none, op := Op.store 29 (Operand.tmp 51) (Operand.tmp 50), type := 0, pos := "rows.go:124", after := #[{ on := 12, ground := Ground.data }, { on := 11, ground := Ground.data }, { on := 0, ground := Ground.phase }, { on := 1, ground := Ground.phase }, { on := 2, ground := Ground.phase }, { on := 3, ground := Ground.phase }, { on := 4, ground := Ground.phase }, { on := 5, ground := Ground.phase }, { on := 6, ground := Ground.phase }, { on := 7, ground := Ground.phase }, { on := 8, ground := Ground.phase }, { on := 9, ground := Ground.phase }, { on := 10, ground := Ground.phase }, { on := 11, ground := Ground.phase }], guard := none }) (by kernel_rfl) rfl (fun K hK => ?_)
                go_simp
                refine hK.out _ _ (fun h => absurd h (by decide)) ?_
                clear hK K hHeld sfg scg hS6
                try simp only [Act.put, List.setIfInBounds_toArray, List.set_cons_zero, List.set_cons_succ]
                refine anyK_done (by kernel_rfl) ?_ _
                obtain ⟨va3, vc3, hst3, e1, e2⟩ := ST.put HT.out HK.out HSZ.out.1 HB6.out HSZ.out.2 (i := i) (v := .slice (some ⟨wr.heap.size, 0, none⟩) (1 + z) (1 + z))
                rw [← HG1.out] at hst3
                have HST3 := Lib.hid hst3
                have HDN3 : Hid (DN n va3 vc3 k (i + 1)) := HDN.out.put HK.out hin (row_len HRW.out) (by rw [HZ.out]) e1 e2
                clear hst3 e1 e2 htm
                go_wp2
                go_roundw
                case rel => exact ⟨i + 1, va3, vc3, by omega, by go_num, HST3.out, HDN3.out⟩
                case measure => simp [intOf]; omega
              · have hiI : (n : Int) ≤ i := by omega
                obtain rfl : i = n := by omega
                go_wp2
                go_roundw
                case rel => exact ⟨k + 1, va2, vc2, by have := HK.out; omega, by go_num, HT.out, HDN.out.next⟩
                case measure => have := HK.out; simp [intOf]; omega
          · have hkI : (2 : Int) ≤ k := by omega
            obtain rfl : k = 2 := by omega
            go_wp2
            go_loopw [7] (fun kv wz => ∃ (k : Nat), k ≤ 2 ∧ kv = .int .i64 (k : Nat) ∧ wz = wq) (fun kv _ => 2 - (intOf kv).toNat)
            case atStart => exact ⟨0, by omega, rfl, rfl⟩
            case round =>
              obtain ⟨k, hk2, rfl, rfl⟩ := hrel
              by_cases hk : k < 2
              · have hkI : (k : Int) < 2 := by omega
                have HK := Lib.hid hk
                obtain ⟨ck, hcell, hown⟩ := HT.out.get hk
                obtain ⟨g1, hg1⟩ : ∃ g1, g1 = gk ga gc k := ⟨_, rfl⟩
                rw [← hg1] at hcell hown
                have HRW := Lib.hid hown
                clear hown hg1
                go_wp2
                go_loopw [8] (fun iv wz => ∃ (i : Nat), i ≤ n ∧ iv = .int .i64 (i : Nat) ∧ wz = wr) (fun iv _ => n - (intOf iv).toNat)
                case atStart => exact ⟨0, Nat.zero_le _, rfl, rfl⟩
                case round =>
                  obtain ⟨i, hi, rfl, rfl⟩ := hrel
                  by_cases hin : i < n
                  · have hiI : (i : Int) < n := by omega
                    obtain ⟨z, hz⟩ : ∃ z, z = (k * 31 + i) % 97 := ⟨_, rfl⟩
                    have htm := tmod_nat k i
                    rw [← hz] at htm
                    have hz97 : z < 97 := by rw [hz]; exact Nat.mod_lt _ (by omega)
                    have hzI : (z : Int) < 97 := by omega
                    obtain ⟨q9, c9, h9⟩ := HDN.out k HK.out i hin (.inl HK.out)
                    rw [← hz] at h9
                    have hci : wr.cell? ⟨g1, i, none⟩ = some (.slice q9 (1 + z) c9) := by
                      have h := HRW.out
                      have hl := row_len h
                      rw [h.cellAt i (by omega), List.getElem?_eq_getElem (by omega), ← h9, gv_get (by omega)]
                    clear hz h9
                    go_wp2
                    go_roundw
                    case rel => exact ⟨i + 1, by omega, by go_num, by first | rfl | trivial⟩
                    case measure => simp [intOf]; omega
                  · have hiI : (n : Int) ≤ i := by omega
                    go_wp2
                    go_roundw
                    case rel => exact ⟨k + 1, by have := HK.out; omega, by go_num, by first | rfl | trivial⟩
                    case measure => have := HK.out; simp [intOf]; omega
              · have hkI : (2 : Int) ≤ k := by omega
                go_wp2
                go_ret
                exact ⟨rfl, HT.out.low⟩
end Go.Proofs.YtildfjlaieaadaaGreat
