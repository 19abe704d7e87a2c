/- The walks of LentInts and KeptInts: a list handed in with marks behind its end; that it is still as it was. -/
/- The walk of LentRanges: ranges handed in with marks behind their end. -/
/- The walk of KeptRanges. -/
/- The walks of the document's Join and Of. -/
import Derived.Test.YtgcgclmfjlecaaaGreatRx
import Derived.Laws.MakeOwn
import Derived.Deep.RegionLaw

namespace Go.Proofs.YtgcgclmfjlecaaaGreat
open Go.RowKit Tnr

theorem wpList_append_run {P : Program} {w w' : World} {ops : Array Oper} {rest : List Oper} {o : Oper} {a : Act} {Q : Exit → Act → World → Prop} (hw : Region.wanted o (yielded ops a.tmps) = true) (s x : Operand) (t : TypeId)
    (ho : o.op = .call { callee := .builtin .append, args := #[s, x], argTypes := #[t, t] }) (v u v' : Value) (hs : a.eval s = v) (hx : a.eval x = u)
    (hrun : (Builtin.append_ #[t, t] o.type #[v, u]).run P w = .ok v' w') (h : wpList P ops Q rest (a.put o.dst v') w') : wpList P ops Q (o :: rest) a w := by
  refine wpList_step fun K hK => ?_
  simp only [hw, if_true]
  unfold Oper.wp
  simp [execOp, ho, resolve, invoke, builtin, hs, hx, hrun, Result.andThen]
  exact hK _ _ h

theorem mark_any (i : Int) (w : World) (h0 : 0 ≤ i) (h1 : i ≤ 100) : Calls Tryz.prog 69 #[.int .i64 1, .int .i64 i] w fun e w' => e = .returned (.int .i64 (8000024 + i)) ∧ w' = w := by
  go_enter Tryz.func69, Tryz.ntmps69
  go_wp2
  go_ret
  exact ⟨rfl, rfl⟩

def marks (k : Nat) : List Int := (List.range k).map fun (i : Nat) => 8000024 + (i : Int)
theorem marks_succ (k : Nat) : marks (k + 1) = marks k ++ [8000024 + (k : Int)] := by unfold marks; rw [List.range_succ, List.map_append]; rfl
theorem marks_length (k : Nat) : (marks k).length = k := by simp [marks]
theorem gi_front {l m : List Int} {i : Nat} (h : i < l.length) : gi (l ++ m) i = gi l i := by
  unfold gi
  rw [List.getD_eq_getElem?_getD, List.getD_eq_getElem?_getD, List.getElem?_append_left h]
theorem gi_marks {l : List Int} {k i : Nat} (h1 : l.length ≤ i) (h2 : i < l.length + k) : gi (l ++ marks k) i = 8000024 + ((i : Int) - l.length) := by
  unfold gi
  rw [List.getD_eq_getElem?_getD, List.getElem?_append_right h1]
  unfold marks
  rw [List.getElem?_map, List.getElem?_range (by omega)]
  simp; omega

theorem newsI_at {w : World} {b off : Nat} {a : List Int} (h : ∀ i, i < a.length → w.cell? ⟨b, off + i, none⟩ = some (.int .i64 (gi a i))) : ∀ j u, (a.map (Value.int .i64))[j]? = some u → w.cell? ((⟨b, off, none⟩ : Addr).add j) = some u := by
  intro j u hu
  rw [List.getElem?_map] at hu
  obtain ⟨d, hd, rfl⟩ := Option.map_eq_some_iff.1 hu
  have hj := (List.getElem?_eq_some_iff.1 hd).1
  have e2 : (⟨b, off, none⟩ : Addr).add j = ⟨b, off + j, none⟩ := by simp [Addr.add]
  rw [e2, h j hj]
  unfold gi
  rw [List.getD_eq_getElem?_getD, hd]; rfl
theorem run_joinI {w : World} {B : Nat} {v : Value} {N : List Int} {q : Option Addr} {cq : Nat} {a : List Int} (T : TypeId) (ho : OwnI w B v N) (hs : SlI w q a) (hq : q = none → cq = 0) (hl : N.length + a.length ≤ 1000000000) (hB : B ≤ w.heap.size) :
    ∃ v' w', (Builtin.append_ #[72, 72] T #[v, .slice q a.length cq]).run Tryz.prog w = .ok v' w' ∧ OwnI w' B v' (N ++ a) ∧ w.grownBy w' v.ownBlock := by
  obtain ⟨i0, hinf, hz0, hz1, hz2⟩ := info_parts info_int
  unfold OwnI at ho
  cases q with
  | none =>
    have := hq rfl
    subst this
    have ha : a = [] := by
      rcases hs with h | ⟨b, off, h, _⟩
      · exact h
      · cases h
    subst ha
    have hrun := run_append_owned_none (P := Tryz.prog) (w := w) B 72 T 3 i0 1 Tryz.underlying72 hinf v N.length _ ho
    refine ⟨v, w, hrun, ?_, World.grownBy.refl _ _⟩
    unfold OwnI
    rw [List.append_nil]; exact ho
  | some ad =>
    have hn : ∀ j u, (a.map (Value.int .i64))[j]? = some u → w.cell? (ad.add j) = some u := by
      rcases hs with h | ⟨b, off, h, hc⟩
      · subst h; intro j u hu; simp at hu
      · simp only [Option.some.injEq] at h
        subst h
        exact newsI_at hc
    obtain ⟨v', w', h1, h2, h3, _⟩ := run_append_own (P := Tryz.prog) (w := w) B 72 T 3 i0 (.int .i64 0) 1 8 Tryz.underlying72 hinf hz0 hz1 hz2 rfl (by decide) v N.length _ ho ad a.length cq (a.map (Value.int .i64)) (by simp) hn (by intro u hu; rw [List.mem_map] at hu; obtain ⟨d, _, rfl⟩ := hu; rfl) (by simp only [maxLen]; omega) (by omega) hB
    refine ⟨v', w', h1, ?_, h3⟩
    unfold OwnI
    rw [List.length_append, List.map_append]
    exact h2

def LentPost (n : Nat) (l : List Int) (w : World) (e : Ending) (w' : World) : Prop :=
  ∃ g cap, e = .returned (.slice (some ⟨g, 0, none⟩) n cap) ∧ n + 12 ≤ cap ∧ cap ≤ 9223372036854775807 ∧ OwnI w' w.heap.size (.slice (some ⟨g, 0, none⟩) (n + 12) cap) (l ++ marks 12) ∧ Below w.heap.size w w'

theorem lent_sl {w : World} {B : Nat} {g n cap : Nat} {l m : List Int} (h : OwnI w B (.slice (some ⟨g, 0, none⟩) (n + 12) cap) (l ++ m)) (hn : l.length = n) (hm : m.length = 12) : SlI w (some ⟨g, 0, none⟩) l := by
  refine .inr ⟨g, 0, rfl, fun i hi => ?_⟩
  rw [Nat.zero_add, ownI_cell h (by rw [List.length_append, hn, hm]) i (by omega), gi_front hi]

end Go.Proofs.YtgcgclmfjlecaaaGreat


namespace Go.Proofs.YtgcgclmfjlecaaaGreat
open Go.RowKit Tnr

theorem newsR_at {w : World} {b off : Nat} {a : List R} (h : ∀ i, i < a.length → w.cell? ⟨b, off + i * 2, none⟩ = some (.int .i64 (gr a i).1) ∧ w.cell? ⟨b, off + i * 2 + 1, none⟩ = some (.int .i64 (gr a i).2)) : ∀ j u, (a.flatMap encR)[j]? = some u → w.cell? ((⟨b, off, none⟩ : Addr).add j) = some u := by
  intro j u hu
  have hj := (List.getElem?_eq_some_iff.1 hu).1
  rw [encs_length] at hj
  have e2 : (⟨b, off, none⟩ : Addr).add j = ⟨b, off + j, none⟩ := by simp [Addr.add]
  rw [e2]
  obtain ⟨i, hi | hi⟩ : ∃ i, j = i * 2 ∨ j = i * 2 + 1 := ⟨j / 2, by omega⟩
  · subst hi
    have h1 := (encs_at a i (by omega)).1
    rw [h1] at hu
    rw [(h i (by omega)).1]; exact hu
  · subst hi
    have h1 := (encs_at a i (by omega)).2
    rw [h1] at hu
    rw [← Nat.add_assoc, (h i (by omega)).2]; exact hu
theorem ownR_rowN {w : World} {B no d : Nat} {q : Option Addr} {l : List R} (h : OwnR w B (.slice q no d) l) (hn : no = l.length) : w.ownsRow B 41 2 (.slice q no d) no (l.flatMap encR) := by
  subst hn; exact h
theorem enc_one {a : List R} : ∀ u ∈ a.flatMap encR, ∃ x, u = .int .i64 x := by
  intro u hu
  rw [List.mem_flatMap] at hu
  obtain ⟨d, _, hd⟩ := hu
  unfold encR at hd
  simp only [List.mem_cons, List.not_mem_nil, or_false] at hd
  rcases hd with rfl | rfl
  · exact ⟨_, rfl⟩
  · exact ⟨_, rfl⟩
theorem run_joinR {w : World} {B : Nat} {v : Value} {N : List R} {q : Option Addr} {cq : Nat} {a : List R} (T : TypeId) (ho : OwnR w B v N) (hs : SlR w q a) (hq : q = none → cq = 0) (hl : N.length + a.length ≤ 1000000000) (hB : B ≤ w.heap.size) :
    ∃ v' w', (Builtin.append_ #[28, 28] T #[v, .slice q a.length cq]).run Tryz.prog w = .ok v' w' ∧ OwnR w' B v' (N ++ a) ∧ w.grownBy w' v.ownBlock := by
  obtain ⟨i0, hinf, hz0, hz1, hz2⟩ := info_parts info_range
  unfold OwnR at ho
  cases q with
  | none =>
    have := hq rfl
    subst this
    have ha : a = [] := by
      rcases hs with h | ⟨b, off, h, _⟩
      · exact h
      · cases h
    subst ha
    have hrun := run_append_owned_none (P := Tryz.prog) (w := w) B 28 T 41 i0 2 Tryz.underlying28 hinf v N.length _ ho
    refine ⟨v, w, hrun, ?_, World.grownBy.refl _ _⟩
    unfold OwnR
    rw [List.append_nil]; exact ho
  | some ad =>
    have hn : ∀ j u, (a.flatMap encR)[j]? = some u → w.cell? (ad.add j) = some u := by
      rcases hs with h | ⟨b, off, h, hc⟩
      · subst h; intro j u hu; simp at hu
      · simp only [Option.some.injEq] at h
        subst h
        exact newsR_at hc
    obtain ⟨v', w', h1, h2, h3, _⟩ := run_append_own (P := Tryz.prog) (w := w) B 28 T 41 i0 (.agg #[.int .i64 0, .int .i64 0]) 2 16 Tryz.underlying28 hinf hz0 hz1 hz2 rfl (by decide) v N.length _ ho ad a.length cq (a.flatMap encR) (by rw [encs_length]) hn (by intro u hu; obtain ⟨x, rfl⟩ := enc_one u hu; rfl) (by simp only [maxLen]; omega) (by omega) hB
    refine ⟨v', w', h1, ?_, h3⟩
    unfold OwnR
    rw [List.length_append, List.flatMap_append]
    exact h2

set_option maxRecDepth 100000 in
theorem markRange_any (i : Int) (w : World) (h0 : 0 ≤ i) (h1 : i ≤ 100) : Calls Tryz.prog 74 #[.int .i64 1, .int .i64 i] w fun e w' => e = .returned (.agg #[.int .i64 (8000024 + i), .int .i64 0]) ∧ Below w.heap.size w w' := by
  have HM := fun W => mark_any i W h0 h1
  go_enter Tryz.func74, Tryz.ntmps74
  go_wp2_with (go_at_call 69; refine (HM _).mono ?_; rintro e w' ⟨rfl, hw'⟩; obtain rfl := hw'.symm; clear hw')
  refine bodyPost_ret (v := .agg #[.int .i64 (8000024 + i), .int .i64 0]) (by simp [results, Tryz.results74, go_sem]) rfl ?_
  exact ⟨rfl, bl_alloc _ _⟩

def marksR (k : Nat) : List R := (List.range k).map fun (i : Nat) => (8000024 + (i : Int), 0)
theorem marksR_succ (k : Nat) : marksR (k + 1) = marksR k ++ [(8000024 + (k : Int), 0)] := by unfold marksR; rw [List.range_succ, List.map_append]; rfl
theorem marksR_length (k : Nat) : (marksR k).length = k := by simp [marksR]
def LentRPost (n : Nat) (l : List R) (w : World) (e : Ending) (w' : World) : Prop :=
  ∃ g cap, e = .returned (.slice (some ⟨g, 0, none⟩) n cap) ∧ n + 12 ≤ cap ∧ cap ≤ 9223372036854775807 ∧ OwnR w' w.heap.size (.slice (some ⟨g, 0, none⟩) (n + 12) cap) (l ++ marksR 12) ∧ Below w.heap.size w w'

theorem lentR_sl {w : World} {B : Nat} {g n cap : Nat} {l m : List R} (h : OwnR w B (.slice (some ⟨g, 0, none⟩) (n + 12) cap) (l ++ m)) : SlR w (some ⟨g, 0, none⟩) l := by
  obtain ⟨p', c', hs', _, _, _, hsl, _⟩ := ownR_form h
  simp only [Value.slice.injEq] at hs'
  obtain ⟨rfl, _, _⟩ := hs'
  rcases hsl with h | ⟨b, off, h1, h2⟩
  · exact .inl (List.append_eq_nil_iff.1 h).1
  · refine .inr ⟨b, off, h1, fun i hi => ?_⟩
    have e : gr (l ++ m) i = gr l i := by
      rw [gr_get (by rw [List.length_append]; omega), gr_get hi, List.getElem_append_left hi]
    have := h2 i (by rw [List.length_append]; omega)
    rw [e] at this; exact this
end Go.Proofs.YtgcgclmfjlecaaaGreat


namespace Go.Proofs.YtgcgclmfjlecaaaGreat
open Go.RowKit Tnr

theorem ownR_cellN {w : World} {B g no cap : Nat} {l : List R} (h : OwnR w B (.slice (some ⟨g, 0, none⟩) no cap) l) (hn : no = l.length) (i : Nat) (hi : i < no) :
    w.cell? ⟨g, i * 2, none⟩ = some (.int .i64 (gr l i).1) ∧ w.cell? ⟨g, i * 2 + 1, none⟩ = some (.int .i64 (gr l i).2) := by
  subst hn
  unfold OwnR at h
  obtain ⟨e1, e2⟩ := encs_at l i hi
  rw [h.cellAt (i * 2) (by omega), h.cellAt (i * 2 + 1) (by omega)]
  exact ⟨e1, e2⟩
theorem keep_cell {W w6 : World} {a : Addr} {v : Value} (hb : Below W.heap.size W w6) (h : W.cell? a = some v) : w6.cell? a = some v := by rw [hb.cell (World.block_lt_of_cell? W _ h)]; exact h
theorem keep_below {w W w6 : World} (hb : Below W.heap.size W w6) (h : Hid (Below w.heap.size w W)) : Hid (Below w.heap.size w w6) := bl_trans h.out hb
theorem gr_front {l m : List R} {i : Nat} (h : i < l.length) : gr (l ++ m) i = gr l i := by
  rw [gr_get (by rw [List.length_append]; omega), gr_get h, List.getElem_append_left h]
theorem gr_marks {l : List R} {k i : Nat} (h1 : l.length ≤ i) (h2 : i < l.length + k) : gr (l ++ marksR k) i = (8000024 + ((i : Int) - l.length), 0) := by
  rw [gr_get (by rw [List.length_append, marksR_length]; omega), List.getElem_append_right h1]
  unfold marksR
  simp
  omega

end Go.Proofs.YtgcgclmfjlecaaaGreat


namespace Go.Proofs.YtgcgclmfjlecaaaGreat
open Go.RowKit Tnr

theorem rows_flatten (xs : List SV) : (rowsOf xs).flatten = flat xs := by
  unfold rowsOf flat
  rw [List.flatMap_def]
theorem rows_length (xs : List SV) : (rowsOf xs).length = xs.length := by simp [rowsOf]

set_option maxRecDepth 100000 in
theorem rjoin_any (p : Option Addr) (c n : Nat) (xs : List SV) (l : List R) (w : World) (hl : l = cn (flat xs)) (hn : n = xs.length) (hx : SlS w p xs) (hf : (flat xs).length ≤ 10000000) (hnm : n ≤ 100000000) :
    Calls Tryz.prog 32 #[.slice p n c] w (WherePost l w) := by
  have HW := Lib.hid (where_any p c n xs 1 n w l hn hx hf hnm (by omega) hnm (by rw [hl]; exact cn_right _) (fun d _ _ => by
    rw [hl, cn_has, many_pos, rows_flatten]
    constructor
    · exact fun h => ⟨h, by have := many_le (rowsOf xs) d; rw [rows_length] at this; omega⟩
    · exact fun h => h.1))
  have hnI : (n : Int) ≤ 100000000 := by omega
  clear hl hn hx hf hnm
  go_enter Tryz.func32, Tryz.ntmps32
  go_wp2_with (go_at_call 65; refine HW.out.mono ?_; rintro e w5 ⟨q5, d5, rfl, ho5, hb5⟩; have HO5 := Lib.hid ho5; have HB5 := Lib.hid hb5; clear ho5 hb5)
  go_ret
  exact ⟨q5, d5, rfl, HO5.out, HB5.out⟩

theorem where_back {w W : World} {l : List R} {e : Ending} {w' : World} (hb : Below w.heap.size w W) (h : WherePost l W e w') : WherePost l w e w' := by
  obtain ⟨q, d, h1, h2, h3⟩ := h
  exact ⟨q, d, h1, ownR_mono h2 hb.size, bl_trans hb h3⟩
theorem rjoin_one (p : Option Addr) (c m : Nat) (l r : List R) (W : World) (hr : r = cn l) (hm : m = l.length) (hp : SlR W p l) (hl : l.length ≤ 10000000) :
    Calls Tryz.prog 32 #[.slice (some ⟨W.heap.size, 0, none⟩) 1 1] (W.alloc (.cells #[.slice p m c] 28)) (WherePost r W) := by
  subst hm
  refine (rjoin_any (some ⟨W.heap.size, 0, none⟩) 1 1 [(p, c, l)] r _ (by rw [flat_one]; exact hr) rfl (sls_new (fun x hx => by simp only [List.mem_singleton] at hx; subst hx; exact hp) rfl) (by rw [flat_one]; exact hl) (by simp)).mono ?_
  exact fun _ _ h => where_back (bl_alloc _ _) h

set_option maxHeartbeats 3200000 in
set_option maxRecDepth 100000 in
theorem rof_any (p : Option Addr) (c m : Nat) (ps : List Int) (r : List R) (w : World) (hr : r = cn (pts ps)) (hm : m = ps.length) (hp : SlI w p ps) (hl : ps.length ≤ 3000000) :
    Calls Tryz.prog 35 #[.slice p m c] w (WherePost r w) := by
  obtain ⟨i0, hinf, hz0, hz1, hz2⟩ := info_parts info_range
  have HP := Lib.hid hp
  have HN := Lib.hid hm
  have HR := Lib.hid hr
  have hmI : (m : Int) ≤ 3000000 := by omega
  clear hp hm hl hr
  go_enter Tryz.func35, Tryz.ntmps35
  go_wp2
  go_loopw [3, 4] (fun lv iv wr => ∃ (k : Nat) (L : List R) (q : Option Addr) (cq : Nat), k ≤ m ∧ iv = .int .i64 (k : Nat) ∧ lv = .slice q k cq ∧ Hid (L = pts (ps.take k)) ∧ Hid (k = L.length) ∧ Hid (OwnR wr w.heap.size (.slice q k cq) L) ∧ Hid (Below w.heap.size w wr)) (fun _ iv _ => m - (intOf iv).toNat)
  case atStart => exact ⟨0, [], none, 0, Nat.zero_le _, rfl, rfl, rfl, rfl, ownR_nil _ _, Below.refl _ _⟩
  case round =>
    obtain ⟨k, L, q, cq, hk, rfl, rfl, HE, HK, HO, HB⟩ := hrel
    rename World => wr
    by_cases hkm : k < m
    · have hkp : k < ps.length := by have := HN.out; omega
      obtain ⟨b, o, rfl, hc⟩ := sli_at (HP.out.below HB.out) hkp
      have hkI : (k : Int) < m := by omega
      obtain ⟨x, hx⟩ : ∃ x, x = gi ps k := ⟨_, rfl⟩
      rw [← hx] at hc
      have HE2 : Hid (L ++ [(x, x)] = pts (ps.take (k + 1))) := by
        show L ++ [(x, x)] = _
        rw [take_gi hkp, HE.out, hx]; simp [pts]
      have hrow := ownR_rowN HO.out HK.out
      have HRO := Lib.hid hrow
      have HWS := Lib.hid HB.out.size
      have HL := Lib.hid (show k ≤ 3000000 by omega)
      clear hx hrow hkp
      go_wp2
      go_region_law ((refine step_append_lies _ (by rfl) _ _ _ (by rfl) w.heap.size 41 i0 (.agg #[.int .i64 0, .int .i64 0]) 2 16 Tryz.underlying28 hinf hz0 hz1 hz2 rfl (by omega) (.slice q k cq) k _ (by rfl) ((HRO.out.alloc _).drew) ⟨wr.heap.size, 0, none⟩ 1 1 [.int .i64 x, .int .i64 x] (by rfl) (by rfl) (World.news_of_block (cs := #[.int .i64 x, .int .i64 x]) (t := 41) (fr := (0, 0)) (heap_alloc_new wr _)) (by simp [Value.oneCell']) (by omega) (by have := HL.out; simp only [maxLen]; omega) (by have := HL.out; omega) (by have := HWS.out; simp; omega) (wr.heap.size + 1) (by simp) ?_; intro gg cap w1 hown1 hgrow hat hlt))
      all_goals
        have hO5 : OwnR w1 w.heap.size (.slice (some ⟨gg, 0, none⟩) (k + 1) cap) (L ++ [(x, x)]) := ownR_appended (r := (x, x)) HK.out.symm hown1
        have hb5 : Below w.heap.size w w1 := (HB.out.alloc HB.out.size _).drew.grown hgrow (by have := HWS.out; simp; omega) (fun k hk => (HRO.out.lt k hk).1)
        have HO5 := Lib.hid hO5
        have HB5 := Lib.hid hb5
        have HK5 : Hid (k + 1 = (L ++ [(x, x)]).length) := by show _ = _; rw [List.length_append, ← HK.out]; rfl
        clear hown1 hgrow hat hlt hO5 hb5
        go_wp2
        go_roundw
      case rel => exact ⟨k + 1, _, _, cap, by omega, by go_num, rfl, HE2.out, HK5.out, HO5.out, HB5.out⟩
      case measure => simp [intOf]; omega
      case rel => exact ⟨k + 1, _, _, cap, by omega, by go_num, rfl, HE2.out, HK5.out, HO5.out, HB5.out⟩
      case measure => simp [intOf]; omega
    · have hkI : (m : Int) ≤ k := by omega
      have hL : L = pts ps := by rw [HE.out, List.take_of_length_le (by have := HN.out; omega)]
      have hlen : L.length ≤ 10000000 := by have := HK.out; omega
      obtain ⟨q', c', e', _, _, _, hsl, _⟩ := ownR_form HO.out
      simp only [Value.slice.injEq] at e'
      obtain ⟨rfl, hk2, rfl⟩ := e'
      clear hk2
      have HJ := Lib.hid (rjoin_one q cq k L r wr (by rw [hL]; exact HR.out) HK.out hsl hlen)
      clear hL hlen hsl
      go_wp2_with (go_at_call 32; refine HJ.out.mono ?_; rintro e w5 ⟨q5, d5, rfl, ho5, hb5⟩; have HO5 := Lib.hid ho5; have HB5 := Lib.hid hb5; clear ho5 hb5)
      go_ret
      exact where_back HB.out ⟨q5, d5, rfl, HO5.out, HB5.out⟩
end Go.Proofs.YtgcgclmfjlecaaaGreat

