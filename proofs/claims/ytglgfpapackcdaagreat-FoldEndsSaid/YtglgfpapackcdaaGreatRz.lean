/- The walks of LentInts and KeptInts: a list handed in with marks behind its end; that it is still as it was. -/
/- The walk of LentRanges: ranges handed in with marks behind their end. -/
import Derived.Test.YtglgfpapackcdaaGreatRx
import Derived.Laws.MakeOwn

namespace Go.Proofs.YtglgfpapackcdaaGreat
open Go.RowKit Tnr

theorem wpList_append_run {P : Program} {w w' : World} {ops : Array Oper} {rest : List Oper} {o : Oper} {a : Act} {Q : Exit → Act → World → Prop} (hw : Region.wanted o (yielded ops a.tmps) = true) (s x : Operand) (t : TypeId)
    (ho : o.op = .call { callee := .builtin .append, args := #[s, x], argTypes := #[t, t] }) (v u v' : Value) (hs : a.eval s = v) (hx : a.eval x = u)
    (hrun : (Builtin.append_ #[t, t] o.type #[v, u]).run P w = .ok v' w') (h : wpList P ops Q rest (a.put o.dst v') w') : wpList P ops Q (o :: rest) a w := by
  refine wpList_step fun K hK => ?_
  simp only [hw, if_true]
  unfold Oper.wp
  simp [execOp, ho, resolve, invoke, builtin, hs, hx, hrun, Result.andThen]
  exact hK _ _ h

theorem mark_any (i : Int) (w : World) (h0 : 0 ≤ i) (h1 : i ≤ 100) : Calls Tryz.prog 117 #[.int .i64 1, .int .i64 i] w fun e w' => e = .returned (.int .i64 (8000024 + i)) ∧ w' = w := by
  go_enter Tryz.func117, Tryz.ntmps117
  go_wp2
  go_ret
  exact ⟨rfl, rfl⟩

end Go.Proofs.YtglgfpapackcdaaGreat


namespace Go.Proofs.YtglgfpapackcdaaGreat
open Go.RowKit Tnr

theorem newsR_at {w : World} {b off : Nat} {a : List R} (h : ∀ i, i < a.length → w.cell? ⟨b, off + i * 2, none⟩ = some (.int .i64 (gr a i).1) ∧ w.cell? ⟨b, off + i * 2 + 1, none⟩ = some (.int .i64 (gr a i).2)) : ∀ j u, (a.flatMap encR)[j]? = some u → w.cell? ((⟨b, off, none⟩ : Addr).add j) = some u := by
  intro j u hu
  have hj := (List.getElem?_eq_some_iff.1 hu).1
  rw [encs_length] at hj
  have e2 : (⟨b, off, none⟩ : Addr).add j = ⟨b, off + j, none⟩ := by simp [Addr.add]
  rw [e2]
  obtain ⟨i, hi | hi⟩ : ∃ i, j = i * 2 ∨ j = i * 2 + 1 := ⟨j / 2, by omega⟩
  · subst hi
    have h1 := (encs_at a i (by omega)).1
    rw [h1] at hu
    rw [(h i (by omega)).1]; exact hu
  · subst hi
    have h1 := (encs_at a i (by omega)).2
    rw [h1] at hu
    rw [← Nat.add_assoc, (h i (by omega)).2]; exact hu
theorem ownR_rowN {w : World} {B no d : Nat} {q : Option Addr} {l : List R} (h : OwnR w B (.slice q no d) l) (hn : no = l.length) : w.ownsRow B 24 2 (.slice q no d) no (l.flatMap encR) := by
  subst hn; exact h
theorem enc_one {a : List R} : ∀ u ∈ a.flatMap encR, ∃ x, u = .int .i64 x := by
  intro u hu
  rw [List.mem_flatMap] at hu
  obtain ⟨d, _, hd⟩ := hu
  unfold encR at hd
  simp only [List.mem_cons, List.not_mem_nil, or_false] at hd
  rcases hd with rfl | rfl
  · exact ⟨_, rfl⟩
  · exact ⟨_, rfl⟩
theorem run_joinR {w : World} {B : Nat} {v : Value} {N : List R} {q : Option Addr} {cq : Nat} {a : List R} (T : TypeId) (ho : OwnR w B v N) (hs : SlR w q a) (hq : q = none → cq = 0) (hl : N.length + a.length ≤ 1000000000) (hB : B ≤ w.heap.size) :
    ∃ v' w', (Builtin.append_ #[25, 25] T #[v, .slice q a.length cq]).run Tryz.prog w = .ok v' w' ∧ OwnR w' B v' (N ++ a) ∧ w.grownBy w' v.ownBlock := by
  obtain ⟨i0, hinf, hz0, hz1, hz2⟩ := info_parts info_range
  unfold OwnR at ho
  cases q with
  | none =>
    have := hq rfl
    subst this
    have ha : a = [] := by
      rcases hs with h | ⟨b, off, h, _⟩
      · exact h
      · cases h
    subst ha
    have hrun := run_append_owned_none (P := Tryz.prog) (w := w) B 25 T 24 i0 2 Tryz.underlying25 hinf v N.length _ ho
    refine ⟨v, w, hrun, ?_, World.grownBy.refl _ _⟩
    unfold OwnR
    rw [List.append_nil]; exact ho
  | some ad =>
    have hn : ∀ j u, (a.flatMap encR)[j]? = some u → w.cell? (ad.add j) = some u := by
      rcases hs with h | ⟨b, off, h, hc⟩
      · subst h; intro j u hu; simp at hu
      · simp only [Option.some.injEq] at h
        subst h
        exact newsR_at hc
    obtain ⟨v', w', h1, h2, h3, _⟩ := run_append_own (P := Tryz.prog) (w := w) B 25 T 24 i0 (.agg #[.int .i64 0, .int .i64 0]) 2 16 Tryz.underlying25 hinf hz0 hz1 hz2 rfl (by decide) v N.length _ ho ad a.length cq (a.flatMap encR) (by rw [encs_length]) hn (by intro u hu; obtain ⟨x, rfl⟩ := enc_one u hu; rfl) (by simp only [maxLen]; omega) (by omega) hB
    refine ⟨v', w', h1, ?_, h3⟩
    unfold OwnR
    rw [List.length_append, List.flatMap_append]
    exact h2

set_option maxRecDepth 100000 in
theorem markRange_any (i : Int) (w : World) (h0 : 0 ≤ i) (h1 : i ≤ 100) : Calls Tryz.prog 74 #[.int .i64 1, .int .i64 i] w fun e w' => e = .returned (.agg #[.int .i64 (8000024 + i), .int .i64 0]) ∧ Below w.heap.size w w' := by
  have HM := fun W => mark_any i W h0 h1
  go_enter Tryz.func74, Tryz.ntmps74
  go_wp2_with (go_at_call 117; refine (HM _).mono ?_; rintro e w' ⟨rfl, hw'⟩; obtain rfl := hw'.symm; clear hw')
  refine bodyPost_ret (v := .agg #[.int .i64 (8000024 + i), .int .i64 0]) (by simp [results, Tryz.results74, go_sem]) rfl ?_
  exact ⟨rfl, bl_alloc _ _⟩

def marksR (k : Nat) : List R := (List.range k).map fun (i : Nat) => (8000024 + (i : Int), 0)
theorem marksR_succ (k : Nat) : marksR (k + 1) = marksR k ++ [(8000024 + (k : Int), 0)] := by unfold marksR; rw [List.range_succ, List.map_append]; rfl
theorem marksR_length (k : Nat) : (marksR k).length = k := by simp [marksR]
def LentRPost (n : Nat) (l : List R) (w : World) (e : Ending) (w' : World) : Prop :=
  ∃ g cap, e = .returned (.slice (some ⟨g, 0, none⟩) n cap) ∧ n + 12 ≤ cap ∧ cap ≤ 9223372036854775807 ∧ OwnR w' w.heap.size (.slice (some ⟨g, 0, none⟩) (n + 12) cap) (l ++ marksR 12) ∧ Below w.heap.size w w'

set_option maxHeartbeats 1600000 in
set_option maxRecDepth 100000 in
theorem lentR_any (p : Option Addr) (cp n : Nat) (l : List R) (w : World) (hn : n = l.length) (hp : SlR w p l) (hl : l.length ≤ 3000000) (hpn : p = none → cp = 0) :
    Calls Tryz.prog 44 #[.slice p n cp] w (LentRPost n l w) := by
  obtain ⟨i0, hinf, hz0, hz1, hz2⟩ := info_parts info_range
  have hnI : (n : Int) ≤ 3000000 := by omega
  have HN := Lib.hid hn
  have HP := Lib.hid hp
  have HPN := Lib.hid hpn
  have HNL := Lib.hid (show n ≤ 3000000 by omega)
  clear hp hn hl hpn
  go_enter Tryz.func44, Tryz.ntmps44
  go_wp2_with (at_make; refine wpList_make_own _ rfl _ _ 25 rfl w.heap.size 24 i0 (.agg #[.int .i64 0, .int .i64 0]) 2 Tryz.underlying25 hinf hz0 hz1 .i64 .i64 _ (n + 12) rfl rfl ?m1 ?m3 ?m4 ?m5 ?_)
  case m1 => push_cast; rfl
  case m3 => rw [hz2]; have := HNL.out; omega
  case m4 => have := HNL.out; simp only [maxLen]; omega
  case m5 => exact Nat.le_refl _
  intro w2 hown2 hgrow2
  have hb2 : Below w.heap.size w w2 := (Below.refl _ _).grown hgrow2 (Nat.le_refl _) (by simp)
  have ho2 : OwnR w2 w.heap.size (.slice (some ⟨w.heap.size, 0, none⟩) 0 (n + 12)) [] := hown2
  obtain ⟨v3, w3, hr1, hr2, hr3⟩ := run_joinR (w := w2) 25 ho2 (HP.out.below hb2) HPN.out (by have := HN.out; have := HNL.out; simp; omega) hb2.size
  have hb3 : Below w.heap.size w w3 := hb2.grown hr3 hb2.size (fun k hk => (ho2.lt k hk).1)
  rw [List.nil_append] at hr2
  rw [← HN.out] at hr1
  obtain ⟨q3, c3, hv3, _⟩ := ownR_form hr2
  subst hv3
  rw [← HN.out] at hr1 hr2
  have HR1 := Lib.hid hr1
  have HR2 := Lib.hid hr2
  have HB3 := Lib.hid hb3
  clear hr1 hr2 hr3 hb3 hb2 ho2 hown2 hgrow2
  go_wp2_with (at_builtin; refine wpList_append_run (by rfl) _ _ 25 rfl _ _ _ rfl rfl HR1.out ?_)
  go_loopw [3, 4] (fun tv iv wr => ∃ (k no : Nat) (M : List R) (q : Option Addr) (cq : Nat), k ≤ 12 ∧ iv = .int .i64 (k : Nat) ∧ tv = .slice q no cq ∧ no = n + k ∧ Hid (no = M.length) ∧ Hid (M = l ++ marksR k) ∧ Hid (OwnR wr w.heap.size (.slice q no cq) M) ∧ Hid (Below w.heap.size w wr)) (fun _ iv _ => 12 - (intOf iv).toNat)
  case atStart => exact ⟨0, n, l, q3, c3, by omega, rfl, rfl, rfl, HN.out, (by show l = l ++ marksR 0; simp [marksR]), HR2.out, HB3.out⟩
  case round =>
    obtain ⟨k, no, M, q, cq, hk, rfl, rfl, hno, HO, HM, HOW, HB⟩ := hrel
    rename World => wr
    by_cases hk12 : k < 12
    · have hkI : (k : Int) < 12 := by omega
      have HNO := Lib.hid hno
      have HK := Lib.hid hk12
      clear hno hk12
      go_wp2_with (first
        | (go_at_call 74; refine (markRange_any _ _ (by omega) (by omega)).mono ?_; rintro e w6 ⟨rfl, hb6⟩; have HO6 := Lib.hid (ownR_below HOW.out hb6); have HB6 := Lib.hid (bl_trans HB.out hb6); have HRO := Lib.hid (ownR_rowN HO6.out HO.out); clear hb6)
        | (at_builtin; refine wpList_append_own _ rfl _ _ 25 rfl w.heap.size 24 i0 (.agg #[.int .i64 0, .int .i64 0]) 2 16 Tryz.underlying25 hinf hz0 hz1 hz2 rfl (by decide) (.slice q no cq) no _ rfl (HRO.out.alloc _) ⟨w6.heap.size, 0, none⟩ 1 1 [.int .i64 (8000024 + (k : Int)), .int .i64 0] rfl rfl (cells_two_new _ _ _ _) (by simp [Value.oneCell']) ?c3 ?c4 ?c5 ?_))
      case c3 => have := HNO.out; have := HNL.out; have := HK.out; simp only [maxLen]; omega
      case c4 => have := HNO.out; have := HNL.out; have := HK.out; omega
      case c5 => have := HB6.out.size; simp; omega
      intro v5 w5 hown5 hgrow5 _
      have hO5 : OwnR w5 w.heap.size v5 (M ++ [(8000024 + (k : Int), 0)]) := ownR_appended HO.out.symm hown5
      have hb5 : Below w.heap.size w w5 := (HB6.out.alloc HB6.out.size _).grown hgrow5 (by have := HB6.out.size; simp; omega) (fun k hk => (HRO.out.lt k hk).1)
      obtain ⟨p', c5, hs', _⟩ := ownR_form hO5
      subst hs'
      have HN5 : Hid ((M ++ [(8000024 + (k : Int), (0 : Int))]).length = no + 1) := by
        show _ = _
        rw [List.length_append, ← HO.out]; rfl
      rw [HN5.out] at hO5 ⊢
      have HO5 := Lib.hid hO5
      have HB5 := Lib.hid hb5
      clear hown5 hgrow5 hO5 hb5
      go_wp2
      go_roundw
      case rel => exact ⟨k + 1, no + 1, _, p', c5, by have := HK.out; omega, by go_num, rfl, by have := HNO.out; omega, HN5.out.symm, (by show _ = _; rw [HM.out, marksR_succ, List.append_assoc]), HO5.out, HB5.out⟩
      case measure => have := HK.out; simp [intOf]; omega
    · have hkk : k = 12 := by omega
      subst hkk
      obtain rfl := hno
      obtain ⟨p', c', hs', hlc, hcm, _, _, hne⟩ := ownR_form HOW.out
      have hlen := HO.out
      simp only [Value.slice.injEq] at hs'
      obtain ⟨rfl, hl2, rfl⟩ := hs'
      obtain ⟨g, rfl⟩ : ∃ g, q = some ⟨g, 0, none⟩ := by
        rcases HOW.out.2 with ⟨h, h2⟩ | ⟨g, cap, cur, h, _⟩
        · exfalso; omega
        · simp only [Value.slice.injEq] at h
          exact ⟨g, h.1⟩
      have hcI : (n : Int) + 12 ≤ (cq : Int) := by omega
      have hcJ : (cq : Int) ≤ 9223372036854775807 := by omega
      have HLC := Lib.hid (show n + 12 ≤ cq by omega)
      have HCM := Lib.hid hcm
      have HO2 := Lib.hid (show OwnR wr w.heap.size (.slice (some ⟨g, 0, none⟩) (n + 12) cq) (l ++ marksR 12) by
        rw [← HM.out]; exact HOW.out)
      clear hlc hcm hne hk12 hlen hl2
      go_wp2
      go_ret
      exact ⟨g, cq, rfl, HLC.out, HCM.out, HO2.out, HB.out⟩
theorem lentR_sl {w : World} {B : Nat} {g n cap : Nat} {l m : List R} (h : OwnR w B (.slice (some ⟨g, 0, none⟩) (n + 12) cap) (l ++ m)) : SlR w (some ⟨g, 0, none⟩) l := by
  obtain ⟨p', c', hs', _, _, _, hsl, _⟩ := ownR_form h
  simp only [Value.slice.injEq] at hs'
  obtain ⟨rfl, _, _⟩ := hs'
  rcases hsl with h | ⟨b, off, h1, h2⟩
  · exact .inl (List.append_eq_nil_iff.1 h).1
  · refine .inr ⟨b, off, h1, fun i hi => ?_⟩
    have e : gr (l ++ m) i = gr l i := by
      rw [gr_get (by rw [List.length_append]; omega), gr_get hi, List.getElem_append_left hi]
    have := h2 i (by rw [List.length_append]; omega)
    rw [e] at this; exact this
end Go.Proofs.YtglgfpapackcdaaGreat

