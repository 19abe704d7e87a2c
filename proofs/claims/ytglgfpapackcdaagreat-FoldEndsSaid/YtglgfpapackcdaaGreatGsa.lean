/- Lists of folds handed in, with marks behind their ends: LentFolds, KeptFolds (genfolds.py writes this text). -/
import Derived.Test.YtglgfpapackcdaaGreatRza
import Derived.Test.YtglgfpapackcdaaGreatRd

namespace Go.Proofs.YtglgfpapackcdaaGreat
open Go.RowKit Tnr

def OwnF (w : World) (B : Nat) (v : Value) (l : List R) : Prop := w.ownsRow B 33 2 v l.length (l.flatMap encR)
theorem ownF_below {w w' : World} {B : Nat} {v : Value} {l : List R} (h : OwnF w B v l) (hb : Below w.heap.size w w') : OwnF w' B v l := by
  obtain ⟨h1, h2⟩ := h
  refine ⟨h1, ?_⟩
  rcases h2 with h2 | ⟨g, cap, cur, rfl, hg, hh, r⟩
  · exact .inl h2
  · exact .inr ⟨g, cap, cur, rfl, hg, by rw [hb.block g (lt_of_block hh)]; exact hh, r⟩
theorem ownF_down {w : World} {B B' : Nat} {v : Value} {l : List R} (h : OwnF w B v l) (hB : B' ≤ B) : OwnF w B' v l := World.ownsRow.mono h hB
theorem ownF_form {w : World} {B : Nat} {v : Value} {l : List R} (h : OwnF w B v l) :
    ∃ p c, v = .slice p l.length c ∧ l.length ≤ c ∧ c ≤ 9223372036854775807 ∧ (p = none → c = 0) ∧ SlR w p l ∧ (∀ g, v.ownBlock = some g → p = some ⟨g, 0, none⟩ ∧ B ≤ g) := by
  have h' := h
  rcases h.2 with ⟨rfl, hn⟩ | ⟨g, cap, cur, rfl, hb, hg, hnc, hcm, hcs, htake⟩
  · have hl : l = [] := List.eq_nil_of_length_eq_zero hn
    subst hl
    exact ⟨none, 0, rfl, by simp, by omega, fun _ => rfl, .inl rfl, fun g hg => by simp [Value.ownBlock] at hg⟩
  · refine ⟨some ⟨g, 0, none⟩, cap, rfl, hnc, by simpa [maxLen] using hcm, by simp, .inr ⟨g, 0, rfl, fun i hi => ?_⟩, fun g' hg' => ?_⟩
    · obtain ⟨e1, e2⟩ := encs_at l i hi
      unfold OwnF at h'
      have k1 := h'.cellAt (i * 2) (by omega)
      have k2 := h'.cellAt (i * 2 + 1) (by omega)
      rw [Nat.zero_add, k1, k2]
      exact ⟨e1, e2⟩
    · simp only [Value.ownBlock, Option.some.injEq] at hg'
      subst hg'
      exact ⟨rfl, hb⟩
theorem ownF_ne {w : World} {B : Nat} {v : Value} {l : List R} (h : OwnF w B v l) {nb : Nat} {c : Array Value} {T : TypeId} {fz : Nat × Nat} (hv : w.heap[nb]? = some (.cells c T fz)) (hT : T ≠ 33) : v.ownBlock ≠ some nb := by
  intro hg
  rcases h.2 with ⟨rfl, _⟩ | ⟨g, cap, cur, rfl, _, hh, _⟩
  · simp [Value.ownBlock] at hg
  · simp only [Value.ownBlock, Option.some.injEq] at hg
    subst hg
    rw [hh] at hv
    simp only [Option.some.injEq, Obj.cells.injEq] at hv
    exact hT hv.2.1.symm
theorem ownF_appended {w' : World} {B : Nat} {v' : Value} {l : List R} {n : Nat} {r : R} (hn : l.length = n) (h : w'.ownsRow B 33 2 v' (n + 1) (l.flatMap encR ++ [.int .i64 r.1, .int .i64 r.2])) : OwnF w' B v' (l ++ [r]) := by
  unfold OwnF
  rw [List.length_append, hn, List.flatMap_append]
  exact h
theorem info_fold : (Tryz.prog.info? 33).map (fun i => (i.zero, i.size, i.bytes)) = some (some (.agg #[.int .i64 0, .int .i64 0]), 2, 16) := by kernel_rfl
theorem fold_stood : Tryz.prog.stoodInHeld 33 = false := by kernel_rfl
theorem fold_guard : Tryz.prog.eqGuardType Tryz.prog.depth 33 = false := by kernel_rfl
theorem fold_fields : Tryz.prog.underlying 33 = some (.struct (Tryz.prog.fieldsOf 33)) := by kernel_rfl
theorem equal_fold (d : Nat) (x x' y y' : Int) (w : World) : (Op.equalIn (d + 2) 33 (.agg #[.int .i64 x, .int .i64 x']) (.agg #[.int .i64 y, .int .i64 y'])).run Tryz.prog w = .ok (x == y && x' == y') w := by
  rw [run_equalIn_agg _ _ _ _ _ fold_fields fold_stood]
  simp only [Program.fieldsOf, Tryz.underlying33]
  by_cases h1 : x = y <;> by_cases h2 : x' = y' <;> simp [Op.eqFields, part, run_equalIn_int, Tryz.underlying3, h1, h2]
set_option maxHeartbeats 800000 in
set_option maxRecDepth 100000 in
theorem sameF_any (p q : Option Addr) (c d : Nat) (l m : List R) (w : World) (hp : SlR w p l) (hq : SlR w q m) (hl : l.length ≤ 4611686018427387904) (hm : m.length ≤ 4611686018427387904) :
    Calls Tryz.prog 86 #[.slice p l.length c, .slice q m.length d] w fun e w' => e = .returned (.bool (decide (l = m))) ∧ ∃ n, w.drewN n = w' := by
  by_cases hne : l.length = m.length
  · have HP := Lib.hid hp
    have HQ := Lib.hid hq
    obtain ⟨n, hn⟩ : ∃ n, n = m.length := ⟨_, rfl⟩
    rw [← hn, show l.length = n by rw [hn]; exact hne]
    have hnI : (n : Int) ≤ 4611686018427387904 := by omega
    have HN := Lib.hid (show l.length = n ∧ m.length = n by omega)
    clear hp hq hn hne hl hm
    go_enter Tryz.func86, Tryz.ntmps86
    go_wp2
    go_loopw [5] (fun iv wr => ∃ (k r : Nat), k ≤ n ∧ iv = .int .i64 (k : Nat) ∧ Hid (∀ j, j < k → gr l j = gr m j) ∧ wr = w.drewN r) (fun iv _ => n - (intOf iv).toNat)
    case atStart => exact ⟨0, 0, Nat.zero_le _, rfl, fun j hj => by omega, rfl⟩
    case round =>
      obtain ⟨k, r, hk, rfl, HE, rfl⟩ := hrel
      by_cases hkn : k < n
      · obtain ⟨b1, o1, rfl, hc1, hc2⟩ := slr_at HP.out (show k < l.length by have := HN.out.1; omega)
        obtain ⟨b2, o2, rfl, hc3, hc4⟩ := slr_at HQ.out (show k < m.length by have := HN.out.2; omega)
        have hkI : (k : Int) < n := by omega
        obtain ⟨x, hx⟩ : ∃ x, x = (gr l k).1 := ⟨_, rfl⟩
        obtain ⟨x', hx'⟩ : ∃ x, x = (gr l k).2 := ⟨_, rfl⟩
        obtain ⟨y, hy⟩ : ∃ y, y = (gr m k).1 := ⟨_, rfl⟩
        obtain ⟨y', hy'⟩ : ∃ y, y = (gr m k).2 := ⟨_, rfl⟩
        rw [← hx] at hc1
        rw [← hx'] at hc2
        rw [← hy] at hc3
        rw [← hy'] at hc4
        have HX := Lib.hid hx
        have HX' := Lib.hid hx'
        have HY := Lib.hid hy
        have HY' := Lib.hid hy'
        clear hx hy hx' hy'
        have hgd := fold_guard
        have heq := fun W => equal_fold 9998 x x' y y' W
        by_cases hxy : x = y ∧ x' = y'
        · have hb : (x == y && x' == y') = true := by simpa using hxy
          have HXY := Lib.hid hxy
          clear hxy
          rw [hb] at heq
          go_wp2
          go_quiet (fail)
          go_wp2
          go_roundw
          case rel =>
            refine ⟨k + 1, r + nq, by omega, by go_num, ?_, ?_⟩
            · intro j hj
              by_cases e : j = k
              · subst e; exact Prod.ext (by rw [← HX.out, ← HY.out]; exact HXY.out.1) (by rw [← HX'.out, ← HY'.out]; exact HXY.out.2)
              · exact HE.out j (by omega)
            · rfl
          case measure => simp [intOf]; omega
        · have hb : (x == y && x' == y') = false := by
            rw [Bool.eq_false_iff]; simpa using hxy
          have HXY := Lib.hid hxy
          clear hxy
          rw [hb] at heq
          go_wp2
          go_quiet (fail)
          go_wp2
          go_ret
          have hlm : ¬ (l = m) := fun e => HXY.out ⟨by rw [HX.out, HY.out, e], by rw [HX'.out, HY'.out, e]⟩
          exact ⟨ret_bool (by rw [decide_eq_false hlm]), r + nq, by first | rfl | simp⟩
      · have hkI : (n : Int) ≤ k := by omega
        go_wp2
        go_ret
        have hlm : l = m := ext_gr (by have := HN.out; omega) (fun j hj => HE.out j (by have := HN.out; omega))
        exact ⟨ret_bool (by rw [decide_eq_true hlm]), r, rfl⟩
  · have hb : ((l.length : Int) != (m.length : Int)) = true := by simp; omega
    have HNE := Lib.hid hne
    clear hp hq hne
    have hlI : (l.length : Int) ≤ 4611686018427387904 := by omega
    have hmI : (m.length : Int) ≤ 4611686018427387904 := by omega
    go_enter Tryz.func86, Tryz.ntmps86
    go_wp2
    go_ret
    have hlm : ¬ (l = m) := fun e => HNE.out (by rw [e])
    exact ⟨ret_bool (by rw [decide_eq_false hlm]), 0, rfl⟩
theorem ownF_rowN {w : World} {B no d : Nat} {q : Option Addr} {l : List R} (h : OwnF w B (.slice q no d) l) (hn : no = l.length) : w.ownsRow B 33 2 (.slice q no d) no (l.flatMap encR) := by
  subst hn; exact h
theorem run_joinF {w : World} {B : Nat} {v : Value} {N : List R} {q : Option Addr} {cq : Nat} {a : List R} (T : TypeId) (ho : OwnF w B v N) (hs : SlR w q a) (hq : q = none → cq = 0) (hl : N.length + a.length ≤ 8000000000000) (hB : B ≤ w.heap.size) :
    ∃ v' w', (Builtin.append_ #[27, 27] T #[v, .slice q a.length cq]).run Tryz.prog w = .ok v' w' ∧ OwnF w' B v' (N ++ a) ∧ w.grownBy w' v.ownBlock := by
  obtain ⟨i0, hinf, hz0, hz1, hz2⟩ := info_parts info_fold
  unfold OwnF at ho
  cases q with
  | none =>
    have := hq rfl
    subst this
    have ha : a = [] := by
      rcases hs with h | ⟨b, off, h, _⟩
      · exact h
      · cases h
    subst ha
    have hrun := run_append_owned_none (P := Tryz.prog) (w := w) B 27 T 33 i0 2 Tryz.underlying27 hinf v N.length _ ho
    refine ⟨v, w, hrun, ?_, World.grownBy.refl _ _⟩
    unfold OwnF
    rw [List.append_nil]; exact ho
  | some ad =>
    have hn : ∀ j u, (a.flatMap encR)[j]? = some u → w.cell? (ad.add j) = some u := by
      rcases hs with h | ⟨b, off, h, hc⟩
      · subst h; intro j u hu; simp at hu
      · simp only [Option.some.injEq] at h
        subst h
        exact newsR_at hc
    obtain ⟨v', w', h1, h2, h3, _⟩ := run_append_own (P := Tryz.prog) (w := w) B 27 T 33 i0 (.agg #[.int .i64 0, .int .i64 0]) 2 16 Tryz.underlying27 hinf hz0 hz1 hz2 rfl (by decide) v N.length _ ho ad a.length cq (a.flatMap encR) (by rw [encs_length]) hn (by intro u hu; obtain ⟨x, rfl⟩ := enc_one u hu; rfl) (by simp only [maxLen]; omega) (by omega) hB
    refine ⟨v', w', h1, ?_, h3⟩
    unfold OwnF
    rw [List.length_append, List.flatMap_append]
    exact h2

set_option maxRecDepth 100000 in
theorem markFold_any (i : Int) (w : World) (h0 : 0 ≤ i) (h1 : i ≤ 100) : Calls Tryz.prog 71 #[.int .i64 1, .int .i64 i] w fun e w' => e = .returned (.agg #[.int .i64 (8000024 + i), .int .i64 0]) ∧ Below w.heap.size w w' := by
  have HM := fun W => mark_any i W h0 h1
  go_enter Tryz.func71, Tryz.ntmps71
  go_wp2_with (go_at_call 117; refine (HM _).mono ?_; rintro e w' ⟨rfl, hw'⟩; obtain rfl := hw'.symm; clear hw')
  refine bodyPost_ret (v := .agg #[.int .i64 (8000024 + i), .int .i64 0]) (by simp [results, Tryz.results71, go_sem]) rfl ?_
  exact ⟨rfl, bl_alloc _ _⟩

def LentFPost (n : Nat) (l : List R) (w : World) (e : Ending) (w' : World) : Prop :=
  ∃ g cap, e = .returned (.slice (some ⟨g, 0, none⟩) n cap) ∧ n + 12 ≤ cap ∧ cap ≤ 9223372036854775807 ∧ OwnF w' w.heap.size (.slice (some ⟨g, 0, none⟩) (n + 12) cap) (l ++ marksR 12) ∧ Below w.heap.size w w'

set_option maxHeartbeats 1600000 in
set_option maxRecDepth 100000 in
theorem lentF_any (p : Option Addr) (cp n : Nat) (l : List R) (w : World) (hn : n = l.length) (hp : SlR w p l) (hl : l.length ≤ 5000000000000) (hpn : p = none → cp = 0) :
    Calls Tryz.prog 42 #[.slice p n cp] w (LentFPost n l w) := by
  obtain ⟨i0, hinf, hz0, hz1, hz2⟩ := info_parts info_fold
  have hnI : (n : Int) ≤ 5000000000000 := by omega
  have HN := Lib.hid hn
  have HP := Lib.hid hp
  have HPN := Lib.hid hpn
  have HNL := Lib.hid (show n ≤ 5000000000000 by omega)
  clear hp hn hl hpn
  go_enter Tryz.func42, Tryz.ntmps42
  go_wp2_with (at_make; refine wpList_make_own _ rfl _ _ 27 rfl w.heap.size 33 i0 (.agg #[.int .i64 0, .int .i64 0]) 2 Tryz.underlying27 hinf hz0 hz1 .i64 .i64 _ (n + 12) rfl rfl ?m1 ?m3 ?m4 ?m5 ?_)
  case m1 => push_cast; rfl
  case m3 => rw [hz2]; have := HNL.out; omega
  case m4 => have := HNL.out; simp only [maxLen]; omega
  case m5 => exact Nat.le_refl _
  intro w2 hown2 hgrow2
  have hb2 : Below w.heap.size w w2 := (Below.refl _ _).grown hgrow2 (Nat.le_refl _) (by simp)
  have ho2 : OwnF w2 w.heap.size (.slice (some ⟨w.heap.size, 0, none⟩) 0 (n + 12)) [] := hown2
  obtain ⟨v3, w3, hr1, hr2, hr3⟩ := run_joinF (w := w2) 27 ho2 (HP.out.below hb2) HPN.out (by have := HN.out; have := HNL.out; simp; omega) hb2.size
  have hb3 : Below w.heap.size w w3 := hb2.grown hr3 hb2.size (fun k hk => (ho2.lt k hk).1)
  rw [List.nil_append] at hr2
  rw [← HN.out] at hr1
  obtain ⟨q3, c3, hv3, _⟩ := ownF_form hr2
  subst hv3
  rw [← HN.out] at hr1 hr2
  have HR1 := Lib.hid hr1
  have HR2 := Lib.hid hr2
  have HB3 := Lib.hid hb3
  clear hr1 hr2 hr3 hb3 hb2 ho2 hown2 hgrow2
  go_wp2_with (at_builtin; refine wpList_append_run (by rfl) _ _ 27 rfl _ _ _ rfl rfl HR1.out ?_)
  go_loopw [3, 4] (fun tv iv wr => ∃ (k no : Nat) (M : List R) (q : Option Addr) (cq : Nat), k ≤ 12 ∧ iv = .int .i64 (k : Nat) ∧ tv = .slice q no cq ∧ no = n + k ∧ Hid (no = M.length) ∧ Hid (M = l ++ marksR k) ∧ Hid (OwnF wr w.heap.size (.slice q no cq) M) ∧ Hid (Below w.heap.size w wr)) (fun _ iv _ => 12 - (intOf iv).toNat)
  case atStart => exact ⟨0, n, l, q3, c3, by omega, rfl, rfl, rfl, HN.out, (by show l = l ++ marksR 0; simp [marksR]), HR2.out, HB3.out⟩
  case round =>
    obtain ⟨k, no, M, q, cq, hk, rfl, rfl, hno, HO, HM, HOW, HB⟩ := hrel
    rename World => wr
    by_cases hk12 : k < 12
    · have hkI : (k : Int) < 12 := by omega
      have HNO := Lib.hid hno
      have HK := Lib.hid hk12
      clear hno hk12
      go_wp2_with (first
        | (go_at_call 71; refine (markFold_any _ _ (by omega) (by omega)).mono ?_; rintro e w6 ⟨rfl, hb6⟩; have HO6 := Lib.hid (ownF_below HOW.out hb6); have HB6 := Lib.hid (bl_trans HB.out hb6); have HRO := Lib.hid (ownF_rowN HO6.out HO.out); clear hb6)
        | (at_builtin; refine wpList_append_own _ rfl _ _ 27 rfl w.heap.size 33 i0 (.agg #[.int .i64 0, .int .i64 0]) 2 16 Tryz.underlying27 hinf hz0 hz1 hz2 rfl (by decide) (.slice q no cq) no _ rfl (HRO.out.alloc _) ⟨w6.heap.size, 0, none⟩ 1 1 [.int .i64 (8000024 + (k : Int)), .int .i64 0] rfl rfl (cells_two_new _ _ _ _) (by simp [Value.oneCell']) ?c3 ?c4 ?c5 ?_))
      case c3 => have := HNO.out; have := HNL.out; have := HK.out; simp only [maxLen]; omega
      case c4 => have := HNO.out; have := HNL.out; have := HK.out; omega
      case c5 => have := HB6.out.size; simp; omega
      intro v5 w5 hown5 hgrow5 _
      have hO5 : OwnF w5 w.heap.size v5 (M ++ [(8000024 + (k : Int), 0)]) := ownF_appended HO.out.symm hown5
      have hb5 : Below w.heap.size w w5 := (HB6.out.alloc HB6.out.size _).grown hgrow5 (by have := HB6.out.size; simp; omega) (fun k hk => (HRO.out.lt k hk).1)
      obtain ⟨p', c5, hs', _⟩ := ownF_form hO5
      subst hs'
      have HN5 : Hid ((M ++ [(8000024 + (k : Int), (0 : Int))]).length = no + 1) := by
        show _ = _
        rw [List.length_append, ← HO.out]; rfl
      rw [HN5.out] at hO5 ⊢
      have HO5 := Lib.hid hO5
      have HB5 := Lib.hid hb5
      clear hown5 hgrow5 hO5 hb5
      go_wp2
      go_roundw
      case rel => exact ⟨k + 1, no + 1, _, p', c5, by have := HK.out; omega, by go_num, rfl, by have := HNO.out; omega, HN5.out.symm, (by show _ = _; rw [HM.out, marksR_succ, List.append_assoc]), HO5.out, HB5.out⟩
      case measure => have := HK.out; simp [intOf]; omega
    · have hkk : k = 12 := by omega
      subst hkk
      obtain rfl := hno
      obtain ⟨p', c', hs', hlc, hcm, _, _, hne⟩ := ownF_form HOW.out
      have hlen := HO.out
      simp only [Value.slice.injEq] at hs'
      obtain ⟨rfl, hl2, rfl⟩ := hs'
      obtain ⟨g, rfl⟩ : ∃ g, q = some ⟨g, 0, none⟩ := by
        rcases HOW.out.2 with ⟨h, h2⟩ | ⟨g, cap, cur, h, _⟩
        · exfalso; omega
        · simp only [Value.slice.injEq] at h
          exact ⟨g, h.1⟩
      have hcI : (n : Int) + 12 ≤ (cq : Int) := by omega
      have hcJ : (cq : Int) ≤ 9223372036854775807 := by omega
      have HLC := Lib.hid (show n + 12 ≤ cq by omega)
      have HCM := Lib.hid hcm
      have HO2 := Lib.hid (show OwnF wr w.heap.size (.slice (some ⟨g, 0, none⟩) (n + 12) cq) (l ++ marksR 12) by
        rw [← HM.out]; exact HOW.out)
      clear hlc hcm hne hk12 hlen hl2
      go_wp2
      go_ret
      exact ⟨g, cq, rfl, HLC.out, HCM.out, HO2.out, HB.out⟩
theorem lentF_sl {w : World} {B : Nat} {g n cap : Nat} {l m : List R} (h : OwnF w B (.slice (some ⟨g, 0, none⟩) (n + 12) cap) (l ++ m)) : SlR w (some ⟨g, 0, none⟩) l := by
  obtain ⟨p', c', hs', _, _, _, hsl, _⟩ := ownF_form h
  simp only [Value.slice.injEq] at hs'
  obtain ⟨rfl, _, _⟩ := hs'
  rcases hsl with h | ⟨b, off, h1, h2⟩
  · exact .inl (List.append_eq_nil_iff.1 h).1
  · refine .inr ⟨b, off, h1, fun i hi => ?_⟩
    have e : gr (l ++ m) i = gr l i := by
      rw [gr_get (by rw [List.length_append]; omega), gr_get hi, List.getElem_append_left hi]
    have := h2 i (by rw [List.length_append]; omega)
    rw [e] at this; exact this
theorem ownF_cellN {w : World} {B g no cap : Nat} {l : List R} (h : OwnF w B (.slice (some ⟨g, 0, none⟩) no cap) l) (hn : no = l.length) (i : Nat) (hi : i < no) :
    w.cell? ⟨g, i * 2, none⟩ = some (.int .i64 (gr l i).1) ∧ w.cell? ⟨g, i * 2 + 1, none⟩ = some (.int .i64 (gr l i).2) := by
  subst hn
  unfold OwnF at h
  obtain ⟨e1, e2⟩ := encs_at l i hi
  rw [h.cellAt (i * 2) (by omega), h.cellAt (i * 2 + 1) (by omega)]
  exact ⟨e1, e2⟩
set_option maxHeartbeats 6400000 in
set_option maxRecDepth 100000 in
theorem keptF_any (p : Option Addr) (cp n : Nat) (l : List R) (B g cap : Nat) (w : World) (hn : n = l.length) (hp : SlR w p l) (hl : l.length ≤ 5000000000000) (ho : OwnF w B (.slice (some ⟨g, 0, none⟩) (n + 12) cap) (l ++ marksR 12)) (hcap : n + 12 ≤ cap) (hcm : cap ≤ 9223372036854775807) :
    Calls Tryz.prog 58 #[.slice (some ⟨g, 0, none⟩) n cap, .slice p n cp] w fun e w' => e = .returned (.bool true) ∧ Below w.heap.size w w' := by
  have hnI : (n : Int) ≤ 5000000000000 := by omega
  have hcI : (n : Int) + 12 ≤ (cap : Int) := by omega
  have hcJ : (cap : Int) ≤ 9223372036854775807 := by omega
  have HN := Lib.hid hn
  have HP := Lib.hid hp
  have HO := Lib.hid ho
  have HNN : Hid (n + 12 = (l ++ marksR 12).length) := by show _ = _; rw [List.length_append, marksR_length, ← hn]
  clear hp hn hl hcap hcm ho
  go_enter Tryz.func58, Tryz.ntmps58
  go_wp2
  go_loopw [6] (fun iv wr => ∃ (k : Nat), k ≤ n + 12 ∧ iv = .int .i64 (k : Nat) ∧ Hid (Below w.heap.size w wr)) (fun iv _ => n + 12 - (intOf iv).toNat)
  case atStart => exact ⟨0, Nat.zero_le _, rfl, Below.refl _ _⟩
  case round =>
    obtain ⟨k, hk, rfl, HB⟩ := hrel
    rename World => wr
    by_cases hkn : k < n
    · obtain ⟨b1, o1, rfl, hc1, hc2⟩ := slr_at (HP.out.below HB.out) (show k < l.length by have := HN.out; omega)
      obtain ⟨hc3, hc4⟩ := ownF_cellN (ownF_below HO.out HB.out) HNN.out k (by omega)
      rw [gr_front (by have := HN.out; omega)] at hc3 hc4
      obtain ⟨x, hx⟩ : ∃ x, x = (gr l k).1 := ⟨_, rfl⟩
      obtain ⟨x', hx'⟩ : ∃ x, x = (gr l k).2 := ⟨_, rfl⟩
      rw [← hx] at hc1 hc3
      rw [← hx'] at hc2 hc4
      clear hx hx'
      have hgd := fold_guard
      have heq := fun W => equal_fold 9998 x x' x x' W
      rw [show (x == x && x' == x') = true by simp] at heq
      have hkI : (k : Int) < n := by omega
      have hkJ : (k : Int) < (n : Int) + 12 := by omega
      have hge : decide ((n : Int) ≤ k) = false := by rw [decide_eq_false_iff_not]; omega
      have hlt : decide ((k : Int) < n) = true := by rw [decide_eq_true_iff]; omega
      have hltN : decide (k < n) = true := by rw [decide_eq_true_iff]; omega
      have hgeN : decide (n ≤ k) = false := by rw [decide_eq_false_iff_not]; omega
      clear hkn
      go_wp2
      go_quiet (fail)
      go_wp2
      go_roundw
      case rel => exact ⟨k + 1, by omega, by go_num, bl_trans HB.out (drewN_below _ _)⟩
      case measure => simp [intOf]; omega
    · by_cases hk12 : k < n + 12
      · obtain ⟨hc3, hc4⟩ := ownF_cellN (ownF_below HO.out HB.out) HNN.out k (by omega)
        rw [gr_marks (by have := HN.out; omega) (by have := HN.out; omega), ← HN.out] at hc3 hc4
        simp only at hc3 hc4
        have hkI : (n : Int) ≤ k := by omega
        have hkJ : (k : Int) < (n : Int) + 12 := by omega
        have hge : decide ((n : Int) ≤ k) = true := by rw [decide_eq_true_iff]; omega
        have hlt : decide ((k : Int) < n) = false := by rw [decide_eq_false_iff_not]; omega
        have hltN : decide (k < n) = false := by rw [decide_eq_false_iff_not]; omega
        have hgeN : decide (n ≤ k) = true := by rw [decide_eq_true_iff]; omega
        have hd0 : (0 : Int) ≤ (k : Int) - n := by omega
        have hd1 : (k : Int) - n ≤ 100 := by omega
        clear hkn
        have hwr : IntKind.i64.wrap ((k : Int) - n) = (k : Int) - n := by rw [IntKind.wrap_i64]; omega
        obtain ⟨x, hx⟩ : ∃ x, x = 8000024 + ((k : Int) - n) := ⟨_, rfl⟩
        rw [← hx] at hc3
        have HMARK : Hid (∀ (z : Int) (W : World), z = (k : Int) - n → Calls Tryz.prog 71 #[.int .i64 1, .int .i64 z] W fun e w' => e = .returned (.agg #[.int .i64 x, .int .i64 0]) ∧ Below W.heap.size W w') := by
          rintro z W rfl
          rw [hx]
          exact markFold_any _ W hd0 hd1
        have hgd := fold_guard
        have heq := fun W => equal_fold 9998 x 0 x 0 W
        rw [show (x == x && (0 : Int) == 0) = true by simp] at heq
        clear hd0 hd1 hx
        go_wp2
        refine wp_region_held_drew (S := (fun W => W.cell? ⟨g, k * 2, none⟩ = some (.int .i64 x) ∧ W.cell? ⟨g, k * 2 + 1, none⟩ = some (.int .i64 0) ∧ Hid (Below w.heap.size w W))) (by kernel_rfl) ⟨hc3, hc4, bl_trans HB.out (bl_drew _)⟩ (fun hHeld => ?_)
        refine wpAnyH_take (i := 0) (oi := ⟨some 23, Op.move (.tmp 6), 3, "lent.go:352", #[], none⟩) (v := ?_) rfl (by kernel_rfl) (by kernel_rfl) (by kernel_rfl) (fun _ _ _ h => h) (Or.inl ⟨by rfl, ?_⟩) (by assumption) ?_
        rotate_left
        focus (intro w hSw; (try dsimp only at hSw); go_simp; try with_reducible rfl)
        try simp only [Act.put, sb0, sb1, sb2]
        refine wpAnyH_take (i := 1) (oi := ⟨some 24, Op.move (.tmp 1), 27, "lent.go:352", #[], none⟩) (v := ?_) rfl (by kernel_rfl) (by kernel_rfl) (by kernel_rfl) (fun _ _ _ h => h) (Or.inl ⟨by rfl, ?_⟩) (by assumption) ?_
        rotate_left
        focus (intro w hSw; (try dsimp only at hSw); go_simp; try with_reducible rfl)
        try simp only [Act.put, sb0, sb1, sb2]
        refine wpAnyH_take (i := 2) (oi := ⟨some 25, Op.call { callee := Callee.builtin Builtin.len, args := #[.tmp 24], argTypes := #[27] }, 3, "lent.go:352", #[⟨1, .data⟩], none⟩) (v := ?_) rfl (by kernel_rfl) (by kernel_rfl) (by kernel_rfl) (fun _ _ _ h => h) (Or.inl ⟨by rfl, ?_⟩) (by assumption) ?_
        rotate_left
        focus (intro w hSw; (try dsimp only at hSw); go_simp; try with_reducible rfl)
        try simp only [Act.put, sb0, sb1, sb2]
        refine wpAnyH_take (i := 3) (oi := ⟨some 26, Op.binOp BinOp.lss 3 (.tmp 23) (.tmp 25) 3, 4, "lent.go:352", #[⟨0, .data⟩, ⟨2, .data⟩], none⟩) (v := ?_) rfl (by kernel_rfl) (by kernel_rfl) (by kernel_rfl) (fun _ _ _ h => h) (Or.inl ⟨by rfl, ?_⟩) (by assumption) ?_
        rotate_left
        focus (intro w hSw; (try dsimp only at hSw); go_simp; try with_reducible rfl)
        try simp only [Act.put, sb0, sb1, sb2]
        refine wpAnyH_take (i := 4) (oi := ⟨some 27, Op.move (.tmp 26), 4, "lent.go:352", #[⟨3, .data⟩], none⟩) (v := ?_) rfl (by kernel_rfl) (by kernel_rfl) (by kernel_rfl) (fun _ _ _ h => h) (Or.inl ⟨by rfl, ?_⟩) (by assumption) ?_
        rotate_left
        focus (intro w hSw; (try dsimp only at hSw); go_simp; try with_reducible rfl)
        try simp only [Act.put, sb0, sb1, sb2]
        refine wpAnyH_take (i := 5) (oi := ⟨some 28, Op.move (.tmp 5), 27, "lent.go:352", #[⟨4, .guard⟩], some (4, true)⟩) (v := undef) rfl (by kernel_rfl) (by kernel_rfl) (by kernel_rfl) (fun _ _ _ h => h) (Or.inr ⟨by rfl, by rfl⟩) (by assumption) ?_
        try simp only [Act.put, sb0, sb1, sb2]
        refine wpAnyH_take (i := 6) (oi := ⟨some 29, Op.move (.tmp 6), 3, "lent.go:352", #[⟨4, .guard⟩], some (4, true)⟩) (v := undef) rfl (by kernel_rfl) (by kernel_rfl) (by kernel_rfl) (fun _ _ _ h => h) (Or.inr ⟨by rfl, by rfl⟩) (by assumption) ?_
        try simp only [Act.put, sb0, sb1, sb2]
        refine wpAnyH_take (i := 7) (oi := ⟨some 30, Op.indexAddr 27 (.tmp 28) (.tmp 29), 0, "lent.go:352", #[⟨5, .data⟩, ⟨6, .data⟩, ⟨4, .guard⟩], some (4, true)⟩) (v := undef) rfl (by kernel_rfl) (by kernel_rfl) (by kernel_rfl) (fun _ _ _ h => h) (Or.inr ⟨by rfl, by rfl⟩) (by assumption) ?_
        try simp only [Act.put, sb0, sb1, sb2]
        refine wpAnyH_take (i := 8) (oi := ⟨some 31, Op.load 33 (.tmp 30), 33, "lent.go:352", #[⟨7, .data⟩, ⟨4, .guard⟩], some (4, true)⟩) (v := undef) rfl (by kernel_rfl) (by kernel_rfl) (by kernel_rfl) (fun _ _ _ h => h) (Or.inr ⟨by rfl, by rfl⟩) (by assumption) ?_
        try simp only [Act.put, sb0, sb1, sb2]
        refine wpAnyH_take (i := 9) (oi := ⟨some 32, Op.move (.tmp 1), 27, "lent.go:352", #[⟨4, .guard⟩], some (4, true)⟩) (v := undef) rfl (by kernel_rfl) (by kernel_rfl) (by kernel_rfl) (fun _ _ _ h => h) (Or.inr ⟨by rfl, by rfl⟩) (by assumption) ?_
        try simp only [Act.put, sb0, sb1, sb2]
        refine wpAnyH_take (i := 10) (oi := ⟨some 33, Op.move (.tmp 6), 3, "lent.go:352", #[⟨4, .guard⟩], some (4, true)⟩) (v := undef) rfl (by kernel_rfl) (by kernel_rfl) (by kernel_rfl) (fun _ _ _ h => h) (Or.inr ⟨by rfl, by rfl⟩) (by assumption) ?_
        try simp only [Act.put, sb0, sb1, sb2]
        refine wpAnyH_take (i := 11) (oi := ⟨some 34, Op.indexAddr 27 (.tmp 32) (.tmp 33), 0, "lent.go:352", #[⟨9, .data⟩, ⟨10, .data⟩, ⟨4, .guard⟩], some (4, true)⟩) (v := undef) rfl (by kernel_rfl) (by kernel_rfl) (by kernel_rfl) (fun _ _ _ h => h) (Or.inr ⟨by rfl, by rfl⟩) (by assumption) ?_
        try simp only [Act.put, sb0, sb1, sb2]
        refine wpAnyH_take (i := 12) (oi := ⟨some 35, Op.load 33 (.tmp 34), 33, "lent.go:352", #[⟨11, .data⟩, ⟨4, .guard⟩], some (4, true)⟩) (v := undef) rfl (by kernel_rfl) (by kernel_rfl) (by kernel_rfl) (fun _ _ _ h => h) (Or.inr ⟨by rfl, by rfl⟩) (by assumption) ?_
        try simp only [Act.put, sb0, sb1, sb2]
        refine wpAnyH_take (i := 13) (oi := ⟨some 36, Op.binOp BinOp.eql 33 (.tmp 31) (.tmp 35) 33, 4, "lent.go:352", #[⟨8, .data⟩, ⟨12, .data⟩, ⟨4, .guard⟩], some (4, true)⟩) (v := undef) rfl (by kernel_rfl) (by kernel_rfl) (by kernel_rfl) (fun _ _ _ h => h) (Or.inr ⟨by rfl, by rfl⟩) (by assumption) ?_
        try simp only [Act.put, sb0, sb1, sb2]
        refine wpAnyH_take (i := 14) (oi := ⟨some 37, Op.unOp UnOp.not 4 (.tmp 36), 4, "lent.go:352", #[⟨13, .data⟩, ⟨4, .guard⟩], some (4, true)⟩) (v := undef) rfl (by kernel_rfl) (by kernel_rfl) (by kernel_rfl) (fun _ _ _ h => h) (Or.inr ⟨by rfl, by rfl⟩) (by assumption) ?_
        try simp only [Act.put, sb0, sb1, sb2]
        refine wpAnyH_take (i := 15) (oi := ⟨some 38, Op.pick (.tmp 27) (.tmp 37) (.const (Value.bool false)), 4, "lent.go:352", #[⟨4, .data⟩, ⟨14, .data⟩], none⟩) (v := ?_) rfl (by kernel_rfl) (by kernel_rfl) (by kernel_rfl) (fun _ _ _ h => h) (Or.inl ⟨by rfl, ?_⟩) (by assumption) ?_
        rotate_left
        focus (intro w hSw; (try dsimp only at hSw); go_simp; try with_reducible rfl)
        try simp only [Act.put, sb0, sb1, sb2]
        refine wpAnyH_take (i := 16) (oi := ⟨some 39, Op.move (.tmp 38), 4, "lent.go:352", #[⟨15, .data⟩, ⟨4, .chain⟩], none⟩) (v := ?_) rfl (by kernel_rfl) (by kernel_rfl) (by kernel_rfl) (fun _ _ _ h => h) (Or.inl ⟨by rfl, ?_⟩) (by assumption) ?_
        rotate_left
        focus (intro w hSw; (try dsimp only at hSw); go_simp; try with_reducible rfl)
        try simp only [Act.put, sb0, sb1, sb2]
        refine wpAnyH_take (i := 17) (oi := ⟨some 40, Op.move (.tmp 6), 3, "lent.go:352", #[⟨16, .guard⟩], some (16, false)⟩) (v := ?_) rfl (by kernel_rfl) (by kernel_rfl) (by kernel_rfl) (fun _ _ _ h => h) (Or.inl ⟨by rfl, ?_⟩) (by assumption) ?_
        rotate_left
        focus (intro w hSw; (try dsimp only at hSw); go_simp; try with_reducible rfl)
        try simp only [Act.put, sb0, sb1, sb2]
        refine wpAnyH_take (i := 18) (oi := ⟨some 41, Op.move (.tmp 1), 27, "lent.go:352", #[⟨16, .guard⟩], some (16, false)⟩) (v := ?_) rfl (by kernel_rfl) (by kernel_rfl) (by kernel_rfl) (fun _ _ _ h => h) (Or.inl ⟨by rfl, ?_⟩) (by assumption) ?_
        rotate_left
        focus (intro w hSw; (try dsimp only at hSw); go_simp; try with_reducible rfl)
        try simp only [Act.put, sb0, sb1, sb2]
        refine wpAnyH_take (i := 19) (oi := ⟨some 42, Op.call { callee := Callee.builtin Builtin.len, args := #[.tmp 41], argTypes := #[27] }, 3, "lent.go:352", #[⟨18, .data⟩, ⟨16, .guard⟩], some (16, false)⟩) (v := ?_) rfl (by kernel_rfl) (by kernel_rfl) (by kernel_rfl) (fun _ _ _ h => h) (Or.inl ⟨by rfl, ?_⟩) (by assumption) ?_
        rotate_left
        focus (intro w hSw; (try dsimp only at hSw); go_simp; try with_reducible rfl)
        try simp only [Act.put, sb0, sb1, sb2]
        refine wpAnyH_take (i := 20) (oi := ⟨some 43, Op.binOp BinOp.geq 3 (.tmp 40) (.tmp 42) 3, 4, "lent.go:352", #[⟨17, .data⟩, ⟨19, .data⟩, ⟨16, .guard⟩], some (16, false)⟩) (v := ?_) rfl (by kernel_rfl) (by kernel_rfl) (by kernel_rfl) (fun _ _ _ h => h) (Or.inl ⟨by rfl, ?_⟩) (by assumption) ?_
        rotate_left
        focus (intro w hSw; (try dsimp only at hSw); go_simp; try with_reducible rfl)
        try simp only [Act.put, sb0, sb1, sb2]
        refine wpAnyH_take (i := 21) (oi := ⟨some 44, Op.move (.tmp 43), 4, "lent.go:352", #[⟨20, .data⟩, ⟨16, .chain⟩, ⟨16, .guard⟩], some (16, false)⟩) (v := ?_) rfl (by kernel_rfl) (by kernel_rfl) (by kernel_rfl) (fun _ _ _ h => h) (Or.inl ⟨by rfl, ?_⟩) (by assumption) ?_
        rotate_left
        focus (intro w hSw; (try dsimp only at hSw); go_simp; try with_reducible rfl)
        try simp only [Act.put, sb0, sb1, sb2]
        refine wpAnyH_take (i := 22) (oi := ⟨some 45, Op.move (.tmp 5), 27, "lent.go:352", #[⟨21, .guard⟩], some (21, true)⟩) (v := ?_) rfl (by kernel_rfl) (by kernel_rfl) (by kernel_rfl) (fun _ _ _ h => h) (Or.inl ⟨by rfl, ?_⟩) (by assumption) ?_
        rotate_left
        focus (intro w hSw; (try dsimp only at hSw); go_simp; try with_reducible rfl)
        try simp only [Act.put, sb0, sb1, sb2]
        refine wpAnyH_take (i := 23) (oi := ⟨some 46, Op.move (.tmp 6), 3, "lent.go:352", #[⟨21, .guard⟩], some (21, true)⟩) (v := ?_) rfl (by kernel_rfl) (by kernel_rfl) (by kernel_rfl) (fun _ _ _ h => h) (Or.inl ⟨by rfl, ?_⟩) (by assumption) ?_
        rotate_left
        focus (intro w hSw; (try dsimp only at hSw); go_simp; try with_reducible rfl)
        try simp only [Act.put, sb0, sb1, sb2]
        refine wpAnyH_take (i := 24) (oi := ⟨some 47, Op.indexAddr 27 (.tmp 45) (.tmp 46), 0, "lent.go:352", #[⟨22, .data⟩, ⟨23, .data⟩, ⟨21, .guard⟩], some (21, true)⟩) (v := ?_) rfl (by kernel_rfl) (by kernel_rfl) (by kernel_rfl) (fun _ _ _ h => h) (Or.inl ⟨by rfl, ?_⟩) (by assumption) ?_
        rotate_left
        focus (intro w hSw; (try dsimp only at hSw); go_simp; try with_reducible rfl)
        try simp only [Act.put, sb0, sb1, sb2]
        refine wpAnyH_take (i := 25) (oi := ⟨some 48, Op.load 33 (.tmp 47), 33, "lent.go:352", #[⟨24, .data⟩, ⟨21, .guard⟩], some (21, true)⟩) (v := ?_) rfl (by kernel_rfl) (by kernel_rfl) (by kernel_rfl) (fun _ _ _ h => h) (Or.inl ⟨by rfl, ?_⟩) (by assumption) ?_
        rotate_left
        focus (intro w hSw; (try dsimp only at hSw); go_simp; try with_reducible rfl)
        try simp only [Act.put, sb0, sb1, sb2]
        refine wpAnyH_take (i := 26) (oi := ⟨some 49, Op.move (.tmp 6), 3, "lent.go:352", #[⟨21, .guard⟩], some (21, true)⟩) (v := ?_) rfl (by kernel_rfl) (by kernel_rfl) (by kernel_rfl) (fun _ _ _ h => h) (Or.inl ⟨by rfl, ?_⟩) (by assumption) ?_
        rotate_left
        focus (intro w hSw; (try dsimp only at hSw); go_simp; try with_reducible rfl)
        try simp only [Act.put, sb0, sb1, sb2]
        refine wpAnyH_take (i := 27) (oi := ⟨some 50, Op.move (.tmp 1), 27, "lent.go:352", #[⟨21, .guard⟩], some (21, true)⟩) (v := ?_) rfl (by kernel_rfl) (by kernel_rfl) (by kernel_rfl) (fun _ _ _ h => h) (Or.inl ⟨by rfl, ?_⟩) (by assumption) ?_
        rotate_left
        focus (intro w hSw; (try dsimp only at hSw); go_simp; try with_reducible rfl)
        try simp only [Act.put, sb0, sb1, sb2]
        refine wpAnyH_take (i := 28) (oi := ⟨some 51, Op.call { callee := Callee.builtin Builtin.len, args := #[.tmp 50], argTypes := #[27] }, 3, "lent.go:352", #[⟨27, .data⟩, ⟨21, .guard⟩], some (21, true)⟩) (v := ?_) rfl (by kernel_rfl) (by kernel_rfl) (by kernel_rfl) (fun _ _ _ h => h) (Or.inl ⟨by rfl, ?_⟩) (by assumption) ?_
        rotate_left
        focus (intro w hSw; (try dsimp only at hSw); go_simp; try with_reducible rfl)
        try simp only [Act.put, sb0, sb1, sb2]
        refine wpAnyH_take (i := 29) (oi := ⟨some 52, Op.binOp BinOp.sub 3 (.tmp 49) (.tmp 51) 3, 3, "lent.go:352", #[⟨26, .data⟩, ⟨28, .data⟩, ⟨21, .guard⟩], some (21, true)⟩) (v := ?_) rfl (by kernel_rfl) (by kernel_rfl) (by kernel_rfl) (fun _ _ _ h => h) (Or.inl ⟨by rfl, ?_⟩) (by assumption) ?_
        rotate_left
        focus (intro w hSw; (try dsimp only at hSw); go_simp; try with_reducible rfl)
        try simp only [Act.put, sb0, sb1, sb2]
        refine wpAnyH_ready (rs := [30]) (by kernel_rfl) (by simp) ?_
        refine AllReadyH.cons (o := ⟨some 53, Op.call ⟨.value (.func 71), #[.const (.int .i64 1), .tmp 52], #[3, 3]⟩, 33, "lent.go:352", #[⟨29, .data⟩, ⟨21, .chain⟩, ⟨21, .guard⟩], some (21, true)⟩) rfl (fun K hK => ?_) AllReadyH.nil
        go_simp
        go_at_call 71
        refine (HMARK.out _ _ (by first | rfl | exact hwr)).mono ?_
        rintro e w6 ⟨rfl, hb6⟩
        have hq1 : World.cell? w6 ⟨g, k * 2, none⟩ = some (.int .i64 x) := keep_cell hb6 hc3
        have hq2 : World.cell? w6 ⟨g, k * 2 + 1, none⟩ = some (.int .i64 0) := keep_cell hb6 hc4
        have hq3 : Hid (Below w.heap.size w w6) := keep_below hb6 (bl_trans HB.out (bl_drew _))
        clear hb6
        try go_wp2_with fail
        refine hK.out _ _ ⟨hq1, hq2, hq3⟩ (fun hHeld2 => ?_)
        clear hK K
        try simp only [Act.put, sb0, sb1, sb2]
        refine wpAnyH_take (i := 31) (oi := ⟨some 54, Op.binOp BinOp.eql 33 (.tmp 48) (.tmp 53) 33, 4, "lent.go:352", #[⟨25, .data⟩, ⟨30, .data⟩, ⟨21, .guard⟩], some (21, true)⟩) (v := ?_) rfl (by kernel_rfl) (by kernel_rfl) (by kernel_rfl) (fun _ _ _ h => h) (Or.inl ⟨by rfl, ?_⟩) (by assumption) ?_
        rotate_left
        focus (intro w hSw; (try dsimp only at hSw); go_simp; try with_reducible rfl)
        try simp only [Act.put, sb0, sb1, sb2]
        refine wpAnyH_take (i := 32) (oi := ⟨some 55, Op.unOp UnOp.not 4 (.tmp 54), 4, "lent.go:352", #[⟨31, .data⟩, ⟨21, .guard⟩], some (21, true)⟩) (v := ?_) rfl (by kernel_rfl) (by kernel_rfl) (by kernel_rfl) (fun _ _ _ h => h) (Or.inl ⟨by rfl, ?_⟩) (by assumption) ?_
        rotate_left
        focus (intro w hSw; (try dsimp only at hSw); go_simp; try with_reducible rfl)
        try simp only [Act.put, sb0, sb1, sb2]
        refine wpAnyH_take (i := 33) (oi := ⟨some 56, Op.pick (.tmp 44) (.tmp 55) (.const (Value.bool false)), 4, "lent.go:352", #[⟨21, .data⟩, ⟨32, .data⟩, ⟨16, .guard⟩], some (16, false)⟩) (v := ?_) rfl (by kernel_rfl) (by kernel_rfl) (by kernel_rfl) (fun _ _ _ h => h) (Or.inl ⟨by rfl, ?_⟩) (by assumption) ?_
        rotate_left
        focus (intro w hSw; (try dsimp only at hSw); go_simp; try with_reducible rfl)
        try simp only [Act.put, sb0, sb1, sb2]
        refine wpAnyH_take (i := 34) (oi := ⟨some 57, Op.pick (.tmp 39) (.const (Value.bool true)) (.tmp 56), 4, "lent.go:352", #[⟨16, .data⟩, ⟨33, .data⟩], none⟩) (v := ?_) rfl (by kernel_rfl) (by kernel_rfl) (by kernel_rfl) (fun _ _ _ h => h) (Or.inl ⟨by rfl, ?_⟩) (by assumption) ?_
        rotate_left
        focus (intro w hSw; (try dsimp only at hSw); go_simp; try with_reducible rfl)
        try simp only [Act.put, sb0, sb1, sb2]
        refine wpAnyH_done (by kernel_rfl) ?_ _
        go_wp2
        go_roundw
        case rel => exact ⟨k + 1, by omega, by go_num, by assumption⟩
        case measure => simp [intOf]; omega
      · have hkJ : (n : Int) + 12 ≤ k := by omega
        go_wp2
        go_ret
        exact ⟨rfl, HB.out⟩
end Go.Proofs.YtglgfpapackcdaaGreat
