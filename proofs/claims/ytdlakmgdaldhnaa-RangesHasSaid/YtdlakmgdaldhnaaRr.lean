/- The walk of RangesHas: point by point. -/
import Derived.Test.YtdlakmgdaldhnaaRn
namespace Go.Proofs.Ytdlakmgdaldhnaa
open Go.RowKit Tnr

theorem has_told (p : Option Addr) (c m : Nat) (l : List R) (k : Int) (t : Bool) (w : World) (ht : hasB l k = t) (hm : m = l.length) (hp : SlR w p l) (hl : l.length ≤ 50000) :
    Calls Try.prog 22 #[.slice p m c, .int .i64 k] w fun e w' => e = .returned (.bool t) ∧ Below w.heap.size w w' := by
  subst hm ht
  exact has_any p c l k w hp (by omega)
theorem many_at (p : Option Addr) (c m : Nat) (l : List R) (x : Int) (w : World) (hx : x = mny l) (hm : m = l.length) (hp : SlR w p l) (hl : l.length ≤ 50000) :
    Calls Try.prog 20 #[.slice p m c] w fun e w' => e = .returned (.int .i64 x) ∧ Below w.heap.size w w' := by
  subst hm hx
  exact many_any p c l w hp hl
theorem least_at (p : Option Addr) (c m : Nat) (l : List R) (x : Int) (t : Bool) (w : World) (hx : (lst l).1 = x) (ht : (lst l).2 = t) (hm : m = l.length) (hp : SlR w p l) (hl : l.length ≤ 50000) :
    Calls Try.prog 21 #[.slice p m c] w fun e w' => e = .returned (.tuple #[.int .i64 x, .bool t]) ∧ Below w.heap.size w w' := by
  subst hm hx ht
  exact least_any p c l w hp hl
theorem great_two (p q : Option Addr) (c e : Nat) (a b : List R) (t : Bool) (W : World) (ht : t = decide (150 < 2 + (a.length + b.length))) (hp : SlR W p a) (hq : SlR W q b) (ha : a.length ≤ 1000000000000000) (hb : b.length ≤ 1000000000000000) :
    Calls Try.prog 6 #[.slice (some ⟨W.heap.size, 0, none⟩) 2 2] (W.alloc (.cells #[.slice p a.length c, .slice q b.length e] 29)) fun e w' => e = .returned (.bool t) ∧ Below W.heap.size W w' := by
  have ef : flat [(p, c, a), (q, e, b)] = a ++ b := by simp [flat]
  refine (great_any (some ⟨W.heap.size, 0, none⟩) 2 2 [(p, c, a), (q, e, b)] _ rfl (sls_new (fun x hx => by
    simp only [List.mem_cons, List.not_mem_nil, or_false] at hx
    rcases hx with rfl | rfl
    · exact hp
    · exact hq) rfl) (by simp) (fun x hx => by
    simp only [List.mem_cons, List.not_mem_nil, or_false] at hx
    rcases hx with rfl | rfl <;> simp only <;> omega)).mono ?_
  rintro e w' ⟨rfl, rfl⟩
  rw [ef, List.length_append] at *
  exact ⟨by rw [ht]; rfl, bl_alloc _ _⟩
theorem hasB_no {l : List R} {c : Int} (h : ¬ (0 ≤ c ∧ c ≤ 1114111)) : hasB l c = false := by
  unfold hasB; rw [decide_eq_false]; exact fun k => h ⟨k.1, k.2.1⟩
theorem hj_eq (a b : List R) (c : Int) : hasB (cn (a ++ b)) c = (hasB a c || hasB b c) := by
  unfold hasB
  rw [← Bool.decide_or]
  exact decide_eq_decide.2 (by rw [cn_has, has_append])
theorem hm_eq (a b : List R) (c : Int) : hasB (mt a b) c = (hasB a c && hasB b c) := by
  unfold hasB
  rw [← Bool.decide_and]
  exact decide_eq_decide.2 (mt_has a b c)
theorem hn_in {a : List R} {c : Int} (h : 0 ≤ c ∧ c ≤ 1114111) : hasB (ng a) c = !hasB a c := by
  unfold hasB
  rw [← decide_not]
  exact decide_eq_decide.2 (by rw [ng_has]; exact ⟨fun k => k.2.2, fun k => ⟨h.1, h.2, k⟩⟩)
theorem ho_in {ps : List Int} {c : Int} (h : 0 ≤ c ∧ c ≤ 1114111) (hc : c ∈ ps) : hasB (cn (pts ps)) c = true := by
  unfold hasB
  rw [decide_eq_true]
  rw [cn_has, pts_has]
  exact ⟨h.1, h.2, hc⟩
theorem least_is {a : List R} {c : Int} (h : hasB a c = true) : (lst a).2 = true ∧ (lst a).1 ≤ c := by
  have h1 : Has a c := of_decide_eq_true h
  rcases h2 : (lst a).2 with _ | _
  · exact absurd h1 (lst_no h2 c)
  · exact ⟨rfl, (lst_yes h2).2 c h1⟩
theorem gi_mem {l : List Int} {k : Nat} (h : k < l.length) : gi l k ∈ l := by
  unfold gi
  rw [List.getD_eq_getElem?_getD, List.getElem?_eq_getElem h]; exact List.getElem_mem h
theorem mny_cn (l : List R) : mny (cn l) = mny l := by
  rw [mny_cnt, mny_cnt, cnt_congr 1114112 fun c _ => cn_has l c]

set_option maxHeartbeats 25600000 in
set_option maxRecDepth 100000 in
theorem has_true (pa pb pp : Option Addr) (ka kb kp : Nat) (a b : List R) (ps : List Int) (w : World) (hI : (lst a).2 = true) (ha : SlR w pa a) (hb : SlR w pb b) (hp : SlI w pp ps) (la : a.length ≤ 1000000000000000) (lb : b.length ≤ 1000000000000000) (lp : ps.length ≤ 1000000000000000) :
    Calls Try.prog 5 #[.slice pa a.length ka, .slice pb b.length kb, .slice pp ps.length kp] w fun e w' => e = .returned (.bool true) ∧ Below w.heap.size w w' := by
  have HI := Lib.hid hI
  have Sa := Lib.hid ha
  have Sb := Lib.hid hb
  have SP := Lib.hid hp
  have La := Lib.hid la
  have Lb := Lib.hid lb
  obtain ⟨m, hm⟩ : ∃ m, m = ps.length := ⟨_, rfl⟩
  rw [← hm]
  have hmI : (m : Int) ≤ 1000000000000000 := by omega
  have HM := Lib.hid hm
  clear hI ha hb hp la lb lp hm
  obtain ⟨t, ht⟩ : ∃ t, t = decide (150 < 2 + (a.length + b.length)) := ⟨_, rfl⟩
  have HT := Lib.hid ht
  clear ht
  have K := Lib.hid (bl_refl w)
  go_enter Try.func5, Try.ntmps5
  go_wp2_with fail
  refine (awake_any w).mono ?_
  rintro e w1 ⟨rfl, hb⟩
  replace Sa := Lib.hid (Sa.out.below hb)
  replace Sb := Lib.hid (Sb.out.below hb)
  replace SP := Lib.hid (SP.out.below hb)
  replace K := Lib.hid (bl_trans K.out hb)
  clear hb
  go_wp2_with fail
  refine (great_two pa pb ka kb a b t w1 HT.out Sa.out Sb.out La.out Lb.out).mono ?_
  rintro e w2 ⟨rfl, hb⟩
  replace Sa := Lib.hid (Sa.out.below hb)
  replace Sb := Lib.hid (Sb.out.below hb)
  replace SP := Lib.hid (SP.out.below hb)
  replace K := Lib.hid (bl_trans K.out hb)
  clear hb
  cases t with
  | true =>
    go_wp2
    go_ret
    exact ⟨rfl, K.out⟩
  | false =>
  by_cases h150 : 150 < m
  · have h150I : 150 < (m : Int) := by omega
    go_wp2
    go_ret
    exact ⟨rfl, K.out⟩
  have hm150 : (m : Int) ≤ 150 := by omega
  have H150 : Hid (a.length + b.length ≤ 148 ∧ ps.length ≤ 150) := by
    have h := HT.out
    have h2 := of_decide_eq_false h.symm
    have h3 := HM.out
    exact ⟨by omega, by omega⟩
  clear HT La Lb h150 hmI
  obtain ⟨j, hj⟩ : ∃ l : List R, l = cn (a ++ b) := ⟨_, rfl⟩
  have Lj : Hid (j.length ≤ 200) := by
    show j.length ≤ 200
    rw [hj]
    have h1 := cn_length (a ++ b); rw [List.length_append] at h1; have := H150.out; omega
  have Ej := Lib.hid hj
  clear hj
  obtain ⟨m1, hm1⟩ : ∃ l : List R, l = mt a b := ⟨_, rfl⟩
  have Lm1 : Hid (m1.length ≤ 200) := by
    show m1.length ≤ 200
    rw [hm1]
    have h1 := mt_length a b; have := H150.out; omega
  have Em1 := Lib.hid hm1
  clear hm1
  obtain ⟨n, hn⟩ : ∃ l : List R, l = ng a := ⟨_, rfl⟩
  have Ln : Hid (n.length ≤ 200) := by
    show n.length ≤ 200
    rw [hn]
    have h1 := ng_length a; have := H150.out; omega
  have En := Lib.hid hn
  clear hn
  obtain ⟨o, ho⟩ : ∃ l : List R, l = cn (pts ps) := ⟨_, rfl⟩
  have Lo : Hid (o.length ≤ 200) := by
    show o.length ≤ 200
    rw [ho]
    have h1 := cn_length (pts ps); have h2 : (pts ps).length = ps.length := by simp [pts]
    have := H150.out; omega
  have Eo := Lib.hid ho
  clear ho
  go_wp2_with fail
  refine (join_two pa pb ka kb a.length b.length a b j w2 Ej.out rfl rfl Sa.out Sb.out (by have := H150.out; have := Lj.out; have := Lm1.out; have := Ln.out; have := Lo.out; omega)).mono ?_
  rintro e w3 ⟨pj, kj, rfl, hs, hb⟩
  replace Sa := Lib.hid (Sa.out.below hb)
  replace Sb := Lib.hid (Sb.out.below hb)
  replace SP := Lib.hid (SP.out.below hb)
  replace K := Lib.hid (bl_trans K.out hb)
  have Sj := Lib.hid hs
  clear hs
  clear hb
  go_wp2_with fail
  refine (meet_told pa pb ka kb a.length b.length a b m1 w3 Em1.out rfl rfl Sa.out Sb.out (by have := H150.out; have := Lj.out; have := Lm1.out; have := Ln.out; have := Lo.out; omega) (by have := H150.out; have := Lj.out; have := Lm1.out; have := Ln.out; have := Lo.out; omega)).mono ?_
  rintro e w4 ⟨pm1, km1, rfl, hs, hb⟩
  replace Sa := Lib.hid (Sa.out.below hb)
  replace Sb := Lib.hid (Sb.out.below hb)
  replace SP := Lib.hid (SP.out.below hb)
  replace Sj := Lib.hid (Sj.out.below hb)
  replace K := Lib.hid (bl_trans K.out hb)
  have Sm1 := Lib.hid hs
  clear hs
  clear hb
  go_wp2_with fail
  refine (not_told pa ka a.length a n w4 En.out rfl Sa.out (by have := H150.out; have := Lj.out; have := Lm1.out; have := Ln.out; have := Lo.out; omega)).mono ?_
  rintro e w5 ⟨pn, kn, rfl, hs, hb⟩
  replace Sa := Lib.hid (Sa.out.below hb)
  replace Sb := Lib.hid (Sb.out.below hb)
  replace SP := Lib.hid (SP.out.below hb)
  replace Sj := Lib.hid (Sj.out.below hb)
  replace Sm1 := Lib.hid (Sm1.out.below hb)
  replace K := Lib.hid (bl_trans K.out hb)
  have Sn := Lib.hid hs
  clear hs
  clear hb
  go_wp2_with fail
  refine (of_told pp kp m ps o w5 Eo.out HM.out SP.out (by have := H150.out; have := Lj.out; have := Lm1.out; have := Ln.out; have := Lo.out; omega)).mono ?_
  rintro e w6 ⟨po, ko, rfl, hs, hb⟩
  replace Sa := Lib.hid (Sa.out.below hb)
  replace Sb := Lib.hid (Sb.out.below hb)
  replace SP := Lib.hid (SP.out.below hb)
  replace Sj := Lib.hid (Sj.out.below hb)
  replace Sm1 := Lib.hid (Sm1.out.below hb)
  replace Sn := Lib.hid (Sn.out.below hb)
  replace K := Lib.hid (bl_trans K.out hb)
  have So := Lib.hid hs
  clear hs
  clear hb
  obtain ⟨le, hle⟩ : ∃ x, (lst a).1 = x := ⟨_, rfl⟩
  have HLE := Lib.hid hle
  clear hle
  go_wp2_with fail
  refine (least_at pa ka a.length a le true w6 HLE.out HI.out rfl Sa.out (by have := H150.out; have := Lj.out; have := Lm1.out; have := Ln.out; have := Lo.out; omega)).mono ?_
  rintro e w7 ⟨rfl, hb⟩
  replace Sa := Lib.hid (Sa.out.below hb)
  replace Sb := Lib.hid (Sb.out.below hb)
  replace SP := Lib.hid (SP.out.below hb)
  replace Sj := Lib.hid (Sj.out.below hb)
  replace Sm1 := Lib.hid (Sm1.out.below hb)
  replace Sn := Lib.hid (Sn.out.below hb)
  replace So := Lib.hid (So.out.below hb)
  replace K := Lib.hid (bl_trans K.out hb)
  clear hb
  go_wp2
  go_loopw [13] (fun iv wr => ∃ (k : Nat), k ≤ m ∧ iv = .int .i64 (k : Nat) ∧ Hid (Below w7.heap.size w7 wr)) (fun iv _ => m - (intOf iv).toNat)
  case atStart => exact ⟨0, Nat.zero_le _, rfl, bl_refl _⟩
  case round =>
    obtain ⟨k, hk, rfl, HB⟩ := hrel
    rename World => wr
    have hb := HB.out
    have K0 := K
    replace Sa := Lib.hid (Sa.out.below hb)
    replace Sb := Lib.hid (Sb.out.below hb)
    replace SP := Lib.hid (SP.out.below hb)
    replace Sj := Lib.hid (Sj.out.below hb)
    replace Sm1 := Lib.hid (Sm1.out.below hb)
    replace Sn := Lib.hid (Sn.out.below hb)
    replace So := Lib.hid (So.out.below hb)
    replace K := Lib.hid (bl_trans K.out hb)
    clear hb
    by_cases hkm : k < m
    · have hkp : k < ps.length := by have := HM.out; omega
      obtain ⟨b0, o0, rfl, hc⟩ := sli_at SP.out hkp
      have hkI : (k : Int) < m := by omega
      have HC := Lib.hid (gi_mem hkp)
      obtain ⟨c, hcc⟩ : ∃ c, c = gi ps k := ⟨_, rfl⟩
      rw [← hcc] at hc HC
      clear hcc hkp
      have HJ := Lib.hid (hj_eq a b c)
      have HMM := Lib.hid (hm_eq a b c)
      rw [← Ej.out] at HJ
      rw [← Em1.out] at HMM
      have K2 := HB
      by_cases hc0 : 0 ≤ c
      · by_cases hc1 : c ≤ 1114111
        · have HIN := Lib.hid (show 0 ≤ c ∧ c ≤ 1114111 from ⟨hc0, hc1⟩)
          have HO : Hid (hasB o c = true) := by
            show hasB o c = true
            rw [Eo.out]; exact ho_in HIN.out HC.out
          have HN0 : Hid (hasB n c = !hasB a c) := by
            show hasB n c = _
            rw [En.out]; exact hn_in HIN.out
          rcases hx : hasB a c with _ | _
          · have HX := Lib.hid hx
            have HN : Hid (hasB n c = true) := by
              show hasB n c = _
              rw [HN0.out, hx]; rfl
            clear hx HN0
            rcases hy : hasB b c with _ | _
            · have HY := Lib.hid hy
              clear hy
              go_wp2_with fail
              refine (has_told pa ka a.length a c false wr HX.out rfl Sa.out (by have := H150.out; have := Lj.out; have := Lm1.out; have := Ln.out; have := Lo.out; omega)).mono ?_
              rintro e w8 ⟨rfl, hb⟩
              replace Sa := Lib.hid (Sa.out.below hb)
              replace Sb := Lib.hid (Sb.out.below hb)
              replace SP := Lib.hid (SP.out.below hb)
              replace Sj := Lib.hid (Sj.out.below hb)
              replace Sm1 := Lib.hid (Sm1.out.below hb)
              replace Sn := Lib.hid (Sn.out.below hb)
              replace So := Lib.hid (So.out.below hb)
              replace K := Lib.hid (bl_trans K.out hb)
              replace K2 := Lib.hid (bl_trans K2.out hb)
              clear hb
              go_wp2_with fail
              refine (has_told pb kb b.length b c false w8 HY.out rfl Sb.out (by have := H150.out; have := Lj.out; have := Lm1.out; have := Ln.out; have := Lo.out; omega)).mono ?_
              rintro e w9 ⟨rfl, hb⟩
              replace Sa := Lib.hid (Sa.out.below hb)
              replace Sb := Lib.hid (Sb.out.below hb)
              replace SP := Lib.hid (SP.out.below hb)
              replace Sj := Lib.hid (Sj.out.below hb)
              replace Sm1 := Lib.hid (Sm1.out.below hb)
              replace Sn := Lib.hid (Sn.out.below hb)
              replace So := Lib.hid (So.out.below hb)
              replace K := Lib.hid (bl_trans K.out hb)
              replace K2 := Lib.hid (bl_trans K2.out hb)
              clear hb
              go_wp2_with fail
              refine (has_told pj kj j.length j c false w9 (by rw [HJ.out, HX.out, HY.out]; rfl) rfl Sj.out (by have := H150.out; have := Lj.out; have := Lm1.out; have := Ln.out; have := Lo.out; omega)).mono ?_
              rintro e w10 ⟨rfl, hb⟩
              replace Sa := Lib.hid (Sa.out.below hb)
              replace Sb := Lib.hid (Sb.out.below hb)
              replace SP := Lib.hid (SP.out.below hb)
              replace Sj := Lib.hid (Sj.out.below hb)
              replace Sm1 := Lib.hid (Sm1.out.below hb)
              replace Sn := Lib.hid (Sn.out.below hb)
              replace So := Lib.hid (So.out.below hb)
              replace K := Lib.hid (bl_trans K.out hb)
              replace K2 := Lib.hid (bl_trans K2.out hb)
              clear hb
              go_wp2_with fail
              refine (has_told pm1 km1 m1.length m1 c false w10 (by rw [HMM.out, HX.out, HY.out]; rfl) rfl Sm1.out (by have := H150.out; have := Lj.out; have := Lm1.out; have := Ln.out; have := Lo.out; omega)).mono ?_
              rintro e w11 ⟨rfl, hb⟩
              replace Sa := Lib.hid (Sa.out.below hb)
              replace Sb := Lib.hid (Sb.out.below hb)
              replace SP := Lib.hid (SP.out.below hb)
              replace Sj := Lib.hid (Sj.out.below hb)
              replace Sm1 := Lib.hid (Sm1.out.below hb)
              replace Sn := Lib.hid (Sn.out.below hb)
              replace So := Lib.hid (So.out.below hb)
              replace K := Lib.hid (bl_trans K.out hb)
              replace K2 := Lib.hid (bl_trans K2.out hb)
              clear hb
              go_wp2_with fail
              refine (has_told pn kn n.length n c true w11 HN.out rfl Sn.out (by have := H150.out; have := Lj.out; have := Lm1.out; have := Ln.out; have := Lo.out; omega)).mono ?_
              rintro e w12 ⟨rfl, hb⟩
              replace Sa := Lib.hid (Sa.out.below hb)
              replace Sb := Lib.hid (Sb.out.below hb)
              replace SP := Lib.hid (SP.out.below hb)
              replace Sj := Lib.hid (Sj.out.below hb)
              replace Sm1 := Lib.hid (Sm1.out.below hb)
              replace Sn := Lib.hid (Sn.out.below hb)
              replace So := Lib.hid (So.out.below hb)
              replace K := Lib.hid (bl_trans K.out hb)
              replace K2 := Lib.hid (bl_trans K2.out hb)
              clear hb
              go_wp2_with fail
              refine (has_told po ko o.length o c true w12 HO.out rfl So.out (by have := H150.out; have := Lj.out; have := Lm1.out; have := Ln.out; have := Lo.out; omega)).mono ?_
              rintro e w13 ⟨rfl, hb⟩
              replace Sa := Lib.hid (Sa.out.below hb)
              replace Sb := Lib.hid (Sb.out.below hb)
              replace SP := Lib.hid (SP.out.below hb)
              replace Sj := Lib.hid (Sj.out.below hb)
              replace Sm1 := Lib.hid (Sm1.out.below hb)
              replace Sn := Lib.hid (Sn.out.below hb)
              replace So := Lib.hid (So.out.below hb)
              replace K := Lib.hid (bl_trans K.out hb)
              replace K2 := Lib.hid (bl_trans K2.out hb)
              clear hb
              go_wp2
              go_roundw
              case rel => exact ⟨k + 1, by omega, by go_num, K2.out⟩
              case measure => simp [intOf]; omega
            · have HY := Lib.hid hy
              clear hy
              go_wp2_with fail
              refine (has_told pa ka a.length a c false wr HX.out rfl Sa.out (by have := H150.out; have := Lj.out; have := Lm1.out; have := Ln.out; have := Lo.out; omega)).mono ?_
              rintro e w8 ⟨rfl, hb⟩
              replace Sa := Lib.hid (Sa.out.below hb)
              replace Sb := Lib.hid (Sb.out.below hb)
              replace SP := Lib.hid (SP.out.below hb)
              replace Sj := Lib.hid (Sj.out.below hb)
              replace Sm1 := Lib.hid (Sm1.out.below hb)
              replace Sn := Lib.hid (Sn.out.below hb)
              replace So := Lib.hid (So.out.below hb)
              replace K := Lib.hid (bl_trans K.out hb)
              replace K2 := Lib.hid (bl_trans K2.out hb)
              clear hb
              go_wp2_with fail
              refine (has_told pb kb b.length b c true w8 HY.out rfl Sb.out (by have := H150.out; have := Lj.out; have := Lm1.out; have := Ln.out; have := Lo.out; omega)).mono ?_
              rintro e w9 ⟨rfl, hb⟩
              replace Sa := Lib.hid (Sa.out.below hb)
              replace Sb := Lib.hid (Sb.out.below hb)
              replace SP := Lib.hid (SP.out.below hb)
              replace Sj := Lib.hid (Sj.out.below hb)
              replace Sm1 := Lib.hid (Sm1.out.below hb)
              replace Sn := Lib.hid (Sn.out.below hb)
              replace So := Lib.hid (So.out.below hb)
              replace K := Lib.hid (bl_trans K.out hb)
              replace K2 := Lib.hid (bl_trans K2.out hb)
              clear hb
              go_wp2_with fail
              refine (has_told pj kj j.length j c true w9 (by rw [HJ.out, HX.out, HY.out]; rfl) rfl Sj.out (by have := H150.out; have := Lj.out; have := Lm1.out; have := Ln.out; have := Lo.out; omega)).mono ?_
              rintro e w10 ⟨rfl, hb⟩
              replace Sa := Lib.hid (Sa.out.below hb)
              replace Sb := Lib.hid (Sb.out.below hb)
              replace SP := Lib.hid (SP.out.below hb)
              replace Sj := Lib.hid (Sj.out.below hb)
              replace Sm1 := Lib.hid (Sm1.out.below hb)
              replace Sn := Lib.hid (Sn.out.below hb)
              replace So := Lib.hid (So.out.below hb)
              replace K := Lib.hid (bl_trans K.out hb)
              replace K2 := Lib.hid (bl_trans K2.out hb)
              clear hb
              go_wp2_with fail
              refine (has_told pm1 km1 m1.length m1 c false w10 (by rw [HMM.out, HX.out, HY.out]; rfl) rfl Sm1.out (by have := H150.out; have := Lj.out; have := Lm1.out; have := Ln.out; have := Lo.out; omega)).mono ?_
              rintro e w11 ⟨rfl, hb⟩
              replace Sa := Lib.hid (Sa.out.below hb)
              replace Sb := Lib.hid (Sb.out.below hb)
              replace SP := Lib.hid (SP.out.below hb)
              replace Sj := Lib.hid (Sj.out.below hb)
              replace Sm1 := Lib.hid (Sm1.out.below hb)
              replace Sn := Lib.hid (Sn.out.below hb)
              replace So := Lib.hid (So.out.below hb)
              replace K := Lib.hid (bl_trans K.out hb)
              replace K2 := Lib.hid (bl_trans K2.out hb)
              clear hb
              go_wp2_with fail
              refine (has_told pn kn n.length n c true w11 HN.out rfl Sn.out (by have := H150.out; have := Lj.out; have := Lm1.out; have := Ln.out; have := Lo.out; omega)).mono ?_
              rintro e w12 ⟨rfl, hb⟩
              replace Sa := Lib.hid (Sa.out.below hb)
              replace Sb := Lib.hid (Sb.out.below hb)
              replace SP := Lib.hid (SP.out.below hb)
              replace Sj := Lib.hid (Sj.out.below hb)
              replace Sm1 := Lib.hid (Sm1.out.below hb)
              replace Sn := Lib.hid (Sn.out.below hb)
              replace So := Lib.hid (So.out.below hb)
              replace K := Lib.hid (bl_trans K.out hb)
              replace K2 := Lib.hid (bl_trans K2.out hb)
              clear hb
              go_wp2_with fail
              refine (has_told po ko o.length o c true w12 HO.out rfl So.out (by have := H150.out; have := Lj.out; have := Lm1.out; have := Ln.out; have := Lo.out; omega)).mono ?_
              rintro e w13 ⟨rfl, hb⟩
              replace Sa := Lib.hid (Sa.out.below hb)
              replace Sb := Lib.hid (Sb.out.below hb)
              replace SP := Lib.hid (SP.out.below hb)
              replace Sj := Lib.hid (Sj.out.below hb)
              replace Sm1 := Lib.hid (Sm1.out.below hb)
              replace Sn := Lib.hid (Sn.out.below hb)
              replace So := Lib.hid (So.out.below hb)
              replace K := Lib.hid (bl_trans K.out hb)
              replace K2 := Lib.hid (bl_trans K2.out hb)
              clear hb
              go_wp2
              go_roundw
              case rel => exact ⟨k + 1, by omega, by go_num, K2.out⟩
              case measure => simp [intOf]; omega
          · have HX := Lib.hid hx
            have HN : Hid (hasB n c = false) := by
              show hasB n c = _
              rw [HN0.out, hx]; rfl
            have hle := (least_is hx).2
            rw [HLE.out] at hle
            clear hx HN0
            rcases hy : hasB b c with _ | _
            · have HY := Lib.hid hy
              clear hy
              go_wp2_with fail
              refine (has_told pa ka a.length a c true wr HX.out rfl Sa.out (by have := H150.out; have := Lj.out; have := Lm1.out; have := Ln.out; have := Lo.out; omega)).mono ?_
              rintro e w8 ⟨rfl, hb⟩
              replace Sa := Lib.hid (Sa.out.below hb)
              replace Sb := Lib.hid (Sb.out.below hb)
              replace SP := Lib.hid (SP.out.below hb)
              replace Sj := Lib.hid (Sj.out.below hb)
              replace Sm1 := Lib.hid (Sm1.out.below hb)
              replace Sn := Lib.hid (Sn.out.below hb)
              replace So := Lib.hid (So.out.below hb)
              replace K := Lib.hid (bl_trans K.out hb)
              replace K2 := Lib.hid (bl_trans K2.out hb)
              clear hb
              go_wp2_with fail
              refine (has_told pb kb b.length b c false w8 HY.out rfl Sb.out (by have := H150.out; have := Lj.out; have := Lm1.out; have := Ln.out; have := Lo.out; omega)).mono ?_
              rintro e w9 ⟨rfl, hb⟩
              replace Sa := Lib.hid (Sa.out.below hb)
              replace Sb := Lib.hid (Sb.out.below hb)
              replace SP := Lib.hid (SP.out.below hb)
              replace Sj := Lib.hid (Sj.out.below hb)
              replace Sm1 := Lib.hid (Sm1.out.below hb)
              replace Sn := Lib.hid (Sn.out.below hb)
              replace So := Lib.hid (So.out.below hb)
              replace K := Lib.hid (bl_trans K.out hb)
              replace K2 := Lib.hid (bl_trans K2.out hb)
              clear hb
              go_wp2_with fail
              refine (has_told pj kj j.length j c true w9 (by rw [HJ.out, HX.out, HY.out]; rfl) rfl Sj.out (by have := H150.out; have := Lj.out; have := Lm1.out; have := Ln.out; have := Lo.out; omega)).mono ?_
              rintro e w10 ⟨rfl, hb⟩
              replace Sa := Lib.hid (Sa.out.below hb)
              replace Sb := Lib.hid (Sb.out.below hb)
              replace SP := Lib.hid (SP.out.below hb)
              replace Sj := Lib.hid (Sj.out.below hb)
              replace Sm1 := Lib.hid (Sm1.out.below hb)
              replace Sn := Lib.hid (Sn.out.below hb)
              replace So := Lib.hid (So.out.below hb)
              replace K := Lib.hid (bl_trans K.out hb)
              replace K2 := Lib.hid (bl_trans K2.out hb)
              clear hb
              go_wp2_with fail
              refine (has_told pm1 km1 m1.length m1 c false w10 (by rw [HMM.out, HX.out, HY.out]; rfl) rfl Sm1.out (by have := H150.out; have := Lj.out; have := Lm1.out; have := Ln.out; have := Lo.out; omega)).mono ?_
              rintro e w11 ⟨rfl, hb⟩
              replace Sa := Lib.hid (Sa.out.below hb)
              replace Sb := Lib.hid (Sb.out.below hb)
              replace SP := Lib.hid (SP.out.below hb)
              replace Sj := Lib.hid (Sj.out.below hb)
              replace Sm1 := Lib.hid (Sm1.out.below hb)
              replace Sn := Lib.hid (Sn.out.below hb)
              replace So := Lib.hid (So.out.below hb)
              replace K := Lib.hid (bl_trans K.out hb)
              replace K2 := Lib.hid (bl_trans K2.out hb)
              clear hb
              go_wp2_with fail
              refine (has_told pn kn n.length n c false w11 HN.out rfl Sn.out (by have := H150.out; have := Lj.out; have := Lm1.out; have := Ln.out; have := Lo.out; omega)).mono ?_
              rintro e w12 ⟨rfl, hb⟩
              replace Sa := Lib.hid (Sa.out.below hb)
              replace Sb := Lib.hid (Sb.out.below hb)
              replace SP := Lib.hid (SP.out.below hb)
              replace Sj := Lib.hid (Sj.out.below hb)
              replace Sm1 := Lib.hid (Sm1.out.below hb)
              replace Sn := Lib.hid (Sn.out.below hb)
              replace So := Lib.hid (So.out.below hb)
              replace K := Lib.hid (bl_trans K.out hb)
              replace K2 := Lib.hid (bl_trans K2.out hb)
              clear hb
              go_wp2_with fail
              refine (has_told po ko o.length o c true w12 HO.out rfl So.out (by have := H150.out; have := Lj.out; have := Lm1.out; have := Ln.out; have := Lo.out; omega)).mono ?_
              rintro e w13 ⟨rfl, hb⟩
              replace Sa := Lib.hid (Sa.out.below hb)
              replace Sb := Lib.hid (Sb.out.below hb)
              replace SP := Lib.hid (SP.out.below hb)
              replace Sj := Lib.hid (Sj.out.below hb)
              replace Sm1 := Lib.hid (Sm1.out.below hb)
              replace Sn := Lib.hid (Sn.out.below hb)
              replace So := Lib.hid (So.out.below hb)
              replace K := Lib.hid (bl_trans K.out hb)
              replace K2 := Lib.hid (bl_trans K2.out hb)
              clear hb
              go_wp2
              go_roundw
              case rel => exact ⟨k + 1, by omega, by go_num, K2.out⟩
              case measure => simp [intOf]; omega
            · have HY := Lib.hid hy
              clear hy
              go_wp2_with fail
              refine (has_told pa ka a.length a c true wr HX.out rfl Sa.out (by have := H150.out; have := Lj.out; have := Lm1.out; have := Ln.out; have := Lo.out; omega)).mono ?_
              rintro e w8 ⟨rfl, hb⟩
              replace Sa := Lib.hid (Sa.out.below hb)
              replace Sb := Lib.hid (Sb.out.below hb)
              replace SP := Lib.hid (SP.out.below hb)
              replace Sj := Lib.hid (Sj.out.below hb)
              replace Sm1 := Lib.hid (Sm1.out.below hb)
              replace Sn := Lib.hid (Sn.out.below hb)
              replace So := Lib.hid (So.out.below hb)
              replace K := Lib.hid (bl_trans K.out hb)
              replace K2 := Lib.hid (bl_trans K2.out hb)
              clear hb
              go_wp2_with fail
              refine (has_told pb kb b.length b c true w8 HY.out rfl Sb.out (by have := H150.out; have := Lj.out; have := Lm1.out; have := Ln.out; have := Lo.out; omega)).mono ?_
              rintro e w9 ⟨rfl, hb⟩
              replace Sa := Lib.hid (Sa.out.below hb)
              replace Sb := Lib.hid (Sb.out.below hb)
              replace SP := Lib.hid (SP.out.below hb)
              replace Sj := Lib.hid (Sj.out.below hb)
              replace Sm1 := Lib.hid (Sm1.out.below hb)
              replace Sn := Lib.hid (Sn.out.below hb)
              replace So := Lib.hid (So.out.below hb)
              replace K := Lib.hid (bl_trans K.out hb)
              replace K2 := Lib.hid (bl_trans K2.out hb)
              clear hb
              go_wp2_with fail
              refine (has_told pj kj j.length j c true w9 (by rw [HJ.out, HX.out, HY.out]; rfl) rfl Sj.out (by have := H150.out; have := Lj.out; have := Lm1.out; have := Ln.out; have := Lo.out; omega)).mono ?_
              rintro e w10 ⟨rfl, hb⟩
              replace Sa := Lib.hid (Sa.out.below hb)
              replace Sb := Lib.hid (Sb.out.below hb)
              replace SP := Lib.hid (SP.out.below hb)
              replace Sj := Lib.hid (Sj.out.below hb)
              replace Sm1 := Lib.hid (Sm1.out.below hb)
              replace Sn := Lib.hid (Sn.out.below hb)
              replace So := Lib.hid (So.out.below hb)
              replace K := Lib.hid (bl_trans K.out hb)
              replace K2 := Lib.hid (bl_trans K2.out hb)
              clear hb
              go_wp2_with fail
              refine (has_told pm1 km1 m1.length m1 c true w10 (by rw [HMM.out, HX.out, HY.out]; rfl) rfl Sm1.out (by have := H150.out; have := Lj.out; have := Lm1.out; have := Ln.out; have := Lo.out; omega)).mono ?_
              rintro e w11 ⟨rfl, hb⟩
              replace Sa := Lib.hid (Sa.out.below hb)
              replace Sb := Lib.hid (Sb.out.below hb)
              replace SP := Lib.hid (SP.out.below hb)
              replace Sj := Lib.hid (Sj.out.below hb)
              replace Sm1 := Lib.hid (Sm1.out.below hb)
              replace Sn := Lib.hid (Sn.out.below hb)
              replace So := Lib.hid (So.out.below hb)
              replace K := Lib.hid (bl_trans K.out hb)
              replace K2 := Lib.hid (bl_trans K2.out hb)
              clear hb
              go_wp2_with fail
              refine (has_told pn kn n.length n c false w11 HN.out rfl Sn.out (by have := H150.out; have := Lj.out; have := Lm1.out; have := Ln.out; have := Lo.out; omega)).mono ?_
              rintro e w12 ⟨rfl, hb⟩
              replace Sa := Lib.hid (Sa.out.below hb)
              replace Sb := Lib.hid (Sb.out.below hb)
              replace SP := Lib.hid (SP.out.below hb)
              replace Sj := Lib.hid (Sj.out.below hb)
              replace Sm1 := Lib.hid (Sm1.out.below hb)
              replace Sn := Lib.hid (Sn.out.below hb)
              replace So := Lib.hid (So.out.below hb)
              replace K := Lib.hid (bl_trans K.out hb)
              replace K2 := Lib.hid (bl_trans K2.out hb)
              clear hb
              go_wp2_with fail
              refine (has_told po ko o.length o c true w12 HO.out rfl So.out (by have := H150.out; have := Lj.out; have := Lm1.out; have := Ln.out; have := Lo.out; omega)).mono ?_
              rintro e w13 ⟨rfl, hb⟩
              replace Sa := Lib.hid (Sa.out.below hb)
              replace Sb := Lib.hid (Sb.out.below hb)
              replace SP := Lib.hid (SP.out.below hb)
              replace Sj := Lib.hid (Sj.out.below hb)
              replace Sm1 := Lib.hid (Sm1.out.below hb)
              replace Sn := Lib.hid (Sn.out.below hb)
              replace So := Lib.hid (So.out.below hb)
              replace K := Lib.hid (bl_trans K.out hb)
              replace K2 := Lib.hid (bl_trans K2.out hb)
              clear hb
              go_wp2
              go_roundw
              case rel => exact ⟨k + 1, by omega, by go_num, K2.out⟩
              case measure => simp [intOf]; omega
        · have hc2 : 1114111 < c := by omega
          have HX : Hid (hasB a c = false) := hasB_no (by omega)
          have HY : Hid (hasB b c = false) := hasB_no (by omega)
          have HN : Hid (hasB n c = false) := hasB_no (by omega)
          have HO : Hid (hasB o c = false) := hasB_no (by omega)
          clear hc1
          go_wp2_with fail
          refine (has_told pa ka a.length a c false wr HX.out rfl Sa.out (by have := H150.out; have := Lj.out; have := Lm1.out; have := Ln.out; have := Lo.out; omega)).mono ?_
          rintro e w8 ⟨rfl, hb⟩
          replace Sa := Lib.hid (Sa.out.below hb)
          replace Sb := Lib.hid (Sb.out.below hb)
          replace SP := Lib.hid (SP.out.below hb)
          replace Sj := Lib.hid (Sj.out.below hb)
          replace Sm1 := Lib.hid (Sm1.out.below hb)
          replace Sn := Lib.hid (Sn.out.below hb)
          replace So := Lib.hid (So.out.below hb)
          replace K := Lib.hid (bl_trans K.out hb)
          replace K2 := Lib.hid (bl_trans K2.out hb)
          clear hb
          go_wp2_with fail
          refine (has_told pb kb b.length b c false w8 HY.out rfl Sb.out (by have := H150.out; have := Lj.out; have := Lm1.out; have := Ln.out; have := Lo.out; omega)).mono ?_
          rintro e w9 ⟨rfl, hb⟩
          replace Sa := Lib.hid (Sa.out.below hb)
          replace Sb := Lib.hid (Sb.out.below hb)
          replace SP := Lib.hid (SP.out.below hb)
          replace Sj := Lib.hid (Sj.out.below hb)
          replace Sm1 := Lib.hid (Sm1.out.below hb)
          replace Sn := Lib.hid (Sn.out.below hb)
          replace So := Lib.hid (So.out.below hb)
          replace K := Lib.hid (bl_trans K.out hb)
          replace K2 := Lib.hid (bl_trans K2.out hb)
          clear hb
          go_wp2_with fail
          refine (has_told pj kj j.length j c false w9 (by rw [HJ.out, HX.out, HY.out]; rfl) rfl Sj.out (by have := H150.out; have := Lj.out; have := Lm1.out; have := Ln.out; have := Lo.out; omega)).mono ?_
          rintro e w10 ⟨rfl, hb⟩
          replace Sa := Lib.hid (Sa.out.below hb)
          replace Sb := Lib.hid (Sb.out.below hb)
          replace SP := Lib.hid (SP.out.below hb)
          replace Sj := Lib.hid (Sj.out.below hb)
          replace Sm1 := Lib.hid (Sm1.out.below hb)
          replace Sn := Lib.hid (Sn.out.below hb)
          replace So := Lib.hid (So.out.below hb)
          replace K := Lib.hid (bl_trans K.out hb)
          replace K2 := Lib.hid (bl_trans K2.out hb)
          clear hb
          go_wp2_with fail
          refine (has_told pm1 km1 m1.length m1 c false w10 (by rw [HMM.out, HX.out, HY.out]; rfl) rfl Sm1.out (by have := H150.out; have := Lj.out; have := Lm1.out; have := Ln.out; have := Lo.out; omega)).mono ?_
          rintro e w11 ⟨rfl, hb⟩
          replace Sa := Lib.hid (Sa.out.below hb)
          replace Sb := Lib.hid (Sb.out.below hb)
          replace SP := Lib.hid (SP.out.below hb)
          replace Sj := Lib.hid (Sj.out.below hb)
          replace Sm1 := Lib.hid (Sm1.out.below hb)
          replace Sn := Lib.hid (Sn.out.below hb)
          replace So := Lib.hid (So.out.below hb)
          replace K := Lib.hid (bl_trans K.out hb)
          replace K2 := Lib.hid (bl_trans K2.out hb)
          clear hb
          go_wp2_with fail
          refine (has_told pn kn n.length n c false w11 HN.out rfl Sn.out (by have := H150.out; have := Lj.out; have := Lm1.out; have := Ln.out; have := Lo.out; omega)).mono ?_
          rintro e w12 ⟨rfl, hb⟩
          replace Sa := Lib.hid (Sa.out.below hb)
          replace Sb := Lib.hid (Sb.out.below hb)
          replace SP := Lib.hid (SP.out.below hb)
          replace Sj := Lib.hid (Sj.out.below hb)
          replace Sm1 := Lib.hid (Sm1.out.below hb)
          replace Sn := Lib.hid (Sn.out.below hb)
          replace So := Lib.hid (So.out.below hb)
          replace K := Lib.hid (bl_trans K.out hb)
          replace K2 := Lib.hid (bl_trans K2.out hb)
          clear hb
          go_wp2_with fail
          refine (has_told po ko o.length o c false w12 HO.out rfl So.out (by have := H150.out; have := Lj.out; have := Lm1.out; have := Ln.out; have := Lo.out; omega)).mono ?_
          rintro e w13 ⟨rfl, hb⟩
          replace Sa := Lib.hid (Sa.out.below hb)
          replace Sb := Lib.hid (Sb.out.below hb)
          replace SP := Lib.hid (SP.out.below hb)
          replace Sj := Lib.hid (Sj.out.below hb)
          replace Sm1 := Lib.hid (Sm1.out.below hb)
          replace Sn := Lib.hid (Sn.out.below hb)
          replace So := Lib.hid (So.out.below hb)
          replace K := Lib.hid (bl_trans K.out hb)
          replace K2 := Lib.hid (bl_trans K2.out hb)
          clear hb
          go_wp2
          go_roundw
          case rel => exact ⟨k + 1, by omega, by go_num, K2.out⟩
          case measure => simp [intOf]; omega
      · have hc2 : c < 0 := by omega
        have HX : Hid (hasB a c = false) := hasB_no (by omega)
        have HY : Hid (hasB b c = false) := hasB_no (by omega)
        have HN : Hid (hasB n c = false) := hasB_no (by omega)
        have HO : Hid (hasB o c = false) := hasB_no (by omega)
        clear hc0
        go_wp2_with fail
        refine (has_told pa ka a.length a c false wr HX.out rfl Sa.out (by have := H150.out; have := Lj.out; have := Lm1.out; have := Ln.out; have := Lo.out; omega)).mono ?_
        rintro e w8 ⟨rfl, hb⟩
        replace Sa := Lib.hid (Sa.out.below hb)
        replace Sb := Lib.hid (Sb.out.below hb)
        replace SP := Lib.hid (SP.out.below hb)
        replace Sj := Lib.hid (Sj.out.below hb)
        replace Sm1 := Lib.hid (Sm1.out.below hb)
        replace Sn := Lib.hid (Sn.out.below hb)
        replace So := Lib.hid (So.out.below hb)
        replace K := Lib.hid (bl_trans K.out hb)
        replace K2 := Lib.hid (bl_trans K2.out hb)
        clear hb
        go_wp2_with fail
        refine (has_told pb kb b.length b c false w8 HY.out rfl Sb.out (by have := H150.out; have := Lj.out; have := Lm1.out; have := Ln.out; have := Lo.out; omega)).mono ?_
        rintro e w9 ⟨rfl, hb⟩
        replace Sa := Lib.hid (Sa.out.below hb)
        replace Sb := Lib.hid (Sb.out.below hb)
        replace SP := Lib.hid (SP.out.below hb)
        replace Sj := Lib.hid (Sj.out.below hb)
        replace Sm1 := Lib.hid (Sm1.out.below hb)
        replace Sn := Lib.hid (Sn.out.below hb)
        replace So := Lib.hid (So.out.below hb)
        replace K := Lib.hid (bl_trans K.out hb)
        replace K2 := Lib.hid (bl_trans K2.out hb)
        clear hb
        go_wp2_with fail
        refine (has_told pj kj j.length j c false w9 (by rw [HJ.out, HX.out, HY.out]; rfl) rfl Sj.out (by have := H150.out; have := Lj.out; have := Lm1.out; have := Ln.out; have := Lo.out; omega)).mono ?_
        rintro e w10 ⟨rfl, hb⟩
        replace Sa := Lib.hid (Sa.out.below hb)
        replace Sb := Lib.hid (Sb.out.below hb)
        replace SP := Lib.hid (SP.out.below hb)
        replace Sj := Lib.hid (Sj.out.below hb)
        replace Sm1 := Lib.hid (Sm1.out.below hb)
        replace Sn := Lib.hid (Sn.out.below hb)
        replace So := Lib.hid (So.out.below hb)
        replace K := Lib.hid (bl_trans K.out hb)
        replace K2 := Lib.hid (bl_trans K2.out hb)
        clear hb
        go_wp2_with fail
        refine (has_told pm1 km1 m1.length m1 c false w10 (by rw [HMM.out, HX.out, HY.out]; rfl) rfl Sm1.out (by have := H150.out; have := Lj.out; have := Lm1.out; have := Ln.out; have := Lo.out; omega)).mono ?_
        rintro e w11 ⟨rfl, hb⟩
        replace Sa := Lib.hid (Sa.out.below hb)
        replace Sb := Lib.hid (Sb.out.below hb)
        replace SP := Lib.hid (SP.out.below hb)
        replace Sj := Lib.hid (Sj.out.below hb)
        replace Sm1 := Lib.hid (Sm1.out.below hb)
        replace Sn := Lib.hid (Sn.out.below hb)
        replace So := Lib.hid (So.out.below hb)
        replace K := Lib.hid (bl_trans K.out hb)
        replace K2 := Lib.hid (bl_trans K2.out hb)
        clear hb
        go_wp2_with fail
        refine (has_told pn kn n.length n c false w11 HN.out rfl Sn.out (by have := H150.out; have := Lj.out; have := Lm1.out; have := Ln.out; have := Lo.out; omega)).mono ?_
        rintro e w12 ⟨rfl, hb⟩
        replace Sa := Lib.hid (Sa.out.below hb)
        replace Sb := Lib.hid (Sb.out.below hb)
        replace SP := Lib.hid (SP.out.below hb)
        replace Sj := Lib.hid (Sj.out.below hb)
        replace Sm1 := Lib.hid (Sm1.out.below hb)
        replace Sn := Lib.hid (Sn.out.below hb)
        replace So := Lib.hid (So.out.below hb)
        replace K := Lib.hid (bl_trans K.out hb)
        replace K2 := Lib.hid (bl_trans K2.out hb)
        clear hb
        go_wp2_with fail
        refine (has_told po ko o.length o c false w12 HO.out rfl So.out (by have := H150.out; have := Lj.out; have := Lm1.out; have := Ln.out; have := Lo.out; omega)).mono ?_
        rintro e w13 ⟨rfl, hb⟩
        replace Sa := Lib.hid (Sa.out.below hb)
        replace Sb := Lib.hid (Sb.out.below hb)
        replace SP := Lib.hid (SP.out.below hb)
        replace Sj := Lib.hid (Sj.out.below hb)
        replace Sm1 := Lib.hid (Sm1.out.below hb)
        replace Sn := Lib.hid (Sn.out.below hb)
        replace So := Lib.hid (So.out.below hb)
        replace K := Lib.hid (bl_trans K.out hb)
        replace K2 := Lib.hid (bl_trans K2.out hb)
        clear hb
        go_wp2
        go_roundw
        case rel => exact ⟨k + 1, by omega, by go_num, K2.out⟩
        case measure => simp [intOf]; omega
    · have hkI : (m : Int) ≤ k := by omega
      obtain ⟨x1, hx1⟩ : ∃ x : Int, x = mny o := ⟨_, rfl⟩
      have Mx1 := Lib.hid hx1
      clear hx1
      obtain ⟨x2, hx2⟩ : ∃ x : Int, x = mny a := ⟨_, rfl⟩
      have Mx2 := Lib.hid hx2
      clear hx2
      have hx1 : x1 ≤ (m : Int) := by rw [Mx1.out, Eo.out, HM.out, mny_cn]; exact mny_pts ps
      have hpos := mny_pos a
      rw [HI.out, ← Mx2.out] at hpos
      have hx2 : 0 < x2 := of_decide_eq_true hpos.symm
      have HLH : Hid (hasB a le = true) := by
        show hasB a le = true
        unfold hasB
        rw [decide_eq_true]
        rw [← HLE.out]; exact (lst_yes HI.out).1
      clear hpos
      go_wp2_with fail
      refine (many_at po ko o.length o x1 wr Mx1.out rfl So.out (by have := H150.out; have := Lj.out; have := Lm1.out; have := Ln.out; have := Lo.out; omega)).mono ?_
      rintro e w8 ⟨rfl, hb⟩
      replace Sa := Lib.hid (Sa.out.below hb)
      replace Sb := Lib.hid (Sb.out.below hb)
      replace SP := Lib.hid (SP.out.below hb)
      replace Sj := Lib.hid (Sj.out.below hb)
      replace Sm1 := Lib.hid (Sm1.out.below hb)
      replace Sn := Lib.hid (Sn.out.below hb)
      replace So := Lib.hid (So.out.below hb)
      replace K := Lib.hid (bl_trans K.out hb)
      clear hb
      go_wp2_with fail
      refine (many_at pa ka a.length a x2 w8 Mx2.out rfl Sa.out (by have := H150.out; have := Lj.out; have := Lm1.out; have := Ln.out; have := Lo.out; omega)).mono ?_
      rintro e w9 ⟨rfl, hb⟩
      replace Sa := Lib.hid (Sa.out.below hb)
      replace Sb := Lib.hid (Sb.out.below hb)
      replace SP := Lib.hid (SP.out.below hb)
      replace Sj := Lib.hid (Sj.out.below hb)
      replace Sm1 := Lib.hid (Sm1.out.below hb)
      replace Sn := Lib.hid (Sn.out.below hb)
      replace So := Lib.hid (So.out.below hb)
      replace K := Lib.hid (bl_trans K.out hb)
      clear hb
      go_wp2_with fail
      refine (has_told pa ka a.length a le true w9 HLH.out rfl Sa.out (by have := H150.out; have := Lj.out; have := Lm1.out; have := Ln.out; have := Lo.out; omega)).mono ?_
      rintro e w10 ⟨rfl, hb⟩
      replace Sa := Lib.hid (Sa.out.below hb)
      replace Sb := Lib.hid (Sb.out.below hb)
      replace SP := Lib.hid (SP.out.below hb)
      replace Sj := Lib.hid (Sj.out.below hb)
      replace Sm1 := Lib.hid (Sm1.out.below hb)
      replace Sn := Lib.hid (Sn.out.below hb)
      replace So := Lib.hid (So.out.below hb)
      replace K := Lib.hid (bl_trans K.out hb)
      clear hb
      go_wp2
      go_ret
      exact ⟨rfl, K.out⟩

set_option maxHeartbeats 25600000 in
set_option maxRecDepth 100000 in
theorem has_false (pa pb pp : Option Addr) (ka kb kp : Nat) (a b : List R) (ps : List Int) (w : World) (hI : (lst a).2 = false) (ha : SlR w pa a) (hb : SlR w pb b) (hp : SlI w pp ps) (la : a.length ≤ 1000000000000000) (lb : b.length ≤ 1000000000000000) (lp : ps.length ≤ 1000000000000000) :
    Calls Try.prog 5 #[.slice pa a.length ka, .slice pb b.length kb, .slice pp ps.length kp] w fun e w' => e = .returned (.bool true) ∧ Below w.heap.size w w' := by
  have HI := Lib.hid hI
  have Sa := Lib.hid ha
  have Sb := Lib.hid hb
  have SP := Lib.hid hp
  have La := Lib.hid la
  have Lb := Lib.hid lb
  obtain ⟨m, hm⟩ : ∃ m, m = ps.length := ⟨_, rfl⟩
  rw [← hm]
  have hmI : (m : Int) ≤ 1000000000000000 := by omega
  have HM := Lib.hid hm
  clear hI ha hb hp la lb lp hm
  obtain ⟨t, ht⟩ : ∃ t, t = decide (150 < 2 + (a.length + b.length)) := ⟨_, rfl⟩
  have HT := Lib.hid ht
  clear ht
  have K := Lib.hid (bl_refl w)
  go_enter Try.func5, Try.ntmps5
  go_wp2_with fail
  refine (awake_any w).mono ?_
  rintro e w1 ⟨rfl, hb⟩
  replace Sa := Lib.hid (Sa.out.below hb)
  replace Sb := Lib.hid (Sb.out.below hb)
  replace SP := Lib.hid (SP.out.below hb)
  replace K := Lib.hid (bl_trans K.out hb)
  clear hb
  go_wp2_with fail
  refine (great_two pa pb ka kb a b t w1 HT.out Sa.out Sb.out La.out Lb.out).mono ?_
  rintro e w2 ⟨rfl, hb⟩
  replace Sa := Lib.hid (Sa.out.below hb)
  replace Sb := Lib.hid (Sb.out.below hb)
  replace SP := Lib.hid (SP.out.below hb)
  replace K := Lib.hid (bl_trans K.out hb)
  clear hb
  cases t with
  | true =>
    go_wp2
    go_ret
    exact ⟨rfl, K.out⟩
  | false =>
  by_cases h150 : 150 < m
  · have h150I : 150 < (m : Int) := by omega
    go_wp2
    go_ret
    exact ⟨rfl, K.out⟩
  have hm150 : (m : Int) ≤ 150 := by omega
  have H150 : Hid (a.length + b.length ≤ 148 ∧ ps.length ≤ 150) := by
    have h := HT.out
    have h2 := of_decide_eq_false h.symm
    have h3 := HM.out
    exact ⟨by omega, by omega⟩
  clear HT La Lb h150 hmI
  obtain ⟨j, hj⟩ : ∃ l : List R, l = cn (a ++ b) := ⟨_, rfl⟩
  have Lj : Hid (j.length ≤ 200) := by
    show j.length ≤ 200
    rw [hj]
    have h1 := cn_length (a ++ b); rw [List.length_append] at h1; have := H150.out; omega
  have Ej := Lib.hid hj
  clear hj
  obtain ⟨m1, hm1⟩ : ∃ l : List R, l = mt a b := ⟨_, rfl⟩
  have Lm1 : Hid (m1.length ≤ 200) := by
    show m1.length ≤ 200
    rw [hm1]
    have h1 := mt_length a b; have := H150.out; omega
  have Em1 := Lib.hid hm1
  clear hm1
  obtain ⟨n, hn⟩ : ∃ l : List R, l = ng a := ⟨_, rfl⟩
  have Ln : Hid (n.length ≤ 200) := by
    show n.length ≤ 200
    rw [hn]
    have h1 := ng_length a; have := H150.out; omega
  have En := Lib.hid hn
  clear hn
  obtain ⟨o, ho⟩ : ∃ l : List R, l = cn (pts ps) := ⟨_, rfl⟩
  have Lo : Hid (o.length ≤ 200) := by
    show o.length ≤ 200
    rw [ho]
    have h1 := cn_length (pts ps); have h2 : (pts ps).length = ps.length := by simp [pts]
    have := H150.out; omega
  have Eo := Lib.hid ho
  clear ho
  go_wp2_with fail
  refine (join_two pa pb ka kb a.length b.length a b j w2 Ej.out rfl rfl Sa.out Sb.out (by have := H150.out; have := Lj.out; have := Lm1.out; have := Ln.out; have := Lo.out; omega)).mono ?_
  rintro e w3 ⟨pj, kj, rfl, hs, hb⟩
  replace Sa := Lib.hid (Sa.out.below hb)
  replace Sb := Lib.hid (Sb.out.below hb)
  replace SP := Lib.hid (SP.out.below hb)
  replace K := Lib.hid (bl_trans K.out hb)
  have Sj := Lib.hid hs
  clear hs
  clear hb
  go_wp2_with fail
  refine (meet_told pa pb ka kb a.length b.length a b m1 w3 Em1.out rfl rfl Sa.out Sb.out (by have := H150.out; have := Lj.out; have := Lm1.out; have := Ln.out; have := Lo.out; omega) (by have := H150.out; have := Lj.out; have := Lm1.out; have := Ln.out; have := Lo.out; omega)).mono ?_
  rintro e w4 ⟨pm1, km1, rfl, hs, hb⟩
  replace Sa := Lib.hid (Sa.out.below hb)
  replace Sb := Lib.hid (Sb.out.below hb)
  replace SP := Lib.hid (SP.out.below hb)
  replace Sj := Lib.hid (Sj.out.below hb)
  replace K := Lib.hid (bl_trans K.out hb)
  have Sm1 := Lib.hid hs
  clear hs
  clear hb
  go_wp2_with fail
  refine (not_told pa ka a.length a n w4 En.out rfl Sa.out (by have := H150.out; have := Lj.out; have := Lm1.out; have := Ln.out; have := Lo.out; omega)).mono ?_
  rintro e w5 ⟨pn, kn, rfl, hs, hb⟩
  replace Sa := Lib.hid (Sa.out.below hb)
  replace Sb := Lib.hid (Sb.out.below hb)
  replace SP := Lib.hid (SP.out.below hb)
  replace Sj := Lib.hid (Sj.out.below hb)
  replace Sm1 := Lib.hid (Sm1.out.below hb)
  replace K := Lib.hid (bl_trans K.out hb)
  have Sn := Lib.hid hs
  clear hs
  clear hb
  go_wp2_with fail
  refine (of_told pp kp m ps o w5 Eo.out HM.out SP.out (by have := H150.out; have := Lj.out; have := Lm1.out; have := Ln.out; have := Lo.out; omega)).mono ?_
  rintro e w6 ⟨po, ko, rfl, hs, hb⟩
  replace Sa := Lib.hid (Sa.out.below hb)
  replace Sb := Lib.hid (Sb.out.below hb)
  replace SP := Lib.hid (SP.out.below hb)
  replace Sj := Lib.hid (Sj.out.below hb)
  replace Sm1 := Lib.hid (Sm1.out.below hb)
  replace Sn := Lib.hid (Sn.out.below hb)
  replace K := Lib.hid (bl_trans K.out hb)
  have So := Lib.hid hs
  clear hs
  clear hb
  obtain ⟨le, hle⟩ : ∃ x, (lst a).1 = x := ⟨_, rfl⟩
  have HLE := Lib.hid hle
  clear hle
  go_wp2_with fail
  refine (least_at pa ka a.length a le false w6 HLE.out HI.out rfl Sa.out (by have := H150.out; have := Lj.out; have := Lm1.out; have := Ln.out; have := Lo.out; omega)).mono ?_
  rintro e w7 ⟨rfl, hb⟩
  replace Sa := Lib.hid (Sa.out.below hb)
  replace Sb := Lib.hid (Sb.out.below hb)
  replace SP := Lib.hid (SP.out.below hb)
  replace Sj := Lib.hid (Sj.out.below hb)
  replace Sm1 := Lib.hid (Sm1.out.below hb)
  replace Sn := Lib.hid (Sn.out.below hb)
  replace So := Lib.hid (So.out.below hb)
  replace K := Lib.hid (bl_trans K.out hb)
  clear hb
  go_wp2
  go_loopw [13] (fun iv wr => ∃ (k : Nat), k ≤ m ∧ iv = .int .i64 (k : Nat) ∧ Hid (Below w7.heap.size w7 wr)) (fun iv _ => m - (intOf iv).toNat)
  case atStart => exact ⟨0, Nat.zero_le _, rfl, bl_refl _⟩
  case round =>
    obtain ⟨k, hk, rfl, HB⟩ := hrel
    rename World => wr
    have hb := HB.out
    have K0 := K
    replace Sa := Lib.hid (Sa.out.below hb)
    replace Sb := Lib.hid (Sb.out.below hb)
    replace SP := Lib.hid (SP.out.below hb)
    replace Sj := Lib.hid (Sj.out.below hb)
    replace Sm1 := Lib.hid (Sm1.out.below hb)
    replace Sn := Lib.hid (Sn.out.below hb)
    replace So := Lib.hid (So.out.below hb)
    replace K := Lib.hid (bl_trans K.out hb)
    clear hb
    by_cases hkm : k < m
    · have hkp : k < ps.length := by have := HM.out; omega
      obtain ⟨b0, o0, rfl, hc⟩ := sli_at SP.out hkp
      have hkI : (k : Int) < m := by omega
      have HC := Lib.hid (gi_mem hkp)
      obtain ⟨c, hcc⟩ : ∃ c, c = gi ps k := ⟨_, rfl⟩
      rw [← hcc] at hc HC
      clear hcc hkp
      have HJ := Lib.hid (hj_eq a b c)
      have HMM := Lib.hid (hm_eq a b c)
      rw [← Ej.out] at HJ
      rw [← Em1.out] at HMM
      have K2 := HB
      by_cases hc0 : 0 ≤ c
      · by_cases hc1 : c ≤ 1114111
        · have HIN := Lib.hid (show 0 ≤ c ∧ c ≤ 1114111 from ⟨hc0, hc1⟩)
          have HO : Hid (hasB o c = true) := by
            show hasB o c = true
            rw [Eo.out]; exact ho_in HIN.out HC.out
          have HN0 : Hid (hasB n c = !hasB a c) := by
            show hasB n c = _
            rw [En.out]; exact hn_in HIN.out
          rcases hx : hasB a c with _ | _
          · have HX := Lib.hid hx
            have HN : Hid (hasB n c = true) := by
              show hasB n c = _
              rw [HN0.out, hx]; rfl
            clear hx HN0
            rcases hy : hasB b c with _ | _
            · have HY := Lib.hid hy
              clear hy
              go_wp2_with fail
              refine (has_told pa ka a.length a c false wr HX.out rfl Sa.out (by have := H150.out; have := Lj.out; have := Lm1.out; have := Ln.out; have := Lo.out; omega)).mono ?_
              rintro e w8 ⟨rfl, hb⟩
              replace Sa := Lib.hid (Sa.out.below hb)
              replace Sb := Lib.hid (Sb.out.below hb)
              replace SP := Lib.hid (SP.out.below hb)
              replace Sj := Lib.hid (Sj.out.below hb)
              replace Sm1 := Lib.hid (Sm1.out.below hb)
              replace Sn := Lib.hid (Sn.out.below hb)
              replace So := Lib.hid (So.out.below hb)
              replace K := Lib.hid (bl_trans K.out hb)
              replace K2 := Lib.hid (bl_trans K2.out hb)
              clear hb
              go_wp2_with fail
              refine (has_told pb kb b.length b c false w8 HY.out rfl Sb.out (by have := H150.out; have := Lj.out; have := Lm1.out; have := Ln.out; have := Lo.out; omega)).mono ?_
              rintro e w9 ⟨rfl, hb⟩
              replace Sa := Lib.hid (Sa.out.below hb)
              replace Sb := Lib.hid (Sb.out.below hb)
              replace SP := Lib.hid (SP.out.below hb)
              replace Sj := Lib.hid (Sj.out.below hb)
              replace Sm1 := Lib.hid (Sm1.out.below hb)
              replace Sn := Lib.hid (Sn.out.below hb)
              replace So := Lib.hid (So.out.below hb)
              replace K := Lib.hid (bl_trans K.out hb)
              replace K2 := Lib.hid (bl_trans K2.out hb)
              clear hb
              go_wp2_with fail
              refine (has_told pj kj j.length j c false w9 (by rw [HJ.out, HX.out, HY.out]; rfl) rfl Sj.out (by have := H150.out; have := Lj.out; have := Lm1.out; have := Ln.out; have := Lo.out; omega)).mono ?_
              rintro e w10 ⟨rfl, hb⟩
              replace Sa := Lib.hid (Sa.out.below hb)
              replace Sb := Lib.hid (Sb.out.below hb)
              replace SP := Lib.hid (SP.out.below hb)
              replace Sj := Lib.hid (Sj.out.below hb)
              replace Sm1 := Lib.hid (Sm1.out.below hb)
              replace Sn := Lib.hid (Sn.out.below hb)
              replace So := Lib.hid (So.out.below hb)
              replace K := Lib.hid (bl_trans K.out hb)
              replace K2 := Lib.hid (bl_trans K2.out hb)
              clear hb
              go_wp2_with fail
              refine (has_told pm1 km1 m1.length m1 c false w10 (by rw [HMM.out, HX.out, HY.out]; rfl) rfl Sm1.out (by have := H150.out; have := Lj.out; have := Lm1.out; have := Ln.out; have := Lo.out; omega)).mono ?_
              rintro e w11 ⟨rfl, hb⟩
              replace Sa := Lib.hid (Sa.out.below hb)
              replace Sb := Lib.hid (Sb.out.below hb)
              replace SP := Lib.hid (SP.out.below hb)
              replace Sj := Lib.hid (Sj.out.below hb)
              replace Sm1 := Lib.hid (Sm1.out.below hb)
              replace Sn := Lib.hid (Sn.out.below hb)
              replace So := Lib.hid (So.out.below hb)
              replace K := Lib.hid (bl_trans K.out hb)
              replace K2 := Lib.hid (bl_trans K2.out hb)
              clear hb
              go_wp2_with fail
              refine (has_told pn kn n.length n c true w11 HN.out rfl Sn.out (by have := H150.out; have := Lj.out; have := Lm1.out; have := Ln.out; have := Lo.out; omega)).mono ?_
              rintro e w12 ⟨rfl, hb⟩
              replace Sa := Lib.hid (Sa.out.below hb)
              replace Sb := Lib.hid (Sb.out.below hb)
              replace SP := Lib.hid (SP.out.below hb)
              replace Sj := Lib.hid (Sj.out.below hb)
              replace Sm1 := Lib.hid (Sm1.out.below hb)
              replace Sn := Lib.hid (Sn.out.below hb)
              replace So := Lib.hid (So.out.below hb)
              replace K := Lib.hid (bl_trans K.out hb)
              replace K2 := Lib.hid (bl_trans K2.out hb)
              clear hb
              go_wp2_with fail
              refine (has_told po ko o.length o c true w12 HO.out rfl So.out (by have := H150.out; have := Lj.out; have := Lm1.out; have := Ln.out; have := Lo.out; omega)).mono ?_
              rintro e w13 ⟨rfl, hb⟩
              replace Sa := Lib.hid (Sa.out.below hb)
              replace Sb := Lib.hid (Sb.out.below hb)
              replace SP := Lib.hid (SP.out.below hb)
              replace Sj := Lib.hid (Sj.out.below hb)
              replace Sm1 := Lib.hid (Sm1.out.below hb)
              replace Sn := Lib.hid (Sn.out.below hb)
              replace So := Lib.hid (So.out.below hb)
              replace K := Lib.hid (bl_trans K.out hb)
              replace K2 := Lib.hid (bl_trans K2.out hb)
              clear hb
              go_wp2
              go_roundw
              case rel => exact ⟨k + 1, by omega, by go_num, K2.out⟩
              case measure => simp [intOf]; omega
            · have HY := Lib.hid hy
              clear hy
              go_wp2_with fail
              refine (has_told pa ka a.length a c false wr HX.out rfl Sa.out (by have := H150.out; have := Lj.out; have := Lm1.out; have := Ln.out; have := Lo.out; omega)).mono ?_
              rintro e w8 ⟨rfl, hb⟩
              replace Sa := Lib.hid (Sa.out.below hb)
              replace Sb := Lib.hid (Sb.out.below hb)
              replace SP := Lib.hid (SP.out.below hb)
              replace Sj := Lib.hid (Sj.out.below hb)
              replace Sm1 := Lib.hid (Sm1.out.below hb)
              replace Sn := Lib.hid (Sn.out.below hb)
              replace So := Lib.hid (So.out.below hb)
              replace K := Lib.hid (bl_trans K.out hb)
              replace K2 := Lib.hid (bl_trans K2.out hb)
              clear hb
              go_wp2_with fail
              refine (has_told pb kb b.length b c true w8 HY.out rfl Sb.out (by have := H150.out; have := Lj.out; have := Lm1.out; have := Ln.out; have := Lo.out; omega)).mono ?_
              rintro e w9 ⟨rfl, hb⟩
              replace Sa := Lib.hid (Sa.out.below hb)
              replace Sb := Lib.hid (Sb.out.below hb)
              replace SP := Lib.hid (SP.out.below hb)
              replace Sj := Lib.hid (Sj.out.below hb)
              replace Sm1 := Lib.hid (Sm1.out.below hb)
              replace Sn := Lib.hid (Sn.out.below hb)
              replace So := Lib.hid (So.out.below hb)
              replace K := Lib.hid (bl_trans K.out hb)
              replace K2 := Lib.hid (bl_trans K2.out hb)
              clear hb
              go_wp2_with fail
              refine (has_told pj kj j.length j c true w9 (by rw [HJ.out, HX.out, HY.out]; rfl) rfl Sj.out (by have := H150.out; have := Lj.out; have := Lm1.out; have := Ln.out; have := Lo.out; omega)).mono ?_
              rintro e w10 ⟨rfl, hb⟩
              replace Sa := Lib.hid (Sa.out.below hb)
              replace Sb := Lib.hid (Sb.out.below hb)
              replace SP := Lib.hid (SP.out.below hb)
              replace Sj := Lib.hid (Sj.out.below hb)
              replace Sm1 := Lib.hid (Sm1.out.below hb)
              replace Sn := Lib.hid (Sn.out.below hb)
              replace So := Lib.hid (So.out.below hb)
              replace K := Lib.hid (bl_trans K.out hb)
              replace K2 := Lib.hid (bl_trans K2.out hb)
              clear hb
              go_wp2_with fail
              refine (has_told pm1 km1 m1.length m1 c false w10 (by rw [HMM.out, HX.out, HY.out]; rfl) rfl Sm1.out (by have := H150.out; have := Lj.out; have := Lm1.out; have := Ln.out; have := Lo.out; omega)).mono ?_
              rintro e w11 ⟨rfl, hb⟩
              replace Sa := Lib.hid (Sa.out.below hb)
              replace Sb := Lib.hid (Sb.out.below hb)
              replace SP := Lib.hid (SP.out.below hb)
              replace Sj := Lib.hid (Sj.out.below hb)
              replace Sm1 := Lib.hid (Sm1.out.below hb)
              replace Sn := Lib.hid (Sn.out.below hb)
              replace So := Lib.hid (So.out.below hb)
              replace K := Lib.hid (bl_trans K.out hb)
              replace K2 := Lib.hid (bl_trans K2.out hb)
              clear hb
              go_wp2_with fail
              refine (has_told pn kn n.length n c true w11 HN.out rfl Sn.out (by have := H150.out; have := Lj.out; have := Lm1.out; have := Ln.out; have := Lo.out; omega)).mono ?_
              rintro e w12 ⟨rfl, hb⟩
              replace Sa := Lib.hid (Sa.out.below hb)
              replace Sb := Lib.hid (Sb.out.below hb)
              replace SP := Lib.hid (SP.out.below hb)
              replace Sj := Lib.hid (Sj.out.below hb)
              replace Sm1 := Lib.hid (Sm1.out.below hb)
              replace Sn := Lib.hid (Sn.out.below hb)
              replace So := Lib.hid (So.out.below hb)
              replace K := Lib.hid (bl_trans K.out hb)
              replace K2 := Lib.hid (bl_trans K2.out hb)
              clear hb
              go_wp2_with fail
              refine (has_told po ko o.length o c true w12 HO.out rfl So.out (by have := H150.out; have := Lj.out; have := Lm1.out; have := Ln.out; have := Lo.out; omega)).mono ?_
              rintro e w13 ⟨rfl, hb⟩
              replace Sa := Lib.hid (Sa.out.below hb)
              replace Sb := Lib.hid (Sb.out.below hb)
              replace SP := Lib.hid (SP.out.below hb)
              replace Sj := Lib.hid (Sj.out.below hb)
              replace Sm1 := Lib.hid (Sm1.out.below hb)
              replace Sn := Lib.hid (Sn.out.below hb)
              replace So := Lib.hid (So.out.below hb)
              replace K := Lib.hid (bl_trans K.out hb)
              replace K2 := Lib.hid (bl_trans K2.out hb)
              clear hb
              go_wp2
              go_roundw
              case rel => exact ⟨k + 1, by omega, by go_num, K2.out⟩
              case measure => simp [intOf]; omega
          · have := (least_is hx).1
            rw [HI.out] at this; simp at this
        · have hc2 : 1114111 < c := by omega
          have HX : Hid (hasB a c = false) := hasB_no (by omega)
          have HY : Hid (hasB b c = false) := hasB_no (by omega)
          have HN : Hid (hasB n c = false) := hasB_no (by omega)
          have HO : Hid (hasB o c = false) := hasB_no (by omega)
          clear hc1
          go_wp2_with fail
          refine (has_told pa ka a.length a c false wr HX.out rfl Sa.out (by have := H150.out; have := Lj.out; have := Lm1.out; have := Ln.out; have := Lo.out; omega)).mono ?_
          rintro e w8 ⟨rfl, hb⟩
          replace Sa := Lib.hid (Sa.out.below hb)
          replace Sb := Lib.hid (Sb.out.below hb)
          replace SP := Lib.hid (SP.out.below hb)
          replace Sj := Lib.hid (Sj.out.below hb)
          replace Sm1 := Lib.hid (Sm1.out.below hb)
          replace Sn := Lib.hid (Sn.out.below hb)
          replace So := Lib.hid (So.out.below hb)
          replace K := Lib.hid (bl_trans K.out hb)
          replace K2 := Lib.hid (bl_trans K2.out hb)
          clear hb
          go_wp2_with fail
          refine (has_told pb kb b.length b c false w8 HY.out rfl Sb.out (by have := H150.out; have := Lj.out; have := Lm1.out; have := Ln.out; have := Lo.out; omega)).mono ?_
          rintro e w9 ⟨rfl, hb⟩
          replace Sa := Lib.hid (Sa.out.below hb)
          replace Sb := Lib.hid (Sb.out.below hb)
          replace SP := Lib.hid (SP.out.below hb)
          replace Sj := Lib.hid (Sj.out.below hb)
          replace Sm1 := Lib.hid (Sm1.out.below hb)
          replace Sn := Lib.hid (Sn.out.below hb)
          replace So := Lib.hid (So.out.below hb)
          replace K := Lib.hid (bl_trans K.out hb)
          replace K2 := Lib.hid (bl_trans K2.out hb)
          clear hb
          go_wp2_with fail
          refine (has_told pj kj j.length j c false w9 (by rw [HJ.out, HX.out, HY.out]; rfl) rfl Sj.out (by have := H150.out; have := Lj.out; have := Lm1.out; have := Ln.out; have := Lo.out; omega)).mono ?_
          rintro e w10 ⟨rfl, hb⟩
          replace Sa := Lib.hid (Sa.out.below hb)
          replace Sb := Lib.hid (Sb.out.below hb)
          replace SP := Lib.hid (SP.out.below hb)
          replace Sj := Lib.hid (Sj.out.below hb)
          replace Sm1 := Lib.hid (Sm1.out.below hb)
          replace Sn := Lib.hid (Sn.out.below hb)
          replace So := Lib.hid (So.out.below hb)
          replace K := Lib.hid (bl_trans K.out hb)
          replace K2 := Lib.hid (bl_trans K2.out hb)
          clear hb
          go_wp2_with fail
          refine (has_told pm1 km1 m1.length m1 c false w10 (by rw [HMM.out, HX.out, HY.out]; rfl) rfl Sm1.out (by have := H150.out; have := Lj.out; have := Lm1.out; have := Ln.out; have := Lo.out; omega)).mono ?_
          rintro e w11 ⟨rfl, hb⟩
          replace Sa := Lib.hid (Sa.out.below hb)
          replace Sb := Lib.hid (Sb.out.below hb)
          replace SP := Lib.hid (SP.out.below hb)
          replace Sj := Lib.hid (Sj.out.below hb)
          replace Sm1 := Lib.hid (Sm1.out.below hb)
          replace Sn := Lib.hid (Sn.out.below hb)
          replace So := Lib.hid (So.out.below hb)
          replace K := Lib.hid (bl_trans K.out hb)
          replace K2 := Lib.hid (bl_trans K2.out hb)
          clear hb
          go_wp2_with fail
          refine (has_told pn kn n.length n c false w11 HN.out rfl Sn.out (by have := H150.out; have := Lj.out; have := Lm1.out; have := Ln.out; have := Lo.out; omega)).mono ?_
          rintro e w12 ⟨rfl, hb⟩
          replace Sa := Lib.hid (Sa.out.below hb)
          replace Sb := Lib.hid (Sb.out.below hb)
          replace SP := Lib.hid (SP.out.below hb)
          replace Sj := Lib.hid (Sj.out.below hb)
          replace Sm1 := Lib.hid (Sm1.out.below hb)
          replace Sn := Lib.hid (Sn.out.below hb)
          replace So := Lib.hid (So.out.below hb)
          replace K := Lib.hid (bl_trans K.out hb)
          replace K2 := Lib.hid (bl_trans K2.out hb)
          clear hb
          go_wp2_with fail
          refine (has_told po ko o.length o c false w12 HO.out rfl So.out (by have := H150.out; have := Lj.out; have := Lm1.out; have := Ln.out; have := Lo.out; omega)).mono ?_
          rintro e w13 ⟨rfl, hb⟩
          replace Sa := Lib.hid (Sa.out.below hb)
          replace Sb := Lib.hid (Sb.out.below hb)
          replace SP := Lib.hid (SP.out.below hb)
          replace Sj := Lib.hid (Sj.out.below hb)
          replace Sm1 := Lib.hid (Sm1.out.below hb)
          replace Sn := Lib.hid (Sn.out.below hb)
          replace So := Lib.hid (So.out.below hb)
          replace K := Lib.hid (bl_trans K.out hb)
          replace K2 := Lib.hid (bl_trans K2.out hb)
          clear hb
          go_wp2
          go_roundw
          case rel => exact ⟨k + 1, by omega, by go_num, K2.out⟩
          case measure => simp [intOf]; omega
      · have hc2 : c < 0 := by omega
        have HX : Hid (hasB a c = false) := hasB_no (by omega)
        have HY : Hid (hasB b c = false) := hasB_no (by omega)
        have HN : Hid (hasB n c = false) := hasB_no (by omega)
        have HO : Hid (hasB o c = false) := hasB_no (by omega)
        clear hc0
        go_wp2_with fail
        refine (has_told pa ka a.length a c false wr HX.out rfl Sa.out (by have := H150.out; have := Lj.out; have := Lm1.out; have := Ln.out; have := Lo.out; omega)).mono ?_
        rintro e w8 ⟨rfl, hb⟩
        replace Sa := Lib.hid (Sa.out.below hb)
        replace Sb := Lib.hid (Sb.out.below hb)
        replace SP := Lib.hid (SP.out.below hb)
        replace Sj := Lib.hid (Sj.out.below hb)
        replace Sm1 := Lib.hid (Sm1.out.below hb)
        replace Sn := Lib.hid (Sn.out.below hb)
        replace So := Lib.hid (So.out.below hb)
        replace K := Lib.hid (bl_trans K.out hb)
        replace K2 := Lib.hid (bl_trans K2.out hb)
        clear hb
        go_wp2_with fail
        refine (has_told pb kb b.length b c false w8 HY.out rfl Sb.out (by have := H150.out; have := Lj.out; have := Lm1.out; have := Ln.out; have := Lo.out; omega)).mono ?_
        rintro e w9 ⟨rfl, hb⟩
        replace Sa := Lib.hid (Sa.out.below hb)
        replace Sb := Lib.hid (Sb.out.below hb)
        replace SP := Lib.hid (SP.out.below hb)
        replace Sj := Lib.hid (Sj.out.below hb)
        replace Sm1 := Lib.hid (Sm1.out.below hb)
        replace Sn := Lib.hid (Sn.out.below hb)
        replace So := Lib.hid (So.out.below hb)
        replace K := Lib.hid (bl_trans K.out hb)
        replace K2 := Lib.hid (bl_trans K2.out hb)
        clear hb
        go_wp2_with fail
        refine (has_told pj kj j.length j c false w9 (by rw [HJ.out, HX.out, HY.out]; rfl) rfl Sj.out (by have := H150.out; have := Lj.out; have := Lm1.out; have := Ln.out; have := Lo.out; omega)).mono ?_
        rintro e w10 ⟨rfl, hb⟩
        replace Sa := Lib.hid (Sa.out.below hb)
        replace Sb := Lib.hid (Sb.out.below hb)
        replace SP := Lib.hid (SP.out.below hb)
        replace Sj := Lib.hid (Sj.out.below hb)
        replace Sm1 := Lib.hid (Sm1.out.below hb)
        replace Sn := Lib.hid (Sn.out.below hb)
        replace So := Lib.hid (So.out.below hb)
        replace K := Lib.hid (bl_trans K.out hb)
        replace K2 := Lib.hid (bl_trans K2.out hb)
        clear hb
        go_wp2_with fail
        refine (has_told pm1 km1 m1.length m1 c false w10 (by rw [HMM.out, HX.out, HY.out]; rfl) rfl Sm1.out (by have := H150.out; have := Lj.out; have := Lm1.out; have := Ln.out; have := Lo.out; omega)).mono ?_
        rintro e w11 ⟨rfl, hb⟩
        replace Sa := Lib.hid (Sa.out.below hb)
        replace Sb := Lib.hid (Sb.out.below hb)
        replace SP := Lib.hid (SP.out.below hb)
        replace Sj := Lib.hid (Sj.out.below hb)
        replace Sm1 := Lib.hid (Sm1.out.below hb)
        replace Sn := Lib.hid (Sn.out.below hb)
        replace So := Lib.hid (So.out.below hb)
        replace K := Lib.hid (bl_trans K.out hb)
        replace K2 := Lib.hid (bl_trans K2.out hb)
        clear hb
        go_wp2_with fail
        refine (has_told pn kn n.length n c false w11 HN.out rfl Sn.out (by have := H150.out; have := Lj.out; have := Lm1.out; have := Ln.out; have := Lo.out; omega)).mono ?_
        rintro e w12 ⟨rfl, hb⟩
        replace Sa := Lib.hid (Sa.out.below hb)
        replace Sb := Lib.hid (Sb.out.below hb)
        replace SP := Lib.hid (SP.out.below hb)
        replace Sj := Lib.hid (Sj.out.below hb)
        replace Sm1 := Lib.hid (Sm1.out.below hb)
        replace Sn := Lib.hid (Sn.out.below hb)
        replace So := Lib.hid (So.out.below hb)
        replace K := Lib.hid (bl_trans K.out hb)
        replace K2 := Lib.hid (bl_trans K2.out hb)
        clear hb
        go_wp2_with fail
        refine (has_told po ko o.length o c false w12 HO.out rfl So.out (by have := H150.out; have := Lj.out; have := Lm1.out; have := Ln.out; have := Lo.out; omega)).mono ?_
        rintro e w13 ⟨rfl, hb⟩
        replace Sa := Lib.hid (Sa.out.below hb)
        replace Sb := Lib.hid (Sb.out.below hb)
        replace SP := Lib.hid (SP.out.below hb)
        replace Sj := Lib.hid (Sj.out.below hb)
        replace Sm1 := Lib.hid (Sm1.out.below hb)
        replace Sn := Lib.hid (Sn.out.below hb)
        replace So := Lib.hid (So.out.below hb)
        replace K := Lib.hid (bl_trans K.out hb)
        replace K2 := Lib.hid (bl_trans K2.out hb)
        clear hb
        go_wp2
        go_roundw
        case rel => exact ⟨k + 1, by omega, by go_num, K2.out⟩
        case measure => simp [intOf]; omega
    · have hkI : (m : Int) ≤ k := by omega
      obtain ⟨x1, hx1⟩ : ∃ x : Int, x = mny o := ⟨_, rfl⟩
      have Mx1 := Lib.hid hx1
      clear hx1
      obtain ⟨x2, hx2⟩ : ∃ x : Int, x = mny a := ⟨_, rfl⟩
      have Mx2 := Lib.hid hx2
      clear hx2
      have hx1 : x1 ≤ (m : Int) := by rw [Mx1.out, Eo.out, HM.out, mny_cn]; exact mny_pts ps
      have hpos := mny_pos a
      rw [HI.out, ← Mx2.out] at hpos
      have hx2 : x2 ≤ 0 := by have := of_decide_eq_false hpos.symm; omega
      clear hpos
      go_wp2_with fail
      refine (many_at po ko o.length o x1 wr Mx1.out rfl So.out (by have := H150.out; have := Lj.out; have := Lm1.out; have := Ln.out; have := Lo.out; omega)).mono ?_
      rintro e w8 ⟨rfl, hb⟩
      replace Sa := Lib.hid (Sa.out.below hb)
      replace Sb := Lib.hid (Sb.out.below hb)
      replace SP := Lib.hid (SP.out.below hb)
      replace Sj := Lib.hid (Sj.out.below hb)
      replace Sm1 := Lib.hid (Sm1.out.below hb)
      replace Sn := Lib.hid (Sn.out.below hb)
      replace So := Lib.hid (So.out.below hb)
      replace K := Lib.hid (bl_trans K.out hb)
      clear hb
      go_wp2_with fail
      refine (many_at pa ka a.length a x2 w8 Mx2.out rfl Sa.out (by have := H150.out; have := Lj.out; have := Lm1.out; have := Ln.out; have := Lo.out; omega)).mono ?_
      rintro e w9 ⟨rfl, hb⟩
      replace Sa := Lib.hid (Sa.out.below hb)
      replace Sb := Lib.hid (Sb.out.below hb)
      replace SP := Lib.hid (SP.out.below hb)
      replace Sj := Lib.hid (Sj.out.below hb)
      replace Sm1 := Lib.hid (Sm1.out.below hb)
      replace Sn := Lib.hid (Sn.out.below hb)
      replace So := Lib.hid (So.out.below hb)
      replace K := Lib.hid (bl_trans K.out hb)
      clear hb
      go_wp2
      go_ret
      exact ⟨by show Ending.returned (.bool (!decide (0 < x2))) = _; rw [decide_eq_false (by omega)]; rfl, K.out⟩

theorem has_true2 (pa pb pp : Option Addr) (ka kb kp : Nat) (a b : List R) (ps : List Int) (w : World) (ha : SlR w pa a) (hb : SlR w pb b) (hp : SlI w pp ps) (la : a.length ≤ 1000000000000000) (lb : b.length ≤ 1000000000000000) (lp : ps.length ≤ 1000000000000000) :
    Calls Try.prog 5 #[.slice pa a.length ka, .slice pb b.length kb, .slice pp ps.length kp] w fun e w' => e = .returned (.bool true) ∧ Below w.heap.size w w' := by
  rcases hI : (lst a).2 with _ | _
  · exact has_false pa pb pp ka kb kp a b ps w hI ha hb hp la lb lp
  · exact has_true pa pb pp ka kb kp a b ps w hI ha hb hp la lb lp
end Go.Proofs.Ytdlakmgdaldhnaa
