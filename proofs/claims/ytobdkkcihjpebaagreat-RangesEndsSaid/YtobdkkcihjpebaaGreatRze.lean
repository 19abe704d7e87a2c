/- The walk of RangesJoins. -/
import Derived.Test.YtobdkkcihjpebaaGreatRzd
namespace Go.Proofs.YtobdkkcihjpebaaGreat
open Go.RowKit Tnr

set_option maxHeartbeats 800000 in
set_option maxRecDepth 100000 in
theorem great_big (p : Option Addr) (c m : Nat) (xs : List SV) (w : World) (hm : m = xs.length) (hx : SlS w p xs) (hn : xs.length ≤ 1000000000000000) (hl : ∀ x ∈ xs, x.2.2.length ≤ 4000000000000000) :
    Calls Tryz.prog 7 #[.slice p m c] w fun e w' => e = .returned (.bool (decide (150 < xs.length + (flat xs).length))) ∧ w = w' := by
  have HX := Lib.hid hx
  have HM := Lib.hid hm
  have HL := Lib.hid hl
  have hmI : (m : Int) ≤ 1000000000000000 := by omega
  clear hx hm hl hn
  go_enter Tryz.func7, Tryz.ntmps7
  go_wp2
  go_loopw [3, 4] (fun nv iv wr => ∃ (k s : Nat), k ≤ m ∧ s ≤ 5000000000000000 ∧ iv = .int .i64 (k : Nat) ∧ nv = .int .i64 (s : Nat) ∧ Hid (s = xs.length + (flat (xs.take k)).length) ∧ wr = w) (fun _ iv _ => m - (intOf iv).toNat)
  case atStart => exact ⟨0, m, Nat.zero_le _, by omega, rfl, rfl, by show m = _; rw [HM.out]; rfl, rfl⟩
  case round =>
    obtain ⟨k, s, hk, hs, rfl, rfl, HE, rfl⟩ := hrel
    have hsI : (s : Int) ≤ 5000000000000000 := by omega
    by_cases hkm : k < m
    · have hkI : (k : Int) < m := by omega
      have hkx : k < xs.length := by have := HM.out; omega
      by_cases hs1 : s ≤ 150
      · obtain ⟨b, o, rfl, hc⟩ := sls_at HX.out hkx
        have hsJ : (s : Int) ≤ 150 := by omega
        have hg := HL.out (gs xs k) (by rw [gs_get hkx]; exact List.getElem_mem hkx)
        have HE2 : Hid (s + (gs xs k).2.2.length = xs.length + (flat (xs.take (k + 1))).length) := by
          show s + _ = _
          rw [take_gs hkx, flat_append, List.length_append, HE.out]
          have e : flat [gs xs k] = (gs xs k).2.2 := by simp [flat]
          rw [e]; omega
        obtain ⟨t, ht⟩ : ∃ t, t = (gs xs k).2.2.length := ⟨_, rfl⟩
        rw [← ht] at hc hg HE2
        have htI : (t : Int) ≤ 4000000000000000 := by omega
        clear ht hkx
        go_wp2
        go_roundw
        case rel => exact ⟨k + 1, s + t, by omega, by omega, by go_num, by go_num, HE2.out, trivial⟩
        case measure => simp [intOf]; omega
      · have hsJ : 150 < (s : Int) := by omega
        have hmore := flat_take_le xs k
        have HT : Hid (150 < xs.length + (flat xs).length) := by
          have := HE.out
          show 150 < _
          omega
        clear hmore
        go_wp2
        go_ret
        exact ⟨ret_bool (by rw [decide_eq_true HT.out]), rfl⟩
    · have hkI : (m : Int) ≤ k := by omega
      have HE3 : Hid (s = xs.length + (flat xs).length) := by
        show s = _
        have := HE.out
        rw [List.take_of_length_le (by have := HM.out; omega)] at this
        exact this
      by_cases hs1 : s ≤ 150
      · have hsJ : (s : Int) ≤ 150 := by omega
        go_wp2
        go_ret
        exact ⟨ret_bool (decide_eq_decide.2 (by have := HE3.out; omega)), rfl⟩
      · have hsJ : 150 < (s : Int) := by omega
        go_wp2
        go_ret
        exact ⟨ret_bool (decide_eq_true (by have := HE3.out; omega)).symm, rfl⟩


theorem lentm (p : Option Addr) (cp n : Nat) (l : List Int) (w : World) (hn : n = l.length) (hp : SlI w p l) (hl : l.length ≤ 3000) (hpn : p = none → cp = 0) :
    Calls Tryz.prog 54 #[.slice p n cp] w (LentPost n l w) := by
  subst hn; exact lent_any p cp l w hp hl hpn
theorem keptm (p : Option Addr) (cp n : Nat) (l : List Int) (B g cap : Nat) (w : World) (hn : n = l.length) (hp : SlI w p l) (hl : l.length ≤ 3000) (ho : OwnI w B (.slice (some ⟨g, 0, none⟩) (n + 12) cap) (l ++ marks 12)) (hcap : n + 12 ≤ cap) (hcm : cap ≤ 9223372036854775807) :
    Calls Tryz.prog 57 #[.slice (some ⟨g, 0, none⟩) n cap, .slice p n cp] w fun e w' => e = .returned (.bool true) ∧ Below w.heap.size w w' := by
  subst hn; exact kept_any p cp l B g cap w hp hl ho hcap hcm
theorem same_self (p q : Option Addr) (c d : Nat) (a : List R) (w : World) (hp : SlR w p a) (hq : SlR w q a) (hl : a.length ≤ 100000) :
    Calls Tryz.prog 14 #[.slice p a.length c, .slice q a.length d] w fun e w' => e = .returned (.bool true) ∧ Below w.heap.size w w' :=
  lsame_any p q c d a.length a.length a a true w (by simp) rfl rfl hp hq (by omega) (by omega)

set_option maxHeartbeats 12800000 in
set_option maxRecDepth 100000 in
theorem joins_true (p pp : Option Addr) (c cp n m : Nat) (xs : List SV) (ps : List Int) (w : World) (hn : n = xs.length) (hm : m = ps.length) (hx : SlS w p xs) (hp : SlI w pp ps) (hnm : n ≤ 1000000000000000) (hmm : m ≤ 1000000000000000) (hxl : ∀ x ∈ xs, x.2.2.length ≤ 4000000000000000) (hnil : ∀ i, i < n → (gs xs i).1 = none → (gs xs i).2.1 = 0) (hpn : pp = none → cp = 0) :
    Calls Tryz.prog 27 #[.slice p n c, .slice pp m cp] w fun e w' => e = .returned (.bool true) ∧ Below w.heap.size w w' := by
  have SX := Lib.hid hx
  have SP := Lib.hid hp
  have HN := Lib.hid hn
  have HM := Lib.hid hm
  have HNIL := Lib.hid hnil
  have HPN := Lib.hid hpn
  have HXL := Lib.hid hxl
  have HNM := Lib.hid hnm
  have hmI : (m : Int) ≤ 1000000000000000 := by omega
  have K := Lib.hid (bl_refl w)
  obtain ⟨t, ht⟩ : ∃ t, t = decide (150 < xs.length + (flat xs).length) := ⟨_, rfl⟩
  have HT := Lib.hid ht
  clear hx hp hn hm hnil hpn hxl hnm hmm ht
  go_enter Tryz.func27, Tryz.ntmps27
  go_wp2_with fail
  refine (great_big p c n xs w HN.out SX.out (by rw [← HN.out]; exact HNM.out) HXL.out).mono ?_
  rintro e w1 ⟨rfl, rfl⟩
  rw [← HT.out]
  cases t with
  | true =>
    go_wp2_with fail
    refine (awake_any w).mono ?_
    rintro e w1 ⟨rfl, hb⟩
    replace K := Lib.hid hb
    clear hb
    go_wp2
    go_ret
    exact ⟨rfl, K.out⟩
  | false =>
  by_cases h150 : 150 < m
  · have h150I : 150 < (m : Int) := by omega
    go_wp2_with fail
    refine (awake_any w).mono ?_
    rintro e w1 ⟨rfl, hb⟩
    replace K := Lib.hid hb
    clear hb
    go_wp2
    go_ret
    exact ⟨rfl, K.out⟩
  have hm150 : (m : Int) ≤ 150 := by omega
  have H150 : Hid (xs.length + (flat xs).length ≤ 150 ∧ m ≤ 150) := by
    have h := HT.out
    have h2 := of_decide_eq_false h.symm
    show _ ∧ _
    omega
  clear h150 HT
  have H2 := Lib.hid (And.intro (show xs.length ≤ 150 by have := H150.out; omega) (show (flat xs).length ≤ 150 by have := H150.out; omega))
  go_wp2_with fail
  refine (lentRows_any p c n xs w HN.out SX.out (by have := H2.out; omega) (by have := H2.out; have := HN.out; omega) HNIL.out).mono ?_
  rintro e w1 ⟨q1, d1, ys, rfl, hy1, ho1, hlt1, hb⟩
  have HY := Lib.hid hy1
  have HO := Lib.hid ho1
  have HLT := Lib.hid hlt1
  have HFL := Lib.hid (lentRows_sls hy1 HN.out ho1 hlt1).2
  have SY := Lib.hid (lentRows_sls hy1 HN.out ho1 hlt1).1
  replace SX := Lib.hid (SX.out.below hb)
  replace SP := Lib.hid (SP.out.below hb)
  replace K := Lib.hid hb
  clear hb hy1 ho1 hlt1
  go_wp2_with fail
  refine (lentm pp cp m ps w1 HM.out SP.out (by have := H150.out; have := HM.out; omega) HPN.out).mono ?_
  rintro e w2 ⟨g2, c2, rfl, h21, h22, ho2, hb⟩
  have HC2 := Lib.hid (And.intro h21 h22)
  have HOI := Lib.hid ho2
  have SI := Lib.hid (lent_sl ho2 HM.out.symm (marks_length 12))
  replace SX := Lib.hid (SX.out.below hb)
  replace SP := Lib.hid (SP.out.below hb)
  replace SY := Lib.hid (SY.out.below hb)
  replace HO := Lib.hid (rows_below HO.out hb)
  replace HLT := Lib.hid (fun i hi => (HLT.out i hi).below hb)
  replace K := Lib.hid (bl_trans K.out hb)
  clear hb h21 h22 ho2
  go_wp2_with fail
  refine (join_any q1 d1 n ys (cn (flat xs)) w2 (by rw [HFL.out]) HY.out SY.out (by rw [HFL.out]; have := H2.out; omega) (by rw [← HY.out, HN.out]; have := H2.out; omega)).mono ?_
  rintro e w3 ⟨q3, d3, rfl, ho3, hb⟩
  have S3 := Lib.hid (tells_sl ho3)
  replace SX := Lib.hid (SX.out.below hb)
  replace SP := Lib.hid (SP.out.below hb)
  replace SI := Lib.hid (SI.out.below hb)
  replace HO := Lib.hid (rows_below HO.out hb)
  replace HOI := Lib.hid (ownI_below HOI.out hb)
  replace HLT := Lib.hid (fun i hi => (HLT.out i hi).below hb)
  replace K := Lib.hid (bl_trans K.out hb)
  clear hb ho3 SY
  go_wp2_with fail
  refine (rjoin_any p c n xs (cn (flat xs)) w3 rfl HN.out SX.out (by have := H2.out; omega) (by have := H2.out; have := HN.out; omega)).mono ?_
  rintro e w4 ⟨q4, d4, rfl, ho4, hb⟩
  have S4 := Lib.hid (tells_sl ho4)
  replace S3 := Lib.hid (S3.out.below hb)
  replace SX := Lib.hid (SX.out.below hb)
  replace SP := Lib.hid (SP.out.below hb)
  replace SI := Lib.hid (SI.out.below hb)
  replace HO := Lib.hid (rows_below HO.out hb)
  replace HOI := Lib.hid (ownI_below HOI.out hb)
  replace HLT := Lib.hid (fun i hi => (HLT.out i hi).below hb)
  replace K := Lib.hid (bl_trans K.out hb)
  clear hb ho4
  have HCL := Lib.hid (cn_length (flat xs))
  go_wp2_with fail
  refine (same_self q3 q4 d3 d4 _ w4 S3.out S4.out (by have := HCL.out; have := H2.out; omega)).mono ?_
  rintro e w5 ⟨rfl, hb⟩
  replace SX := Lib.hid (SX.out.below hb)
  replace SP := Lib.hid (SP.out.below hb)
  replace SI := Lib.hid (SI.out.below hb)
  replace HO := Lib.hid (rows_below HO.out hb)
  replace HOI := Lib.hid (ownI_below HOI.out hb)
  replace HLT := Lib.hid (fun i hi => (HLT.out i hi).below hb)
  replace K := Lib.hid (bl_trans K.out hb)
  clear hb S3 S4
  go_wp2_with fail
  refine (of_any (some ⟨g2, 0, none⟩) c2 m ps (cn (pts ps)) w5 rfl HM.out SI.out (by have := H150.out; have := HM.out; omega)).mono ?_
  rintro e w6 ⟨q6, d6, rfl, ho6, hb⟩
  have S6 := Lib.hid (tells_sl ho6)
  replace SX := Lib.hid (SX.out.below hb)
  replace SP := Lib.hid (SP.out.below hb)
  replace HO := Lib.hid (rows_below HO.out hb)
  replace HOI := Lib.hid (ownI_below HOI.out hb)
  replace HLT := Lib.hid (fun i hi => (HLT.out i hi).below hb)
  replace K := Lib.hid (bl_trans K.out hb)
  clear hb ho6 SI
  go_wp2_with fail
  refine (rof_any pp cp m ps (cn (pts ps)) w6 rfl HM.out SP.out (by have := H150.out; have := HM.out; omega)).mono ?_
  rintro e w7 ⟨q7, d7, rfl, ho7, hb⟩
  have S7 := Lib.hid (tells_sl ho7)
  replace S6 := Lib.hid (S6.out.below hb)
  replace SX := Lib.hid (SX.out.below hb)
  replace SP := Lib.hid (SP.out.below hb)
  replace HO := Lib.hid (rows_below HO.out hb)
  replace HOI := Lib.hid (ownI_below HOI.out hb)
  replace HLT := Lib.hid (fun i hi => (HLT.out i hi).below hb)
  replace K := Lib.hid (bl_trans K.out hb)
  clear hb ho7
  have HPL : Hid ((cn (pts ps)).length ≤ 150) := by
    have h1 := cn_length (pts ps)
    have h2 := HM.out
    have h3 := H150.out
    have h4 : (pts ps).length = ps.length := by simp [pts]
    show _ ≤ 150
    omega
  go_wp2_with fail
  refine (same_self q6 q7 d6 d7 _ w7 S6.out S7.out (by have := HPL.out; omega)).mono ?_
  rintro e w8 ⟨rfl, hb⟩
  replace SX := Lib.hid (SX.out.below hb)
  replace SP := Lib.hid (SP.out.below hb)
  replace HO := Lib.hid (rows_below HO.out hb)
  replace HOI := Lib.hid (ownI_below HOI.out hb)
  replace HLT := Lib.hid (fun i hi => (HLT.out i hi).below hb)
  replace K := Lib.hid (bl_trans K.out hb)
  clear hb S6 S7
  go_wp2_with fail
  refine (keptRows_any p q1 c d1 n _ xs ys w8 HN.out HY.out SX.out (by have := H2.out; omega) (by have := H2.out; have := HN.out; omega) HO.out HLT.out).mono ?_
  rintro e w9 ⟨rfl, hb⟩
  replace SP := Lib.hid (SP.out.below hb)
  replace HOI := Lib.hid (ownI_below HOI.out hb)
  replace K := Lib.hid (bl_trans K.out hb)
  clear hb HO HLT SX
  go_wp2_with fail
  refine (keptm pp cp m ps _ g2 c2 w9 HM.out SP.out (by have := H150.out; have := HM.out; omega) HOI.out HC2.out.1 HC2.out.2).mono ?_
  rintro e w10 ⟨rfl, hb⟩
  replace K := Lib.hid (bl_trans K.out hb)
  clear hb HOI SP
  go_wp2_with fail
  refine (awake_any w10).mono ?_
  rintro e w11 ⟨rfl, hb⟩
  replace K := Lib.hid (bl_trans K.out hb)
  clear hb
  go_wp2
  go_ret
  exact ⟨rfl, K.out⟩
end Go.Proofs.YtobdkkcihjpebaaGreat
