/- PartsAt's walk: which class a number is of, their least ones, which have one of a set's, are what the document tells; all stays; what is told lies apart. -/
import Derived.Test.YtildfjlaieaadaaGreatTa
import Derived.Test.YtildfjlaieaadaaGreatFdi
import Derived.Test.YtildfjlaieaadaaGreatFe

namespace Go.Proofs.YtildfjlaieaadaaGreat
open Go.RowKit Tnr

theorem ownQ_sl {w : World} {B n c : Nat} {p : Option Addr} {l : List Int} (h : OwnQ w B (.slice p n c) l) : SlQ w p l ∧ n = l.length := by
  obtain ⟨q, c', e, _, _, hs⟩ := ownQ_form h
  simp only [Value.slice.injEq] at e
  rw [e.1]; exact ⟨hs, e.2.1⟩
theorem lent_rowsV {w : World} {B n : Nat} {xs ys : List SV} (hn : n = ys.length) (hx : n = xs.length) (h : ∀ i, i < n → LentOf w B (gs xs i) (gs ys i)) : rowsV ys = rowsV xs := by
  apply List.ext_getElem
  · rw [rowsV_length, rowsV_length]; omega
  · intro i h1 h2
    rw [rowsV_length] at h1 h2
    have h3 := (h i (by omega)).1
    rw [gs_get h1, gs_get h2] at h3
    simp [rowsV, h3]

set_option maxHeartbeats 6400000 in
set_option maxRecDepth 100000 in
theorem at_true (p ps r : Option Addr) (c cs f : Nat) (xs : List SV) (s : List R) (pts : List Int) (w : World) (hx : SlS w p xs) (hnil : ∀ i, i < xs.length → (gs xs i).1 = none → (gs xs i).2.1 = 0) (hs : SlR w ps s) (hsn : ps = none → cs = 0) (hr : SlQ w r pts) (hl : xs.length ≤ 1000000000000000) (hle : ∀ x ∈ xs, x.2.2.length ≤ 4000000000000000) (hsl : s.length ≤ 4000000000000000) (hpl : pts.length ≤ 1000000000000000) :
    Calls Tryz.prog 7 #[.slice p xs.length c, .slice ps s.length cs, .slice r pts.length f] w fun e w' => e = .returned (.bool true) ∧ Below w.heap.size w w' := by
  have HX := Lib.hid hx
  have HRR := Lib.hid hr
  have HS := Lib.hid hs
  have HSN := Lib.hid hsn
  have HNIL := Lib.hid hnil
  have HR := Lib.hid (rangeRowsOf_bd p c xs.length xs w rfl hx hl hle)
  obtain ⟨m, hm⟩ : ∃ m, m = xs.length := ⟨_, rfl⟩
  obtain ⟨t, ht⟩ : ∃ t, t = pts.length := ⟨_, rfl⟩
  obtain ⟨ns, hns⟩ : ∃ ns, ns = s.length := ⟨_, rfl⟩
  rw [← hm] at HR HNIL ⊢
  rw [← ht] at hpl ⊢
  rw [← hns] at hsl ⊢
  have HQR := Lib.hid (rangesOf_any ps cs ns w hsl)
  have HM := Lib.hid hm
  have HT := Lib.hid ht
  have HNS := Lib.hid hns
  have hmI : (m : Int) ≤ 1000000000000000 := by omega
  have htI : (t : Int) ≤ 1000000000000000 := by omega
  clear hx hr hl hle hm ht hpl hs hsn hnil hsl hns
  go_enter Tryz.func7, Tryz.ntmps7
  go_wp2_with fail
  refine HR.out.mono ?_
  clear HR
  rintro e w' ⟨q, rfl, hq4, hq, rfl⟩
  go_wp2_with fail
  refine HQR.out.mono ?_
  clear HQR
  rintro e w' ⟨k, rfl, hk1, hk, rfl⟩
  have hqI : (q : Int) ≤ 400 := by omega
  have hkI : (k : Int) ≤ 151 := by omega
  have HQ := Lib.hid hq
  have HK := Lib.hid hk
  clear hq hk
  by_cases hg : 150 < q + k ∨ 150 < t
  · have HA := Lib.hid (awake_any w)
    have hb1 : (decide (150 < (q : Int) + k) || decide (150 < (t : Int))) = true := by
      rw [Bool.or_eq_true]
      simp only [decide_eq_true_eq]
      omega
    by_cases hg1 : 150 < q + k
    · have hgI : 150 < (q : Int) + k := by omega
      go_wp2_with fail
      refine HA.out.mono ?_
      rintro e w1 ⟨rfl, hb⟩
      have HB := Lib.hid hb
      clear hb
      go_wp2
      go_ret
      exact ⟨rfl, HB.out⟩
    · have hgI : (q : Int) + k ≤ 150 := by omega
      have hgT : 150 < (t : Int) := by omega
      go_wp2_with fail
      refine HA.out.mono ?_
      rintro e w1 ⟨rfl, hb⟩
      have HB := Lib.hid hb
      clear hb
      go_wp2
      go_ret
      exact ⟨rfl, HB.out⟩
  · have hgI : (q : Int) + k ≤ 150 := by omega
    have hgT : (t : Int) ≤ 150 := by omega
    have HQ2 := Lib.hid (HQ.out (by omega))
    have HK2 : Hid (ns ≤ 150) := by have := HK.out (by omega); show ns ≤ 150; omega
    have HMX : Hid (m ≤ 150) := by have := HQ2.out; have := HM.out; show m ≤ 150; omega
    have HFX : Hid ((flat xs).length ≤ 150) := by have := HQ2.out; show _ ≤ _; omega
    have HL1 := Lib.hid (lentRows_any p c m xs w HM.out HX.out (by have := HFX.out; omega) (by have := HMX.out; omega) HNIL.out)
    clear hg hq4 hk1
    go_wp2_with fail
    refine HL1.out.mono ?_
    clear HL1
    rintro e w1 ⟨pq, dq, ys, rfl, hny, hoy, hly, hb1⟩
    have HNY := Lib.hid hny
    have HOY := Lib.hid hoy
    have HLY := Lib.hid hly
    have HB1 := Lib.hid hb1
    have HSY := Lib.hid (lentRows_sls hny HM.out hoy hly)
    have HRV := Lib.hid (lent_rowsV hny HM.out hly)
    have HL2 := Lib.hid (lentR_any ps cs ns s w1 HNS.out (HS.out.below hb1) (by have := HK2.out; have := HNS.out; omega) HSN.out)
    clear hny hoy hly hb1
    go_wp2_with fail
    refine HL2.out.mono ?_
    clear HL2
    rintro e w2 ⟨g, cap, rfl, hcap, hcm, hos, hb2⟩
    have HCAP := Lib.hid hcap
    have HCM := Lib.hid hcm
    have HOS := Lib.hid hos
    have HB2 := Lib.hid hb2
    have HW2 := Lib.hid (bl_trans HB1.out hb2)
    have HS2 := Lib.hid (lentR_sl hos)
    have HY2 := Lib.hid (HSY.out.1.below hb2)
    have HFY : Hid ((flat ys).length ≤ 150) := by show _ ≤ _; rw [HSY.out.2]; exact HFX.out
    clear hcap hcm hos hb2
    go_wp2
    go_loopw [9] (fun iv wr => ∃ i : Nat, i ≤ t ∧ iv = .int .i64 (i : Nat) ∧ Hid (Below w2.heap.size w2 wr)) (fun iv _ => t - (intOf iv).toNat)
    case atStart => exact ⟨0, Nat.zero_le _, rfl, Below.refl _ _⟩
    case round =>
      obtain ⟨i, hi, rfl, HB⟩ := hrel
      rename World => wr
      by_cases hit : i < t
      · have hiI : (i : Int) < t := by omega
        obtain ⟨bp, op, rfl, hci⟩ := slq_at (HRR.out.below (bl_trans HW2.out HB.out)) (show i < pts.length by have := HT.out; omega)
        obtain ⟨x, hx⟩ : ∃ x, x = gq pts i := ⟨_, rfl⟩
        rw [← hx] at hci
        have HIT := Lib.hid hit
        have HC1 := Lib.hid (class_any pq dq m ys x wr HNY.out (HY2.out.below HB.out) (by have := HNY.out; have := HMX.out; omega) (by have := HFY.out; omega))
        clear hx hit
        go_wp2_with fail
        refine HC1.out.mono ?_
        clear HC1
        rintro e w3 ⟨k1, t1, rfl, hcl1, hb3⟩
        have HCL1 := Lib.hid hcl1
        have HB3 := Lib.hid (bl_trans HB.out hb3)
        have hci3 := keep_cell hb3 hci
        have HC2 := Lib.hid (rclass_any p c m xs x w3 HM.out (HX.out.below (bl_trans HW2.out HB3.out)) (by have := HM.out; have := HMX.out; omega) (by have := HFX.out; omega))
        clear hcl1 hb3 hci
        go_wp2_with fail
        refine HC2.out.mono ?_
        clear HC2
        rintro e w4 ⟨k2, t2, rfl, hcl2, hb4⟩
        have HB4 := Lib.hid (bl_trans HB3.out hb4)
        have hcl1 := HCL1.out
        rw [HRV.out] at hcl1
        obtain ⟨rfl, rfl⟩ := hcl1.one hcl2
        clear hcl1 hcl2 hb4 HCL1 hci3
        go_wp2
        go_roundw
        case rel => exact ⟨i + 1, by have := HIT.out; omega, by go_num, HB4.out⟩
        case measure => have := HIT.out; simp [intOf]; omega
      · have hiI : (t : Int) ≤ i := by omega
        have HYW := Lib.hid (HY2.out.below HB.out)
        have HF1 := Lib.hid (firsts_any pq dq m ys wr HNY.out HYW.out (by have := HNY.out; have := HMX.out; omega) (by have := HFY.out; omega))
        clear hit
        go_wp2_with fail
        refine HF1.out.mono ?_
        clear HF1
        rintro e w5 ⟨q1, c1, rfl, ho1, hb5⟩
        obtain ⟨D1, hv1, hn1, hr1, hp1⟩ := own_room ho1
        have HS1 := Lib.hid (ownQ_sl ho1)
        have HV1 := Lib.hid hv1
        have HN1 := Lib.hid hn1
        have HR1 := Lib.hid hr1
        have HP1 := Lib.hid hp1
        have HB5 := Lib.hid (bl_trans HB.out hb5)
        have HZ5 := Lib.hid hb5.size
        have HW1 := Lib.hid (within_any pq dq m ys (some ⟨g, 0, none⟩) cap ns s w5 HNY.out (HY2.out.below HB5.out) (by have := HNY.out; have := HMX.out; omega) (by have := HFY.out; omega) HNS.out (HS2.out.below HB5.out) (by have := HK2.out; have := HNS.out; omega))
        clear ho1 hv1 hn1 hr1 hp1 hb5
        go_wp2_with fail
        refine HW1.out.mono ?_
        clear HW1
        rintro e w6 ⟨q2, n2, c2, rfl, hn2e, ho2, hb6⟩
        obtain ⟨D2, hv2, hn2, hr2, hp2⟩ := own_room ho2
        have HN2E := Lib.hid hn2e
        have HS2W := Lib.hid (ownQ_sl ho2).1
        have HV2 := Lib.hid hv2
        have HN2 := Lib.hid hn2
        have HR2 := Lib.hid hr2
        have HP2 := Lib.hid hp2
        have HB6 := Lib.hid (bl_trans HB5.out hb6)
        have HZ6 := Lib.hid hb6.size
        have HR1 := Lib.hid (HR1.out.below hb6)
        have HS1 := Lib.hid (And.intro (HS1.out.1.below hb6) HS1.out.2)
        have HF2 := Lib.hid (rfirsts_any p c m xs w6 HM.out (HX.out.below (bl_trans HW2.out HB6.out)) (by have := HM.out; have := HMX.out; omega) (by have := HFX.out; omega))
        clear hn2e ho2 hv2 hn2 hr2 hp2 hb6
        go_wp2_with fail
        refine HF2.out.mono ?_
        clear HF2
        rintro e w7 ⟨q3, c3, rfl, ho3, hb7⟩
        have HS3 := Lib.hid (ownQ_sl ho3)
        have HB7 := Lib.hid (bl_trans HB6.out hb7)
        have HZ7 := Lib.hid hb7.size
        have HR1 := Lib.hid (HR1.out.below hb7)
        have HR2 := Lib.hid (HR2.out.below hb7)
        have HS1 := Lib.hid (And.intro (HS1.out.1.below hb7) HS1.out.2)
        have HS2W := Lib.hid (HS2W.out.below hb7)
        have HE1 := Lib.hid (sameInts_any q1 q3 c1 c3 m ((rowsV xs).map fst1) w7 HS3.out.2 (by have h := HS1.out.1; rw [HRV.out] at h; exact h) HS3.out.1 (by have := HMX.out; omega))
        clear ho3 hb7
        go_wp2_with fail
        refine HE1.out.mono ?_
        clear HE1
        rintro e w8 ⟨rfl, hb8⟩
        have HB8 := Lib.hid (bl_trans HB7.out hb8)
        have HZ8 := Lib.hid hb8.size
        have HR1 := Lib.hid (HR1.out.below hb8)
        have HR2 := Lib.hid (HR2.out.below hb8)
        have HS2W := Lib.hid (HS2W.out.below hb8)
        have HW2' := Lib.hid (rwithin_any p c m xs ps cs ns s w8 HM.out (HX.out.below (bl_trans HW2.out HB8.out)) (by have := HM.out; have := HMX.out; omega) (by have := HFX.out; omega) HNS.out (HS.out.below (bl_trans HW2.out HB8.out)) (by have := HK2.out; have := HNS.out; omega))
        clear hb8
        go_wp2_with fail
        refine HW2'.out.mono ?_
        clear HW2'
        rintro e w9 ⟨q4, n4, c4, rfl, hn4, ho4, hb9⟩
        have hn24 : n4 = n2 := by rw [hn4, HN2E.out, HRV.out]
        subst hn24
        have HS4 := Lib.hid (ownQ_sl ho4).1
        have HB9 := Lib.hid (bl_trans HB8.out hb9)
        have HZ9 := Lib.hid hb9.size
        have HR1 := Lib.hid (HR1.out.below hb9)
        have HR2 := Lib.hid (HR2.out.below hb9)
        have HS2W := Lib.hid (HS2W.out.below hb9)
        have hn4b : n4 ≤ 150 := by have := wit_length (rowsV xs) s; rw [rowsV_length] at this; have := HM.out; have := HMX.out; omega
        have HN4B := Lib.hid hn4b
        have HE2 := Lib.hid (sameInts_any q2 q4 c2 c4 n4 (wit (rowsV xs) s) w9 hn4 (by have h := HS2W.out; rw [HRV.out] at h; exact h) HS4.out (by omega))
        clear hn4 ho4 hb9 hn4b
        go_wp2_with fail
        refine HE2.out.mono ?_
        clear HE2
        rintro e w10 ⟨rfl, hb10⟩
        have HB10 := Lib.hid (bl_trans HB9.out hb10)
        have HZ10 := Lib.hid hb10.size
        have HR1 := Lib.hid (HR1.out.below hb10)
        have HR2 := Lib.hid (HR2.out.below hb10)
        have hb1A := bl_trans HB2.out HB10.out
        have HKR := Lib.hid (keptRows_any p pq c dq m w.heap.size xs ys w10 HM.out HNY.out (HX.out.below (bl_trans HW2.out HB10.out)) (by have := HFX.out; omega) (by have := HMX.out; omega) (rows_below HOY.out hb1A) (fun i hi => (HLY.out i hi).below hb1A))
        clear hb10 hb1A
        go_wp2_with fail
        refine HKR.out.mono ?_
        clear HKR
        rintro e w11 ⟨rfl, hb11⟩
        have HB11 := Lib.hid (bl_trans HB10.out hb11)
        have HZ11 := Lib.hid hb11.size
        have HR1 := Lib.hid (HR1.out.below hb11)
        have HR2 := Lib.hid (HR2.out.below hb11)
        have HKS := Lib.hid (keptR_any ps cs ns s w1.heap.size g cap w11 HNS.out (HS.out.below (bl_trans HW2.out HB11.out)) (by have := HK2.out; have := HNS.out; omega) (ownR_below HOS.out HB11.out) HCAP.out HCM.out)
        clear hb11
        go_wp2_with fail
        refine HKS.out.mono ?_
        clear HKS
        rintro e w12 ⟨rfl, hb12⟩
        have HB12 := Lib.hid (bl_trans HB11.out hb12)
        have HZ12 := Lib.hid hb12.size
        have HR1 := Lib.hid (HR1.out.below hb12)
        have HR2 := Lib.hid (HR2.out.below hb12)
        have HF3 := Lib.hid (firsts_any pq dq m ys w12 HNY.out (HY2.out.below HB12.out) (by have := HNY.out; have := HMX.out; omega) (by have := HFY.out; omega))
        clear hb12
        go_wp2_with fail
        refine HF3.out.mono ?_
        clear HF3
        rintro e w13 ⟨q5, c5, rfl, ho5, hb13⟩
        obtain ⟨D3, hv3, hn3, hr3, hp3⟩ := own_room ho5
        have HV3 := Lib.hid hv3
        have HN3 := Lib.hid hn3
        have HR3 := Lib.hid hr3
        have HP3 := Lib.hid hp3
        have HB13 := Lib.hid (bl_trans HB12.out hb13)
        have HZ13 := Lib.hid hb13.size
        have HR1 := Lib.hid (HR1.out.below hb13)
        have HR2 := Lib.hid (HR2.out.below hb13)
        have HW3 := Lib.hid (within_any pq dq m ys (some ⟨g, 0, none⟩) cap ns s w13 HNY.out (HY2.out.below HB13.out) (by have := HNY.out; have := HMX.out; omega) (by have := HFY.out; omega) HNS.out (HS2.out.below HB13.out) (by have := HK2.out; have := HNS.out; omega))
        clear ho5 hv3 hn3 hr3 hp3 hb13
        go_wp2_with fail
        refine HW3.out.mono ?_
        clear HW3
        rintro e w14 ⟨q6, n6, c6, rfl, hn6e, ho6, hb14⟩
        obtain ⟨D4, hv4, hn4, hr4, hp4⟩ := own_room ho6
        have hn6 : n6 = n4 := by rw [hn6e, HN2E.out]
        subst hn6
        have HV4 := Lib.hid hv4
        have HN4 := Lib.hid hn4
        have HR4 := Lib.hid hr4
        have HP4 := Lib.hid hp4
        have HB14 := Lib.hid (bl_trans HB13.out hb14)
        have HR1 := Lib.hid (HR1.out.below hb14)
        have HR2 := Lib.hid (HR2.out.below hb14)
        have HR3 := Lib.hid (HR3.out.below hb14)
        have HWB := Lib.hid (bl_trans HW2.out HB14.out)
        have HWZ : Hid (w.heap.size ≤ wr.heap.size) := (bl_trans HW2.out HB.out).size
        have HUP : Hid (Up w.heap.size [D1, D2, D3, D4]) := ⟨w5.heap.size, by have := HWZ.out; have := HZ5.out; omega, fun b e => by have := HP1.out b e; have := HWZ.out; omega,
          w6.heap.size, HZ6.out, fun b e => by have := HP2.out b e; omega,
          w13.heap.size, by have := HZ7.out; have := HZ8.out; have := HZ9.out; have := HZ10.out; have := HZ11.out; have := HZ12.out; have := HZ13.out; omega, fun b e => by have := HP3.out b e; have := HZ7.out; have := HZ8.out; have := HZ9.out; have := HZ10.out; have := HZ11.out; have := HZ12.out; omega,
          w14.heap.size, hb14.size, fun b e => by have := HP4.out b e; omega, trivial⟩
        have HRM : Hid (∀ k, k < 4 → Room w14 1 (dg [D1, D2, D3, D4] k)) := fun k hk => match k, hk with
          | 0, _ => HR1.out
          | 1, _ => HR2.out
          | 2, _ => HR3.out
          | 3, _ => HR4.out
          | k + 4, h => absurd h (by omega)
        have HNN : Hid (∀ k, k < 4 → (dg [D1, D2, D3, D4] k).n ≤ 100000) := fun k hk => match k, hk with
          | 0, _ => by show D1.n ≤ _; rw [HN1.out, List.length_map, rowsV_length]; have := HNY.out; have := HMX.out; omega
          | 1, _ => by show D2.n ≤ _; rw [HN2.out]; have := wit_length (rowsV ys) s; rw [rowsV_length] at this; have := HNY.out; have := HMX.out; omega
          | 2, _ => by show D3.n ≤ _; rw [HN3.out, List.length_map, rowsV_length]; have := HNY.out; have := HMX.out; omega
          | 3, _ => by show D4.n ≤ _; rw [HN4.out]; have := wit_length (rowsV ys) s; rw [rowsV_length] at this; have := HNY.out; have := HMX.out; omega
          | k + 4, h => absurd h (by omega)
        have HAP := Lib.hid (ApartInts_any (some ⟨w14.heap.size, 0, none⟩) 4 4 [D1, D2, D3, D4] (w14.alloc (.cells #[.slice q1 m c1, .slice q2 n6 c2, .slice q5 m c5, .slice q6 n6 c6] 32)) rfl (slD_new (fun b ⟨k, hk, e⟩ => (HRM.out k hk).lt b e) (by rw [HV1.out, HV2.out, HV3.out, HV4.out]; rfl)) (fun k hk => (HRM.out k hk).below (bl_alloc _ _)) (up_far HUP.out) (by omega) HNN.out)
        clear HV1 HV2 HV3 HV4 hn6e ho6 hv4 hn4 hr4 hp4 hb14 HRM HNN HR1 HR2 HR3 HR4
        go_wp2_with fail
        refine HAP.out.mono ?_
        clear HAP
        rintro e w15 ⟨rfl, hb0⟩
        have HB15 : Hid (Below w.heap.size w w15) := by
          have h1 : Below w.heap.size w14 w15 := ((bl_alloc w14 _).mono HWB.out.size).trans (hb0.below (by have := HWB.out.size; simp; omega) (fun k s => up_in HUP.out s))
          exact HWB.out.trans h1
        have HA := Lib.hid (awake_any w15)
        clear hb0 HUP
        go_wp2_with fail
        refine HA.out.mono ?_
        clear HA
        rintro e w16 ⟨rfl, hb16⟩
        have HB16 := Lib.hid (bl_trans HB15.out hb16)
        clear hb16
        go_wp2
        go_ret
        exact ⟨rfl, HB16.out⟩
end Go.Proofs.YtildfjlaieaadaaGreat
