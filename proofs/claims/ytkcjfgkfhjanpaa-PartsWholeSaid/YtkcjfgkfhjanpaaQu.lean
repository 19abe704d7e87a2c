/- PartsWhole's walk: the classes are sets, rising, that part all code points; each set is made of those that it meets; told. -/
import Derived.Test.YtkcjfgkfhjanpaaQw
import Derived.Test.YtkcjfgkfhjanpaaQq
namespace Go.Proofs.Ytkcjfgkfhjanpaa
open Go.RowKit Tnr

theorem mny_cn (l : List R) : mny (cn l) = mny l := by unfold mny; rw [cn_self (cn_right l)]
theorem right_self {l : List R} (h : Rt l) : rightB l = true := (rfB_iff l (-2)).2 h
theorem witN_get {L : List (List R)} {s : List R} {k : Nat} (h : k < (witN L s).length) : gq (wit L s) k = ((witN L s)[k] : Nat) := by
  rw [gq_get (by unfold wit; rw [List.length_map]; exact h)]
  simp [wit]
theorem flat_map_gs (ys : List SV) (ks : List Nat) (h : ∀ k ∈ ks, k < ys.length) : flat (ks.map (gs ys)) = (ks.map fun k => gl (rowsV ys) k).flatten := by
  induction ks with
  | nil => rfl
  | cons k ks ih =>
    rw [List.map_cons, flat_cons, ih fun x hx => h x (List.mem_cons_of_mem _ hx), List.map_cons, List.flatten_cons, rowsV_gl (h k (by simp))]
theorem flat_sub (ys : List SV) : ∀ (n : Nat) (p : Nat → Bool), n ≤ ys.length → (flat (((List.range n).filter p).map (gs ys))).length ≤ (flat (ys.take n)).length
  | 0, p, _ => by simp [flat]
  | n + 1, p, h => by
    have ih := flat_sub ys n p (by omega)
    have e : flat [gs ys n] = (gs ys n).2.2 := by simp [flat]
    rw [List.range_succ, List.filter_append, List.map_append, flat_append, List.length_append, take_gs (by omega), flat_append, List.length_append, e]
    rw [List.filter_cons]
    split
    · rw [List.filter_nil, List.map_cons, List.map_nil, e]; omega
    · rw [List.filter_nil, List.map_nil]; simp [flat] at ih ⊢; omega

set_option maxHeartbeats 6400000 in
set_option maxRecDepth 100000 in
theorem whole_true (p r : Option Addr) (c f : Nat) (xs : List SV) (ps : List Int) (w : World) (hx : SlS w p xs) (hc : xs.length ≤ c) (hr : SlQ w r ps) (hl : xs.length ≤ 1000000000000000) (hle : ∀ x ∈ xs, x.2.2.length ≤ 4000000000000000) (hpl : ps.length ≤ 1000000000000000) :
    Calls Try.prog 3 #[.slice p xs.length c, .slice r ps.length f] w fun e w' => e = .returned (.bool true) ∧ Below w.heap.size w w' := by
  obtain ⟨i1, ginf, gz0, gz1, gz2⟩ := info_parts info_rows
  have HA := Lib.hid (awake_any w)
  have HX := Lib.hid hx
  have HRR := Lib.hid hr
  have HR := Lib.hid fun W hb => rangeRowsOf_any p c xs.length xs W rfl (hx.below hb) hl hle
  obtain ⟨m, hm⟩ : ∃ m, m = xs.length := ⟨_, rfl⟩
  obtain ⟨t, ht⟩ : ∃ t, t = ps.length := ⟨_, rfl⟩
  rw [← hm] at hc HR ⊢
  rw [← ht] at hpl ⊢
  have HM := Lib.hid hm
  have HT := Lib.hid ht
  have hmI : (m : Int) ≤ 1000000000000000 := by omega
  have htI : (t : Int) ≤ 1000000000000000 := by omega
  have HC := Lib.hid hc
  clear hx hc hr hl hle hm ht hpl
  go_enter Try.func3, Try.ntmps3
  go_wp2_with fail
  refine HA.out.mono ?_
  clear HA
  rintro e w1 ⟨rfl, hb1⟩
  have HB1 := Lib.hid hb1
  clear hb1
  go_wp2_with fail
  refine (HR.out w1 HB1.out).mono ?_
  clear HR
  rintro e w1' ⟨q, rfl, hq, rfl⟩
  by_cases hq1 : 150 < q
  · have hqI : 150 < (q : Int) := by omega
    clear hq
    go_wp2
    go_ret
    exact ⟨rfl, HB1.out⟩
  · have hqI : (q : Int) ≤ 150 := by omega
    have HQ := Lib.hid (hq (by omega))
    have hm150 : m ≤ 150 := by have := HQ.out; have := HM.out; omega
    clear hq hq1
    by_cases ht40 : 40 < t
    · have ht40I : 40 < (t : Int) := by omega
      go_wp2
      go_ret
      exact ⟨rfl, HB1.out⟩
    · have ht40I : (t : Int) ≤ 40 := by omega
      have HT40 : Hid (t ≤ 40) := by show t ≤ 40; omega
      have HO := Lib.hid (partsOf_any p c m xs w1 HM.out HC.out (HX.out.below HB1.out) (by have := HQ.out; have := HM.out; omega) (by have := HQ.out; omega))
      clear ht40
      go_wp2_with fail
      refine HO.out.mono ?_
      clear HO
      rintro e w2 ⟨hb2, hor⟩
      have HB2 := Lib.hid (bl_trans HB1.out hb2)
      clear hb2
      rcases hor with ⟨rfl, -⟩ | ⟨le, ln, lc, ys, vs, rfl, hln, hlc, hl60, hpt, hys, hfy, -⟩
      · go_wp2
        go_ret
        exact ⟨rfl, HB2.out⟩
      · obtain ⟨num, hnu, hro⟩ := hpt
        have HNU := Lib.hid hnu
        have HRO := Lib.hid hro
        have HLN := Lib.hid hln
        have HYS := Lib.hid hys
        have hfy2 : (flat ys).length ≤ 1000 := by have := HQ.out; have := HM.out; omega
        have HFY := Lib.hid hfy2
        have hln0 : 0 < ln := by have := hro.pos; rw [rowsV_length] at this; omega
        have hlnI : (ln : Int) ≤ 60 := by omega
        have hln0I : 0 < (ln : Int) := by omega
        have HLC := Lib.hid hlc
        have HF := Lib.hid (firsts_any le lc ln ys w2 hln hys (by omega) (by omega))
        clear hnu hro hln hys hfy hfy2 hlc
        go_wp2_with fail
        refine HF.out.mono ?_
        clear HF
        rintro e w3 ⟨fq, fc, rfl, hof, hb3⟩
        obtain ⟨fq', fc', e3, _, _, hsf⟩ := ownQ_form hof
        simp only [Value.slice.injEq] at e3
        obtain ⟨rfl, -, rfl⟩ := e3
        have HSF := Lib.hid hsf
        have HB3 := Lib.hid (bl_trans HB2.out hb3)
        have HY3 := Lib.hid (HYS.out.below hb3)
        clear hof hb3 hsf
        go_wp2
        go_loopw [7, 9] (fun mv iv wr => ∃ (i : Nat) (M : Int), i ≤ ln ∧ iv = .int .i64 (i : Nat) ∧ mv = .int .i64 M ∧ Hid (M = mny ((rowsV ys).take i).flatten) ∧ Hid (Below w3.heap.size w3 wr)) (fun _ iv _ => ln - (intOf iv).toNat)
        case atStart => exact ⟨0, 0, Nat.zero_le _, rfl, rfl, by show (0 : Int) = mny []; rw [mny_cnt, cnt_nil]; rfl, Below.refl _ _⟩
        case round =>
          obtain ⟨i, M, hi, rfl, rfl, HMN, HB4⟩ := hrel
          rename World => wr
          have hM0 := mny_range ((rowsV ys).take i).flatten
          rw [← HMN.out] at hM0
          obtain ⟨hM1, hM2⟩ := hM0
          by_cases hil : i < ln
          · have hiI : (i : Int) < ln := by omega
            have hiy : i < ys.length := by have := HLN.out; omega
            obtain ⟨bl, ol, rfl, hcl⟩ := sls_at (HY3.out.below HB4.out) hiy
            have hs0 : SlR wr (gs ys i).1 (gs ys i).2.2 := (HY3.out.below HB4.out).1 _ (by rw [gs_get hiy]; exact List.getElem_mem _)
            have HLE : Hid ((gs ys i).2.2.length ≤ 1000) := by have := flat_one_le hiy; have := HFY.out; show _ ≤ _; omega
            have HGL : Hid (gl (rowsV ys) i = (gs ys i).2.2) := rowsV_gl hiy
            have HIY : Hid (i < (rowsV ys).length) := by show _ < _; rw [rowsV_length]; exact hiy
            obtain ⟨pa, ca, la, hga⟩ : ∃ pa ca la, gs ys i = (pa, ca, la) := ⟨_, _, _, rfl⟩
            rw [hga] at hcl hs0 HLE HGL
            simp only at hcl hs0
            have HGL : Hid (gl (rowsV ys) i = la) := HGL
            have hy0 := mny_range la
            obtain ⟨y, hy⟩ : ∃ y, y = mny la := ⟨_, rfl⟩
            rw [← hy] at hy0
            obtain ⟨hy1, hy2⟩ := hy0
            have HSUM : Hid (M + y = mny ((rowsV ys).take (i + 1)).flatten) := by
              show _ = _
              rw [HRO.out.sums HIY.out, HMN.out, HGL.out, hy]
            obtain ⟨na, hna⟩ : ∃ na, na = la.length := ⟨_, rfl⟩
            have HMY : Hid (Calls Try.prog 9 #[.slice pa na ca] wr fun e w' => e = .returned (.int .i64 y) ∧ Below wr.heap.size wr w') := by
              rw [hna, hy]; exact many_any pa ca la wr hs0 (by have := HLE.out; simp only at this; omega)
            have HRT : Hid (∀ W, Below wr.heap.size wr W → Calls Try.prog 10 #[.slice pa na ca] W fun e w' => e = .returned (.bool true) ∧ Below W.heap.size W w') := by
              intro W hb
              have h := right_any pa ca la W (hs0.below hb) (by have := HLE.out; simp only at this; omega)
              rw [right_self (by rw [← HGL.out]; exact HRO.out.right i HIY.out)] at h
              rw [hna]; exact h
            rw [← hna] at hcl
            have hna0 : 0 < na := by
              have h1 := HRO.out.ne HIY.out
              rw [HGL.out] at h1
              rw [hna]; exact List.length_pos_iff.2 h1
            have hna0I : ((na : Int) == 0) = false := by rw [beq_eq_false_iff_ne]; omega
            have HNA : Hid (na ≤ 1000) := by have := HLE.out; show na ≤ 1000; simp only at this; omega
            have HHI := Lib.hid hil
            clear hga hs0 hna hy hiy
            go_wp2_with fail
            refine HMY.out.mono ?_
            clear HMY
            rintro e w5 ⟨rfl, hb5⟩
            have HB5 := Lib.hid hb5
            have hcl5 : w5.cell? ⟨bl, ol + i, none⟩ = some (.slice pa na ca) := keep_cell hb5 hcl
            clear hb5 hcl hil
            by_cases hi0 : 0 < i
            · have hi0D : decide (0 < i) = true := by simpa using hi0
              have hi0E : decide ((0 : Int) < i) = true := by simp; omega
              have hlow5 : Below w3.heap.size w3 w5 := bl_trans HB4.out HB5.out
              obtain ⟨b1, o1, rfl, hc1⟩ := slq_at (HSF.out.below hlow5) (show i < ((rowsV ys).map fst1).length by rw [List.length_map]; exact HIY.out)
              have hc2 := slq_keep (HSF.out.below hlow5) (show i - 1 < ((rowsV ys).map fst1).length by rw [List.length_map]; have := HIY.out; omega)
              obtain ⟨v1, hv1⟩ : ∃ v1, v1 = gq ((rowsV ys).map fst1) i := ⟨_, rfl⟩
              obtain ⟨v2, hv2⟩ : ∃ v2, v2 = gq ((rowsV ys).map fst1) (i - 1) := ⟨_, rfl⟩
              have hv12 : v2 < v1 := by
                have h1 := HIY.out
                have fg : ∀ k, k < (rowsV ys).length → gq ((rowsV ys).map fst1) k = fst1 (gl (rowsV ys) k) := fun k hk => by
                  rw [gq_get (by rw [List.length_map]; exact hk), List.getElem_map, ← gl_get hk]
                rw [hv1, hv2, fg i h1, fg (i - 1) (by omega)]
                have h2 := HRO.out.rise HNU.out (i := i - 1) (by omega)
                rw [show i - 1 + 1 = i by omega] at h2
                exact h2
              rw [← hv1] at hc1
              rw [← hv2] at hc2
              clear hv1 hv2 hlow5
              have hwr : IntKind.i64.wrap ((i : Int) - 1) = (i : Int) - 1 := by simp [IntKind.wrap, IntKind.bits, IntKind.signed]; omega
              have hkc1 := keep_cell (bl_drew w5) hc1
              have hkc2 := keep_cell (bl_drew w5) hc2
              have hkcl := keep_cell (bl_drew w5) hcl5
              have hi0E2 : 0 < (i : Int) := by omega
              clear hi0D hi0E hcl5 hc1 hc2
              go_wp2
              refine whole13b_wp pa bl ol ln lc i na ca b1 o1 fc v1 v2 (z := 0) (Nat.zero_le _) (by rfl) (by rfl) (by rfl) (by rfl) hiI hi0E2 hlnI (by omega) hwr hkcl hkc1 hkc2 hv12 hna0I (fun W hb => HRT.out W (bl_trans HB5.out (bl_trans (bl_drew w5) hb))) ?_ 13
              intro f13 w6 hkk hb6
              have e29 : f13 29 = .bool false := hkk 29 (by decide) (by decide)
              rw [e29]
              have HB6 := Lib.hid (bl_trans HB4.out (bl_trans HB5.out (bl_trans (bl_drew w5) hb6)))
              clear hkk hb6 e29
              generalize f13 0 = g0, f13 1 = g1, f13 2 = g2, f13 3 = g3, f13 4 = g4, f13 5 = g5, f13 6 = g6, f13 7 = g7, f13 8 = g8, f13 9 = g9, f13 10 = g10, f13 11 = g11, f13 12 = g12, f13 13 = g13, f13 14 = g14, f13 15 = g15, f13 16 = g16, f13 17 = g17, f13 18 = g18, f13 19 = g19, f13 20 = g20, f13 21 = g21, f13 22 = g22, f13 23 = g23, f13 24 = g24, f13 25 = g25, f13 26 = g26, f13 27 = g27, f13 28 = g28
              simp only [putL, List.foldl, Act.put, List.setIfInBounds_toArray, List.set_cons_zero, List.set_cons_succ]
              clear f13
              go_wp2
              go_roundw
              case rel => exact ⟨i + 1, M + y, by have := HHI.out; omega, by go_num, rfl, HSUM.out, HB6.out⟩
              case measure => have := HHI.out; simp [intOf]; omega
            · have hi0E : (i : Int) ≤ 0 := by omega
              have hkcl := keep_cell (bl_drew w5) hcl5
              clear hcl5
              go_wp2
              refine whole13a_wp pa bl ol ln lc i na ca (z := 0) (Nat.zero_le _) (by rfl) (by rfl) (by rfl) hiI hi0E hkcl hna0I (fun W hb => HRT.out W (bl_trans HB5.out (bl_trans (bl_drew w5) hb))) ?_ 13
              intro f13 w6 hkk hb6
              have e29 : f13 29 = .bool false := hkk 29 (by decide) (by decide)
              rw [e29]
              have HB6 := Lib.hid (bl_trans HB4.out (bl_trans HB5.out (bl_trans (bl_drew w5) hb6)))
              clear hkk hb6 e29
              generalize f13 0 = g0, f13 1 = g1, f13 2 = g2, f13 3 = g3, f13 4 = g4, f13 5 = g5, f13 6 = g6, f13 7 = g7, f13 8 = g8, f13 9 = g9, f13 10 = g10, f13 11 = g11, f13 12 = g12, f13 13 = g13, f13 14 = g14, f13 15 = g15, f13 16 = g16, f13 17 = g17, f13 18 = g18, f13 19 = g19, f13 20 = g20, f13 21 = g21, f13 22 = g22, f13 23 = g23, f13 24 = g24, f13 25 = g25, f13 26 = g26, f13 27 = g27, f13 28 = g28
              simp only [putL, List.foldl, Act.put, List.setIfInBounds_toArray, List.set_cons_zero, List.set_cons_succ]
              clear f13
              go_wp2
              go_roundw
              case rel => exact ⟨i + 1, M + y, by have := HHI.out; omega, by go_num, rfl, HSUM.out, HB6.out⟩
              case measure => have := HHI.out; simp [intOf]; omega
          · have hiI : (ln : Int) ≤ i := by omega
            have hie : i = ln := by omega
            subst hie
            have hMe : M = 1114112 := by
              rw [HMN.out, List.take_of_length_le (by rw [rowsV_length, ← HLN.out]; exact Nat.le_refl _)]
              exact HRO.out.whole
            subst hMe
            have HY4 := Lib.hid (HY3.out.below HB4.out)
            have HL4 := Lib.hid (bl_trans HB3.out HB4.out)
            have HJ := Lib.hid (join_any le lc i ys (cn (flat ys)) wr rfl HLN.out HY4.out (by have := HFY.out; omega) (by have := HLN.out; omega))
            clear hM1 hM2
            go_wp2_with fail
            refine HJ.out.mono ?_
            clear HJ
            rintro e w5 ⟨pj, cj, rfl, hoj, hb5⟩
            obtain ⟨nj, hnj⟩ : ∃ nj, nj = (cn (flat ys)).length := ⟨_, rfl⟩
            have hmj := many_any pj cj (cn (flat ys)) w5 (ownR_sl hoj) (by have := cn_length (flat ys); have := HFY.out; omega)
            rw [mny_cn] at hmj
            have hwh := HRO.out.whole
            rw [rowsV_flat] at hwh
            rw [hwh, ← hnj] at hmj
            have HMJ := Lib.hid hmj
            have HY5 := Lib.hid (HY4.out.below hb5)
            have HL5 := Lib.hid (bl_trans HL4.out hb5)
            have hlow5 : Below w3.heap.size w3 w5 := bl_trans HB4.out hb5
            obtain ⟨b1, o1, rfl, hc1⟩ := slq_at (HSF.out.below hlow5) (show 0 < ((rowsV ys).map fst1).length by rw [List.length_map, rowsV_length]; have := HLN.out; omega)
            have hc1e : gq ((rowsV ys).map fst1) 0 = 0 := by
              rw [gq_get (by rw [List.length_map, rowsV_length]; have := HLN.out; omega), List.getElem_map, ← gl_get (by rw [rowsV_length]; have := HLN.out; omega)]
              exact HRO.out.zero HNU.out
            rw [hc1e, Nat.add_zero] at hc1
            rw [← hnj]
            have HC1 := Lib.hid hc1
            clear hoj hb5 hnj hmj hwh hc1e hlow5 hc1
            go_wp2_with fail
            refine HMJ.out.mono ?_
            clear HMJ
            rintro e w6 ⟨rfl, hb6⟩
            have hc6 := keep_cell hb6 HC1.out
            have HY6 := Lib.hid (HY5.out.below hb6)
            have HL6 := Lib.hid (bl_trans HL5.out hb6)
            have hz1 : ((i : Int) == 0) = false := by rw [beq_eq_false_iff_ne]; omega
            have hz2 : decide (60 < (i : Int)) = false := by simp; omega
            have hz3 : decide (60 < i) = false := by simp; omega
            clear hb6 HC1
            go_wp2
            clear hc6 hz1 hz2 hz3
            go_loopw [11] (fun kv wr => ∃ k : Nat, k ≤ m ∧ kv = .int .i64 (k : Nat) ∧ Hid (Below w6.heap.size w6 wr)) (fun kv _ => m - (intOf kv).toNat)
            case atStart => exact ⟨0, Nat.zero_le _, rfl, Below.refl _ _⟩
            case round =>
              obtain ⟨k, hk, rfl, HB7⟩ := hrel
              rename World => wr
              by_cases hkm : k < m
              · have hkI : (k : Int) < m := by omega
                have hkx : k < xs.length := by have := HM.out; omega
                have hlow7 : Below w.heap.size w wr := bl_trans HL6.out HB7.out
                obtain ⟨bs, os, rfl, hcs⟩ := sls_at (HX.out.below hlow7) hkx
                have hs0 : SlR wr (gs xs k).1 (gs xs k).2.2 := (HX.out.below hlow7).1 _ (by rw [gs_get hkx]; exact List.getElem_mem _)
                have HLE : Hid ((gs xs k).2.2.length ≤ 150) := by have := flat_one_le hkx; have := HQ.out; show _ ≤ _; omega
                have HSM : Hid ((gs xs k).2.2 ∈ rowsV xs) := by
                  have h := rowsV_gl hkx
                  show _ ∈ _
                  rw [← h]; exact gl_mem (by rw [rowsV_length]; exact hkx)
                obtain ⟨pa, ca, la, hga⟩ : ∃ pa ca la, gs xs k = (pa, ca, la) := ⟨_, _, _, rfl⟩
                rw [hga] at hcs hs0 HLE HSM
                simp only at hcs hs0
                have HSM : Hid (la ∈ rowsV xs) := HSM
                have HLE : Hid (la.length ≤ 150) := HLE
                obtain ⟨na, hna⟩ : ∃ na, na = la.length := ⟨_, rfl⟩
                have HW := Lib.hid (within_any le lc i ys pa ca na la wr HLN.out (HY6.out.below HB7.out) (by have := HLN.out; omega) (by have := HFY.out; omega) hna hs0 (by have := HLE.out; omega))
                rw [← hna] at hcs
                have HNA := Lib.hid hna
                have HS0 := Lib.hid hs0
                have HCS := Lib.hid hcs
                have HKM := Lib.hid hkm
                clear hga hs0 hna hkx hlow7 hkm
                go_wp2_with fail
                refine HW.out.mono ?_
                clear HW
                rintro e w8 ⟨pw, nw, cw, rfl, hnw, how, hb8⟩
                have hsw : SlQ w8 pw (wit (rowsV ys) la) := by
                  obtain ⟨pp, cc, ee, _, _, hh⟩ := ownQ_form how
                  simp only [Value.slice.injEq] at ee
                  rw [ee.1]; exact hh
                have HSW := Lib.hid hsw
                have HNW : Hid (nw = (witN (rowsV ys) la).length) := by show nw = _; rw [hnw]; unfold wit; rw [List.length_map]
                have hnw60 : nw ≤ 60 := by
                  have := wit_length (rowsV ys) la
                  rw [rowsV_length] at this
                  have := HLN.out
                  omega
                have hnwI : (nw : Int) ≤ 60 := by omega
                have HB8 := Lib.hid (bl_trans HB7.out hb8)
                have HS8 := Lib.hid (HS0.out.below hb8)
                have hcs8 := keep_cell hb8 HCS.out
                have HCS8 := Lib.hid hcs8
                obtain ⟨B, hB⟩ : ∃ B, B = w8.heap.size := ⟨_, rfl⟩
                have HBE := Lib.hid hB
                clear hsw how hb8 hnw hcs hcs8 hB HS0 HCS
                go_wp2
                go_loopw [13, 14] (fun hv kv wr => ∃ (j : Nat) (po : Option Addr) (co : Nat), j ≤ nw ∧ kv = .int .i64 (j : Nat) ∧ hv = .slice po j co ∧ Hid (wr.ownsRow B 31 1 (.slice po j co) j ((((witN (rowsV ys) la).take j).map (gs ys)).map svV)) ∧ Hid (Below w8.heap.size w8 wr)) (fun _ kv _ => nw - (intOf kv).toNat)
                case atStart => exact ⟨0, none, 0, Nat.zero_le _, rfl, rfl, World.ownsRow_nil _ _ _ 1, Below.refl _ _⟩
                case round =>
                  obtain ⟨j, po, co, hj, rfl, rfl, HOW, HB9⟩ := hrel
                  rename World => w9
                  have HWK : Hid (∀ x ∈ witN (rowsV ys) la, x < ys.length) := fun x hx => by
                    have := (mem_witN.1 hx).1
                    rw [rowsV_length] at this; exact this
                  by_cases hjn : j < nw
                  · have hjI : (j : Int) < nw := by omega
                    have hjw : j < (witN (rowsV ys) la).length := by have := HNW.out; omega
                    obtain ⟨bw, ow, rfl, hcw⟩ := slq_at (HSW.out.below HB9.out) (show j < (wit (rowsV ys) la).length by unfold wit; rw [List.length_map]; exact hjw)
                    obtain ⟨a, ha⟩ : ∃ a, a = (witN (rowsV ys) la)[j] := ⟨_, rfl⟩
                    rw [witN_get hjw, ← ha] at hcw
                    have hay : a < ys.length := HWK.out a (by rw [ha]; exact List.getElem_mem _)
                    have haI : (a : Int) < i := by have := HLN.out; omega
                    obtain ⟨bl, ol, rfl, hcl⟩ := sls_at (HY6.out.below (bl_trans HB8.out HB9.out)) hay
                    have HTK : Hid (((((witN (rowsV ys) la).take (j + 1)).map (gs ys)).map svV) = ((((witN (rowsV ys) la).take j).map (gs ys)).map svV) ++ [.slice (gs ys a).1 (gs ys a).2.2.length (gs ys a).2.1]) := by
                      show _ = _
                      rw [List.take_add_one, List.getElem?_eq_getElem hjw, ← ha, List.map_append, List.map_append]; rfl
                    obtain ⟨pb, hpb⟩ : ∃ pb, pb = (gs ys a).1 := ⟨_, rfl⟩
                    obtain ⟨nb, hnb⟩ : ∃ nb, nb = (gs ys a).2.2.length := ⟨_, rfl⟩
                    obtain ⟨cb, hcb⟩ : ∃ cb, cb = (gs ys a).2.1 := ⟨_, rfl⟩
                    rw [← hpb, ← hnb, ← hcb] at hcl HTK
                    have HJN := Lib.hid hjn
                    have HSZ : Hid (B ≤ w9.heap.size) := by have := HB9.out.size; have := HBE.out; show B ≤ _; omega
                    clear ha hay hjw hpb hnb hcb hjn
                    go_wp2_with (at_builtin; refine wpList_append_lies _ rfl _ _ 22 rfl B 31 i1 (.slice none 0 0) 1 24 Try.underlying22 ginf gz0 gz1 gz2 rfl (by decide) (.slice po j co) j _ rfl (HOW.out.alloc _) ⟨w9.heap.size, 0, none⟩ 1 1 [.slice pb nb cb] rfl rfl (cells_one_q _ _ _) (by simp [Value.oneCell']) (by omega) (by simp only [maxLen]; omega) (by omega) (by have := HSZ.out; simp; omega) (w9.heap.size + 1) (by simp) ?_; intro gg cap wA hownA hgrowA hatA hltA; have HOWA := Lib.hid hownA; have HGRA := Lib.hid hgrowA; clear hownA hgrowA hatA hltA)
                    go_wp2
                    go_roundw
                    case rel =>
                      refine ⟨j + 1, some ⟨gg, 0, none⟩, cap, by have := HJN.out; omega, by go_num, rfl, ?_, ?_⟩
                      · show World.ownsRow _ _ _ _ _ _ _
                        rw [HTK.out]; exact HOWA.out
                      · have h9 := bl_trans HB9.out (bl_alloc w9 (.cells #[.slice pb nb cb] 31))
                        exact h9.grown HGRA.out h9.size (fun q hq => by have := (HOW.out.lt q hq).1; have := HBE.out; omega)
                    case measure => have := HJN.out; simp [intOf]; omega
                  · have hjI : (nw : Int) ≤ j := by omega
                    have hje : j = nw := by omega
                    subst hje
                    have hfx : (witN (rowsV ys) la).take j = witN (rowsV ys) la := List.take_of_length_le (by have := HNW.out; omega)
                    have hyw := HY6.out.below (bl_trans HB8.out HB9.out)
                    obtain ⟨hs, hhs⟩ : ∃ hs, hs = (witN (rowsV ys) la).map (gs ys) := ⟨_, rfl⟩
                    have how := HOW.out
                    rw [hfx, ← hhs] at how
                    have hhl : j = hs.length := by rw [hhs, List.length_map]; exact HNW.out
                    have hsls : SlS w9 po hs := rows_sls how hhl (fun x hx => by
                      rw [hhs] at hx
                      obtain ⟨a, ha, rfl⟩ := List.mem_map.1 hx
                      exact hyw.1 _ (by rw [gs_get (HWK.out a ha)]; exact List.getElem_mem _))
                    have hfl : flat hs = ((witN (rowsV ys) la).map fun k => gl (rowsV ys) k).flatten := by rw [hhs]; exact flat_map_gs ys _ HWK.out
                    have hfb : (flat hs).length ≤ 1000 := by
                      have h1 := flat_sub ys ys.length (fun k => meetB (gl (rowsV ys) k) la) (Nat.le_refl _)
                      rw [List.take_length] at h1
                      have h2 : (List.range ys.length).filter (fun k => meetB (gl (rowsV ys) k) la) = witN (rowsV ys) la := by unfold witN; rw [rowsV_length]
                      rw [h2, ← hhs] at h1
                      have := HFY.out
                      omega
                    have hmade : cn (flat hs) = cn la := by rw [hfl]; exact HRO.out.made HNU.out HSM.out
                    have hkc := keep_cell (bl_drew w9) (keep_cell HB9.out HCS8.out)
                    have hsd := (HS8.out.below HB9.out).below (bl_drew w9)
                    clear hfx hhs how hfl
                    go_wp2
                    refine whole27_wp po pa j co bs os m c k na ca (flat hs) la (z := 0) (Nat.zero_le _) (by rfl) hs (by rfl) (by rfl) (by rfl) hkI hkc HNA.out hsd (by have := HLE.out; omega) hhl (hsls.below (bl_drew w9)) rfl (by omega) (by omega) hmade ?_ 27
                    intro f27 wB hkk hbB
                    have e9 : f27 9 = .bool false := hkk 9 (by decide) (by decide)
                    rw [e9]
                    have HBB := Lib.hid (bl_trans HB8.out (bl_trans HB9.out (bl_trans (bl_drew w9) hbB)))
                    clear hkk hbB e9 hhl hsls hfb hmade hkc hsd hyw
                    generalize f27 0 = g0, f27 1 = g1, f27 2 = g2, f27 3 = g3, f27 4 = g4, f27 5 = g5, f27 6 = g6, f27 7 = g7, f27 8 = g8
                    simp only [putL, List.foldl, Act.put, List.setIfInBounds_toArray, List.set_cons_zero, List.set_cons_succ]
                    clear f27
                    go_wp2
                    go_roundw
                    case rel => exact ⟨k + 1, by have := HKM.out; omega, by go_num, HBB.out⟩
                    case measure => have := HKM.out; simp [intOf]; omega
              · have hkI : (m : Int) ≤ k := by omega
                have HTD := Lib.hid (told_any p le r c lc f m i t xs ys ps num wr HM.out HLN.out HT.out (HX.out.below (bl_trans HL6.out HB7.out)) (HY6.out.below HB7.out) (HRR.out.below (bl_trans HL6.out HB7.out)) HNU.out HRO.out (by have := HQ.out; omega) (by have := HFY.out; omega) (by omega) (by omega) (by have := HT40.out; omega))
                go_wp2_with fail
                refine HTD.out.mono ?_
                rintro e w8 ⟨rfl, hb8⟩
                have HB8 := Lib.hid (bl_trans HL6.out (bl_trans HB7.out hb8))
                clear hb8
                go_wp2
                go_ret
                exact ⟨rfl, HB8.out⟩
end Go.Proofs.Ytkcjfgkfhjanpaa
