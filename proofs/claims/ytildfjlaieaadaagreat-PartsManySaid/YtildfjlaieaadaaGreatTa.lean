/- The walks of SameInts at rows that hold the same; of the document's Class, Firsts, Within. -/
import Derived.Test.YtildfjlaieaadaaGreatSzb2

namespace Go.Proofs.YtildfjlaieaadaaGreat
open Go.RowKit Tnr

set_option maxHeartbeats 800000 in
set_option maxRecDepth 100000 in
theorem sameInts_any (p q : Option Addr) (c d n : Nat) (l : List Int) (w : World) (hn : n = l.length) (hp : SlQ w p l) (hq : SlQ w q l) (hl : n ≤ 1000000) :
    Calls Tryz.prog 23 #[.slice p n c, .slice q n d] w fun e w' => e = .returned (.bool true) ∧ Below w.heap.size w w' := by
  have HP := Lib.hid hp
  have HQ := Lib.hid hq
  have HN := Lib.hid hn
  have hnI : (n : Int) ≤ 1000000 := by omega
  clear hp hq hn hl
  go_enter Tryz.func23, Tryz.ntmps23
  go_wp2
  go_loopw [5] (fun iv wr => ∃ (k r : Nat), k ≤ n ∧ iv = .int .i64 (k : Nat) ∧ wr = w.drewN r) (fun iv _ => n - (intOf iv).toNat)
  case atStart => exact ⟨0, 0, Nat.zero_le _, rfl, rfl⟩
  case round =>
    obtain ⟨k, r, hk, rfl, rfl⟩ := hrel
    by_cases hkn : k < n
    · have hkI : (k : Int) < n := by omega
      obtain ⟨b1, o1, rfl, hc1⟩ := slq_at HP.out (show k < l.length by have := HN.out; omega)
      obtain ⟨b2, o2, rfl, hc2⟩ := slq_at HQ.out (show k < l.length by have := HN.out; omega)
      obtain ⟨x, hx⟩ : ∃ x, x = gq l k := ⟨_, rfl⟩
      rw [← hx] at hc1 hc2
      have hb : (x != x) = false := by simp
      clear hx
      go_wp2
      go_quiet (fail)
      go_wp2
      go_roundw
      case rel => exact ⟨k + 1, _, by omega, by go_num, rfl⟩
      case measure => simp [intOf]; omega
    · have hkI : (n : Int) ≤ k := by omega
      go_wp2
      go_ret
      exact ⟨rfl, drewN_below _ _⟩

set_option maxHeartbeats 1600000 in
set_option maxRecDepth 100000 in
theorem rclass_any (p : Option Addr) (c m : Nat) (xs : List SV) (z : Int) (w : World) (hm : m = xs.length) (hx : SlS w p xs) (hl : xs.length ≤ 1000000) (hf : (flat xs).length ≤ 1000000) :
    Calls Tryz.prog 20 #[.slice p m c, .int .i64 z] w fun e w' => ∃ k b, e = .returned (.tuple #[.int .i64 (k : Nat), .bool b]) ∧ ClsR (rowsV xs) z k b ∧ Below w.heap.size w w' := by
  have HX := Lib.hid hx
  have HM := Lib.hid hm
  have HF := Lib.hid hf
  have hmI : (m : Int) ≤ 1000000 := by omega
  clear hx hm hf hl
  go_enter Tryz.func20, Tryz.ntmps20
  go_wp2
  go_loopw [6] (fun iv wr => ∃ i : Nat, i ≤ m ∧ iv = .int .i64 (i : Nat) ∧ Hid (Below w.heap.size w wr) ∧ Hid (∀ k, k < i → ¬ Has (gl (rowsV xs) k) z)) (fun iv _ => m - (intOf iv).toNat)
  case atStart => exact ⟨0, Nat.zero_le _, rfl, Below.refl _ _, fun k hk => absurd hk (by omega)⟩
  case round =>
    obtain ⟨i, hi, rfl, HB, HN⟩ := hrel
    rename World => wr
    by_cases him : i < m
    · have hiI : (i : Int) < m := by omega
      have hix : i < xs.length := by have := HM.out; omega
      obtain ⟨b, o, rfl, hc⟩ := sls_at (HX.out.below HB.out) hix
      have hs0 : SlR wr (gs xs i).1 (gs xs i).2.2 := (HX.out.below HB.out).1 _ (by rw [gs_get hix]; exact List.getElem_mem _)
      have HGL : Hid (gl (rowsV xs) i = (gs xs i).2.2) := rowsV_gl hix
      have HLE : Hid ((gs xs i).2.2.length ≤ 1000000) := by have := flat_one_le hix; have := HF.out; show _ ≤ _; omega
      obtain ⟨pa, ca, la, hga⟩ : ∃ pa ca la, gs xs i = (pa, ca, la) := ⟨_, _, _, rfl⟩
      rw [hga] at hc hs0 HGL HLE
      simp only at hc hs0
      have HS := Lib.hid (rhas_any pa ca la.length la z wr rfl hs0 (by have := HLE.out; simp only at this; omega))
      obtain ⟨na, hna⟩ : ∃ na, na = la.length := ⟨_, rfl⟩
      rw [← hna] at hc HS
      clear hga hs0 hna hix
      go_wp2_with fail
      refine HS.out.mono ?_
      clear HS
      rintro e w2 ⟨rfl, rfl⟩
      have HB2 := HB
      by_cases hh : Has la z
      · have e1 : hasB la z = true := by unfold hasB; simpa using hh
        rw [e1]
        have HH : Hid (Has (gl (rowsV xs) i) z) := by show Has _ _; rw [HGL.out]; exact hh
        clear hh e1
        go_wp2
        refine bodyPost_ret (v := .tuple #[.int .i64 (i : Nat), .bool true]) (by simp [results, Tryz.f20, go_sem]) rfl ⟨i, true, rfl, .inl ⟨rfl, by rw [rowsV_length, ← HM.out]; exact him, HH.out, HN.out⟩, HB2.out⟩
      · have e1 : hasB la z = false := by unfold hasB; simpa using hh
        rw [e1]
        have HH : Hid (∀ k, k < i + 1 → ¬ Has (gl (rowsV xs) k) z) := by
          intro k hk
          by_cases e : k = i
          · rw [e, HGL.out]; exact hh
          · exact HN.out k (by omega)
        clear hh e1
        go_wp2
        go_roundw
        case rel => exact ⟨i + 1, by omega, by go_num, HB2.out, HH.out⟩
        case measure => simp [intOf]; omega
    · have hiI : (m : Int) ≤ i := by omega
      go_wp2
      refine bodyPost_ret (v := .tuple #[.int .i64 (0 : Nat), .bool false]) (by simp [results, Tryz.f20, go_sem]) rfl ⟨0, false, rfl, .inr ⟨rfl, rfl, fun k hk => HN.out k (by rw [rowsV_length] at hk; have := HM.out; omega)⟩, HB.out⟩

set_option maxHeartbeats 1600000 in
set_option maxRecDepth 100000 in
theorem rfirsts_any (p : Option Addr) (c m : Nat) (xs : List SV) (w : World) (hm : m = xs.length) (hx : SlS w p xs) (hl : xs.length ≤ 10000) (hf : (flat xs).length ≤ 10000) :
    Calls Tryz.prog 24 #[.slice p m c] w fun e w' => ∃ q cq, e = .returned (.slice q m cq) ∧ OwnQ w' w.heap.size (.slice q m cq) ((rowsV xs).map fst1) ∧ Below w.heap.size w w' := by
  obtain ⟨i0, hinf, hz0, hz1, hz2⟩ := info_parts info_intq
  have HX := Lib.hid hx
  have HM := Lib.hid hm
  have HF := Lib.hid hf
  have hmI : (m : Int) ≤ 10000 := by omega
  obtain ⟨B, hB⟩ : ∃ B, B = w.heap.size := ⟨_, rfl⟩
  have HB := Lib.hid hB
  rw [← hB]
  clear hx hm hf hl hB
  go_enter Tryz.func24, Tryz.ntmps24
  go_wp2
  go_loopw [3, 4] (fun lv iv wr => ∃ (k : Nat) (q : Option Addr) (cq : Nat), k ≤ m ∧ iv = .int .i64 (k : Nat) ∧ lv = .slice q k cq ∧ Hid (OwnQ wr B (.slice q k cq) (((rowsV xs).take k).map fst1)) ∧ Hid (Below B w wr)) (fun _ iv _ => m - (intOf iv).toNat)
  case atStart => exact ⟨0, none, 0, Nat.zero_le _, rfl, rfl, ownQ_nil _ _, Below.refl _ _⟩
  case round =>
    obtain ⟨k, q, cq, hk, rfl, rfl, HO, HBL⟩ := hrel
    rename World => wr
    by_cases hkm : k < m
    · have hkI : (k : Int) < m := by omega
      have hkx : k < xs.length := by have := HM.out; omega
      have hlow : Below w.heap.size w wr := by rw [← HB.out]; exact HBL.out
      obtain ⟨b, o, rfl, hc⟩ := sls_at (HX.out.below hlow) hkx
      have hs0 : SlR wr (gs xs k).1 (gs xs k).2.2 := (HX.out.below hlow).1 _ (by rw [gs_get hkx]; exact List.getElem_mem _)
      have HGL : Hid (gl (rowsV xs) k = (gs xs k).2.2) := rowsV_gl hkx
      have HLE : Hid ((gs xs k).2.2.length ≤ 10000) := by have := flat_one_le hkx; have := HF.out; show _ ≤ _; omega
      obtain ⟨pa, ca, la, hga⟩ : ∃ pa ca la, gs xs k = (pa, ca, la) := ⟨_, _, _, rfl⟩
      rw [hga] at hc hs0 HGL HLE
      simp only at hc hs0
      have HS := Lib.hid (rleast_any pa ca la.length la wr rfl hs0 (by have := HLE.out; simp only at this; omega))
      have HE : Hid (((rowsV xs).take (k + 1)).map fst1 = ((rowsV xs).take k).map fst1 ++ [fst1 la]) := by
        show _ = _
        rw [map_take_gl fst1 _ (by rw [rowsV_length]; exact hkx), HGL.out]
      have HLN : Hid (k = (((rowsV xs).take k).map fst1).length) := by
        show _ = _
        rw [List.length_map, List.length_take, rowsV_length]; omega
      obtain ⟨na, hna⟩ : ∃ na, na = la.length := ⟨_, rfl⟩
      rw [← hna] at hc HS
      clear hga hs0 hna hkx hlow
      go_wp2_with fail
      refine HS.out.mono ?_
      clear HS
      rintro e w2 ⟨rfl, hb2⟩
      have HBL2 : Hid (Below B w w2) := HBL.out.trans (hb2.mono (by have h := HBL.out.size; have := HB.out; omega))
      have HO2 := Lib.hid (ownQ_below HO.out hb2)
      have HROW := Lib.hid (ownQ_row HO2.out HLN.out)
      have hsz : B ≤ w2.heap.size := by have h := HBL2.out.size; have := HB.out; omega
      have HSZ := Lib.hid hsz
      obtain ⟨x, t, hxt⟩ : ∃ x t, lst la = (x, t) := ⟨_, _, rfl⟩
      rw [hxt]
      clear hb2
      cases t with
      | true =>
        have HF1 : Hid (fst1 la = x) := by show fst1 la = x; unfold fst1; rw [hxt]; rfl
        clear hxt
        go_wp2_with (at_builtin; refine wpList_append_lies _ rfl _ _ 32 rfl B 3 i0 (.int .i64 0) 1 8 Tryz.underlying32 hinf hz0 hz1 hz2 rfl (by decide) (.slice q k cq) k _ rfl (HROW.out.alloc _) ⟨w2.heap.size, 0, none⟩ 1 1 [.int .i64 x] rfl rfl (cells_one_q _ _ _) (by simp [Value.oneCell']) (by omega) (by simp only [maxLen]; omega) (by omega) (by have := HSZ.out; simp; omega) (w2.heap.size + 1) (by simp) ?_; intro gg cap w5 hown5 hgrow5 hat5 hlt5; have HOW := Lib.hid hown5; have HGR := Lib.hid hgrow5; clear hown5 hgrow5 hat5 hlt5)
        go_wp2
        go_roundw
        case rel =>
          refine ⟨k + 1, some ⟨gg, 0, none⟩, cap, by omega, by go_num, rfl, ?_, ?_⟩
          · show OwnQ _ _ _ _
            rw [HE.out, HF1.out]
            exact ownQ_appended HLN.out HOW.out
          · exact (HBL2.out.alloc HSZ.out _).grown HGR.out (by have := HSZ.out; simp; omega) (fun k hk => (HROW.out.lt k hk).1)
        case measure => simp [intOf]; omega
      | false =>
        have HF1 : Hid (fst1 la = -1) := by show fst1 la = -1; unfold fst1; rw [hxt]; rfl
        clear hxt
        go_wp2_with (at_builtin; refine wpList_append_lies _ rfl _ _ 32 rfl B 3 i0 (.int .i64 0) 1 8 Tryz.underlying32 hinf hz0 hz1 hz2 rfl (by decide) (.slice q k cq) k _ rfl (HROW.out.alloc _) ⟨w2.heap.size, 0, none⟩ 1 1 [.int .i64 (-1)] rfl rfl (cells_one_q _ _ _) (by simp [Value.oneCell']) (by omega) (by simp only [maxLen]; omega) (by omega) (by have := HSZ.out; simp; omega) (w2.heap.size + 1) (by simp) ?_; intro gg cap w5 hown5 hgrow5 hat5 hlt5; have HOW := Lib.hid hown5; have HGR := Lib.hid hgrow5; clear hown5 hgrow5 hat5 hlt5)
        go_wp2
        go_roundw
        case rel =>
          refine ⟨k + 1, some ⟨gg, 0, none⟩, cap, by omega, by go_num, rfl, ?_, ?_⟩
          · show OwnQ _ _ _ _
            rw [HE.out, HF1.out]
            exact ownQ_appended HLN.out HOW.out
          · exact (HBL2.out.alloc HSZ.out _).grown HGR.out (by have := HSZ.out; simp; omega) (fun k hk => (HROW.out.lt k hk).1)
        case measure => simp [intOf]; omega
    · have hkI : (m : Int) ≤ k := by omega
      have hke : k = m := by omega
      subst hke
      go_wp2
      go_ret
      refine ⟨q, cq, rfl, ?_, HBL.out⟩
      have h := HO.out
      rw [List.take_of_length_le (by rw [rowsV_length]; have := HM.out; omega)] at h
      exact h
theorem meets_len (a b : List R) : (0 < (mt a b).length) ↔ Meets a b := by
  constructor
  · intro h
    obtain ⟨r, hr⟩ := List.exists_mem_of_length_pos h
    have hrt := mt_right a b
    obtain ⟨k, hk, e⟩ := mem_gr hr
    have h2 := (rf_low hrt).2 k hk
    rw [e] at h2
    have hc : Has (mt a b) r.1 := (hrt.has r.1).2 ⟨r, hr, Int.le_refl _, h2.2⟩
    exact ⟨r.1, (mt_has a b r.1).1 hc⟩
  · rintro ⟨c, h1, h2⟩
    obtain ⟨_, _, r, hr, _⟩ := (mt_has a b c).2 ⟨h1, h2⟩
    exact List.length_pos_of_mem hr

set_option maxHeartbeats 3200000 in
set_option maxRecDepth 100000 in
theorem rwithin_any (p : Option Addr) (c m : Nat) (xs : List SV) (ps : Option Addr) (cs ms : Nat) (s : List R) (w : World) (hm : m = xs.length) (hx : SlS w p xs) (hl : xs.length ≤ 3000) (hf : (flat xs).length ≤ 3000) (hms : ms = s.length) (hs : SlR w ps s) (hsl : s.length ≤ 3000) :
    Calls Tryz.prog 25 #[.slice p m c, .slice ps ms cs] w fun e w' => ∃ q n cq, e = .returned (.slice q n cq) ∧ n = (wit (rowsV xs) s).length ∧ OwnQ w' w.heap.size (.slice q n cq) (wit (rowsV xs) s) ∧ Below w.heap.size w w' := by
  obtain ⟨i0, hinf, hz0, hz1, hz2⟩ := info_parts info_intq
  have HX := Lib.hid hx
  have HM := Lib.hid hm
  have HF := Lib.hid hf
  have HS := Lib.hid hs
  have HMS := Lib.hid hms
  have HSL := Lib.hid hsl
  have hmI : (m : Int) ≤ 3000 := by omega
  obtain ⟨B, hB⟩ : ∃ B, B = w.heap.size := ⟨_, rfl⟩
  have HB := Lib.hid hB
  clear hx hm hf hl hms hs hsl hB
  go_enter Tryz.func25, Tryz.ntmps25
  go_wp2
  go_loopw [5, 6] (fun lv iv wr => ∃ (k j : Nat) (po : Option Addr) (co : Nat), k ≤ m ∧ iv = .int .i64 (k : Nat) ∧ lv = .slice po j co ∧ Hid (j = (witK (rowsV xs) s k).length) ∧ Hid (OwnQ wr B (.slice po j co) (witK (rowsV xs) s k)) ∧ Hid (Below B w wr)) (fun _ iv _ => m - (intOf iv).toNat)
  case atStart => exact ⟨0, 0, none, 0, Nat.zero_le _, rfl, rfl, rfl, ownQ_nil _ _, Below.refl _ _⟩
  case round =>
    obtain ⟨k, j, po, co, hk, rfl, rfl, HJ, HO, HBL⟩ := hrel
    rename World => wr
    by_cases hkm : k < m
    · have hkI : (k : Int) < m := by omega
      have hkx : k < xs.length := by have := HM.out; omega
      have hjk : j ≤ k := by have := witK_length (rowsV xs) s k; have := HJ.out; omega
      have hjI : (j : Int) ≤ 3000 := by omega
      have hlow : Below w.heap.size w wr := by rw [← HB.out]; exact HBL.out
      obtain ⟨b, o, rfl, hc⟩ := sls_at (HX.out.below hlow) hkx
      have hs0 : SlR wr (gs xs k).1 (gs xs k).2.2 := (HX.out.below hlow).1 _ (by rw [gs_get hkx]; exact List.getElem_mem _)
      have HGL : Hid (gl (rowsV xs) k = (gs xs k).2.2) := rowsV_gl hkx
      have HLE : Hid ((gs xs k).2.2.length ≤ 3000) := by have := flat_one_le hkx; have := HF.out; show _ ≤ _; omega
      obtain ⟨pa, ca, la, hga⟩ : ∃ pa ca la, gs xs k = (pa, ca, la) := ⟨_, _, _, rfl⟩
      rw [hga] at hc hs0 HGL HLE
      simp only at hc hs0
      have HLE : Hid (la.length ≤ 3000) := HLE
      have HGL : Hid (gl (rowsV xs) k = la) := HGL
      obtain ⟨na, hna⟩ : ∃ na, na = la.length := ⟨_, rfl⟩
      have HMT := Lib.hid (rmeet_any pa ps ca cs na ms la s (mt la s) wr rfl hna HMS.out hs0 (HS.out.below hlow) (by have := HLE.out; have := HSL.out; omega))
      rw [← hna] at hc
      clear hga hs0 hna hkx hlow
      go_wp2_with fail
      refine HMT.out.mono ?_
      clear HMT
      rintro e w2 ⟨qm, dm, rfl, -, hb2⟩
      obtain ⟨nm, hnm⟩ : ∃ nm, nm = (mt la s).length := ⟨_, rfl⟩
      rw [← hnm]
      have HMM : Hid (0 < nm ↔ Meets (gl (rowsV xs) k) s) := by show _ ↔ _; rw [hnm, HGL.out]; exact meets_len la s
      have HBL2 : Hid (Below B w w2) := HBL.out.trans (hb2.mono (by have h := HBL.out.size; have := HB.out; omega))
      have HO2 := Lib.hid (ownQ_below HO.out hb2)
      have HROW := Lib.hid (ownQ_row HO2.out HJ.out)
      have HSZ : Hid (B ≤ w2.heap.size) := by have h := HBL2.out.size; have := HB.out; show _ ≤ _; omega
      clear hb2 hc hnm
      by_cases hn0 : 0 < nm
      · have hn0I : 0 < (nm : Int) := by omega
        have HE : Hid (witK (rowsV xs) s (k + 1) = witK (rowsV xs) s k ++ [(k : Int)]) := witK_yes (HMM.out.1 hn0)
        clear hn0
        go_wp2_with (at_builtin; refine wpList_append_lies _ rfl _ _ 32 rfl B 3 i0 (.int .i64 0) 1 8 Tryz.underlying32 hinf hz0 hz1 hz2 rfl (by decide) (.slice po j co) j _ rfl (HROW.out.alloc _) ⟨w2.heap.size, 0, none⟩ 1 1 [.int .i64 (k : Nat)] rfl rfl (cells_one_q _ _ _) (by simp [Value.oneCell']) (by omega) (by simp only [maxLen]; omega) (by omega) (by have := HSZ.out; simp; omega) (w2.heap.size + 1) (by simp) ?_; intro gg cap w5 hown5 hgrow5 hat5 hlt5; have HOW := Lib.hid hown5; have HGR := Lib.hid hgrow5; clear hown5 hgrow5 hat5 hlt5)
        go_wp2
        go_roundw
        case rel =>
          refine ⟨k + 1, j + 1, some ⟨gg, 0, none⟩, cap, by omega, by go_num, rfl, ?_, ?_, ?_⟩
          · show j + 1 = _
            rw [HE.out, List.length_append, ← HJ.out]; rfl
          · show OwnQ _ _ _ _
            rw [HE.out]
            exact ownQ_appended HJ.out HOW.out
          · exact (HBL2.out.alloc HSZ.out _).grown HGR.out (by have := HSZ.out; simp; omega) (fun k hk => (HROW.out.lt k hk).1)
        case measure => simp [intOf]; omega
      · have hn0I : (nm : Int) ≤ 0 := by omega
        have HE : Hid (witK (rowsV xs) s (k + 1) = witK (rowsV xs) s k) := witK_no (fun q => hn0 (HMM.out.2 q))
        clear hn0
        go_wp2
        go_roundw
        case rel =>
          refine ⟨k + 1, j, po, co, by omega, by go_num, rfl, ?_, ?_, HBL2.out⟩
          · show j = _
            rw [HE.out]; exact HJ.out
          · show OwnQ _ _ _ _
            rw [HE.out]; exact HO2.out
        case measure => simp [intOf]; omega
    · have hkI : (m : Int) ≤ k := by omega
      have hke : k = m := by omega
      subst hke
      have e : k = (rowsV xs).length := by rw [rowsV_length]; exact HM.out
      have HE : Hid (witK (rowsV xs) s k = wit (rowsV xs) s) := by show _ = _; rw [e]; rfl
      clear e
      go_wp2
      go_ret
      exact ⟨po, j, co, rfl, by rw [← HE.out]; exact HJ.out, by rw [← HE.out, ← HB.out]; exact HO.out, by have h := HBL.out; rw [HB.out] at h; exact h⟩
end Go.Proofs.YtildfjlaieaadaaGreat
