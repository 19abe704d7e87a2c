/- FoldEnds' walk. -/
import Derived.Test.YtglgfpapackcdaaGreatGte

namespace Go.Proofs.YtglgfpapackcdaaGreat
open Go.RowKit Tnr

set_option maxHeartbeats 6400000 in
set_option maxRecDepth 100000 in
theorem foldEnds_true (w : World) : Calls Tryz.prog 3 #[] w fun e w' => e = .returned (.bool true) ∧ Below w.heap.size w w' := by
  obtain ⟨bn, hbn⟩ : ∃ bn, bn = w.heap.size := ⟨_, rfl⟩
  obtain ⟨wa, hwa⟩ : ∃ W, W = w.alloc (.cells #[.int .i64 (-9223372036854775808), .int .i64 (-1), .int .i64 0, .int .i64 65, .int .i64 75, .int .i64 97, .int .i64 107, .int .i64 115, .int .i64 383, .int .i64 8490, .int .i64 1114111, .int .i64 1114112, .int .i64 9223372036854775807] 3) := ⟨_, rfl⟩
  obtain ⟨wb, hwb⟩ : ∃ W, W = wa.alloc (.cells #[.int .i64 107, .int .i64 112] 24) := ⟨_, rfl⟩
  obtain ⟨wc, hwc⟩ : ∃ W, W = wb.alloc (.cells #[.int .i64 65, .int .i64 65] 24) := ⟨_, rfl⟩
  obtain ⟨w1, hw1⟩ : ∃ W, W = wc.alloc (.cells #[.slice (some ⟨bn + 1, 0, none⟩) 1 1, .slice (some ⟨bn + 2, 0, none⟩) 1 1] 25) := ⟨_, rfl⟩
  have sa : wa.heap.size = bn + 1 := by rw [hwa, hbn]; simp
  have sb : wb.heap.size = bn + 2 := by rw [hwb]; simp [sa]
  have sc : wc.heap.size = bn + 3 := by rw [hwc]; simp [sb]
  have ba : Below w.heap.size w wa := by rw [hwa]; exact bl_alloc _ _
  have bb : Below wa.heap.size wa wb := by rw [hwb]; exact bl_alloc _ _
  have bc : Below wb.heap.size wb wc := by rw [hwc]; exact bl_alloc _ _
  have bd : Below wc.heap.size wc w1 := by rw [hw1]; exact bl_alloc _ _
  have hA : SlR wc (some ⟨bn + 1, 0, none⟩) [(107, 112)] := by
    have h0 : OwnR wb wa.heap.size (.slice (some ⟨wa.heap.size, 0, none⟩) 1 1) [(107, 112)] := by rw [hwb]; exact ownR_new (Nat.le_refl _) rfl rfl (by decide)
    rw [sa] at h0
    exact (ownR_sl (ownR_below h0 bc)).1
  have hL : SlR wc (some ⟨bn + 2, 0, none⟩) [(65, 65)] := by
    have h0 : OwnR wc wb.heap.size (.slice (some ⟨wb.heap.size, 0, none⟩) 1 1) [(65, 65)] := by rw [hwc]; exact ownR_new (Nat.le_refl _) rfl rfl (by decide)
    rw [sb] at h0
    exact (ownR_sl h0).1
  have hS : SlS w1 (some ⟨bn + 3, 0, none⟩) (setL (bn + 1)) := by
    have h0 : SlS w1 (some ⟨wc.heap.size, 0, none⟩) (setL (bn + 1)) := by
      rw [hw1]
      refine sls_new (fun x hx => ?_) rfl
      simp only [setL, List.mem_cons, List.not_mem_nil, or_false] at hx
      rcases hx with rfl | rfl
      · exact hA
      · exact hL
    rw [sc] at h0; exact h0
  have hctx : Ctx w1 bn w1 := by
    refine ⟨fun k hk => keep_cell (bl_trans bb (bl_trans bc bd)) ?_, hS, ⟨fun x hx => ?_, .inr ⟨bn + 3, 1, rfl, fun i hi => ?_⟩⟩, Below.refl _ _⟩
    · rw [hwa, hbn, World.cell?_alloc_at _ _ _ _ rfl]
      match k, hk with
      | 0, _ => rfl
      | 1, _ => rfl
      | 2, _ => rfl
      | 3, _ => rfl
      | 4, _ => rfl
      | 5, _ => rfl
      | 6, _ => rfl
      | 7, _ => rfl
      | 8, _ => rfl
      | 9, _ => rfl
      | 10, _ => rfl
      | 11, _ => rfl
      | 12, _ => rfl
      | k + 13, h => exact absurd h (by omega)
    · simp only [List.mem_cons, List.not_mem_nil, or_false] at hx
      subst hx
      exact hL.below bd
    · have h1 : i = 0 := by simpa using hi
      subst h1
      rcases hS.2 with h | ⟨b, off, h2, h3⟩
      · simp [setL] at h
      · simp only [Option.some.injEq, Addr.mk.injEq, and_true] at h2
        obtain ⟨rfl, rfl⟩ := h2
        exact h3 1 (by simp [setL])
  have hb1 : Below w.heap.size w w1 := bl_trans ba (bl_trans bb (bl_trans bc bd))
  have HC1 := Lib.hid hctx
  have HB1 := Lib.hid hb1
  clear hctx hb1 ba bb bc bd hA hL hS sa sb sc
  go_enter Tryz.func3, Tryz.ntmps3
  go_wp2
  rw [show w.heap.size + 1 + 1 + 1 = bn + 3 by omega, show w.heap.size + 1 + 1 = bn + 2 by omega, show w.heap.size + 1 = bn + 1 by omega, show w.heap.size = bn from hbn.symm, ← hwa, ← hwb, ← hwc, ← hw1]
  clear hw1 hwa hwb hwc hbn
  go_loopw [3] (fun iv wr => ∃ i : Nat, i ≤ 4 ∧ iv = .int .i64 (i : Nat) ∧ Hid (Ctx w1 bn wr)) (fun iv _ => 4 - (intOf iv).toNat)
  case atStart => exact ⟨0, by omega, rfl, HC1.out⟩
  case round =>
    obtain ⟨i, hi, rfl, HC⟩ := hrel
    rename World => wr
    by_cases hi4 : i < 4
    · have hiI : (i : Int) < 4 := by omega
      have HI := Lib.hid hi4
      clear hi4 hi
      go_wp2
      go_loopw [4] (fun kv wi => ∃ k : Nat, k ≤ 13 ∧ kv = .int .i64 (k : Nat) ∧ Hid (Ctx w1 bn wi)) (fun kv _ => 13 - (intOf kv).toNat)
      case atStart => exact ⟨0, by omega, rfl, HC.out⟩
      case round =>
        obtain ⟨k, hk, rfl, HCk⟩ := hrel
        rename World => wi
        by_cases hk13 : k < 13
        · have hkI : (k : Int) < 13 := by omega
          have HK := Lib.hid hk13
          clear hk13 hk
          go_wp2_with fail
          refine (some_own wi).mono ?_
          rintro e wa ⟨b1, rfl, hs1, hba⟩
          have HLO1 := Lib.hid hs1.lo
          have HHI1 := Lib.hid hs1.hi
          have HS1 := Lib.hid hs1
          have HBA := Lib.hid hba
          clear hs1 hba
          go_wp2_with fail
          refine (some_own wa).mono ?_
          rintro e wb ⟨b2, rfl, hs2, hbb⟩
          have HLT : Hid (b1 + 3 < b2) := Nat.lt_of_lt_of_le HHI1.out hs2.lo
          have HHI2 := Lib.hid hs2.hi
          have HS1 := Lib.hid (HS1.out.below hbb)
          have HS2 := Lib.hid hs2
          have HBB := Lib.hid (bl_trans HBA.out hbb)
          clear hs2 hbb
          generalize hb5 : wb.heap.size = b5
          obtain ⟨wc, hwc⟩ : ∃ W, W = (wb.alloc (.cells #[.slice (some ⟨b1, 0, none⟩) 4 4, .slice (some ⟨b1 + 3, 0, none⟩) 2 2] 30)).alloc (.cells #[.slice (some ⟨b2, 0, none⟩) 4 4, .slice (some ⟨b2 + 3, 0, none⟩) 2 2] 30) := ⟨_, rfl⟩
          have hbc : Below wb.heap.size wb wc := by rw [hwc]; exact bl_trans (bl_alloc _ _) (bl_alloc _ _)
          have h50 : wc.cell? ⟨b5, 0, none⟩ = some (.slice (some ⟨b1, 0, none⟩) 4 4) := by rw [hwc, ← hb5, World.cell?_alloc_past _ _ _ (by simp), World.cell?_alloc_at _ _ _ _ rfl]; rfl
          have h51 : wc.cell? ⟨b5, 1, none⟩ = some (.slice (some ⟨b1 + 3, 0, none⟩) 2 2) := by rw [hwc, ← hb5, World.cell?_alloc_past _ _ _ (by simp), World.cell?_alloc_at _ _ _ _ rfl]; rfl
          have h60 : wc.cell? ⟨b5 + 1, 0, none⟩ = some (.slice (some ⟨b2, 0, none⟩) 4 4) := by rw [hwc, ← hb5, World.cell?_alloc_at _ _ _ _ (by simp)]; rfl
          have h61 : wc.cell? ⟨b5 + 1, 1, none⟩ = some (.slice (some ⟨b2 + 3, 0, none⟩) 2 2) := by rw [hwc, ← hb5, World.cell?_alloc_at _ _ _ _ (by simp)]; rfl
          have HBC := Lib.hid (bl_trans HBB.out hbc)
          have HCc := ctx_below HCk HBC.out
          have HS1 := Lib.hid (HS1.out.below hbc)
          have HS2 := Lib.hid (HS2.out.below hbc)
          have HSZ : Hid (wb.heap.size = b5) := hb5
          clear hbc
          go_wp2
          try rw [hb5]
          rw [← hwc]
          clear hb5 hwc
          have hnu := HCc.out.nu k HK.out
          obtain ⟨v, hv⟩ : ∃ v, v = gi numsL k := ⟨_, rfl⟩
          rw [← hv] at hnu
          clear hv
          have hf0 := (ownF_cellN HS1.out.fo HS1.out.fl.symm i (by have := HI.out; omega)).1
          have hff : wc.frozen? ⟨b1, i * 2, none⟩ = false := HS1.out.fo.frozenAt (i * 2)
          have HI4 : Hid (i < 4) := HI
          have HL5 : Hid (b2 + 3 < b5) := by have h1 := HHI2.out; have h2 := HSZ.out; show _ < _; omega
          have HBN : Hid (bn < wi.heap.size) := World.block_lt_of_cell? wi _ (HCk.out.nu 0 (by decide))
          obtain ⟨wd, hwd⟩ : ∃ W, W = (wc.setCell ⟨b1, i * 2, none⟩ (.int .i64 v)).drew := ⟨_, rfl⟩
          have hx1 := HS1.out.fold i HI4.out v
          obtain ⟨cur1, hcur1⟩ := ownF_block HS1.out.fo
          have HS1d : Hid (Some0 wd wi.heap.size b1 (F0.set i (v, (gr F0 i).2)) (P0 b1)) := by rw [hwd]; exact hx1.1.below (bl_drew _)
          have HS2d : Hid (Some0 wd wa.heap.size b2 F0 (P0 b2)) := by
            rw [hwd]
            exact (HS2.out.other ⟨b1, i * 2, none⟩ (.int .i64 v) (by show b2 ≠ b1; have := HLT.out; omega) (by show b2 + 3 ≠ b1; have := HLT.out; omega) hcur1 (by decide)).below (bl_drew _)
          have HBD : Hid (Below wi.heap.size wi wd) := by rw [hwd]; exact bl_set HBC.out HLO1.out _
          have k50 : wd.cell? ⟨b5, 0, none⟩ = some (.slice (some ⟨b1, 0, none⟩) 4 4) := by rw [hwd]; exact cell_far h50 (by show b1 ≠ b5; have := HLT.out; have := HL5.out; omega)
          have k51 : wd.cell? ⟨b5, 1, none⟩ = some (.slice (some ⟨b1 + 3, 0, none⟩) 2 2) := by rw [hwd]; exact cell_far h51 (by show b1 ≠ b5; have := HLT.out; have := HL5.out; omega)
          have k60 : wd.cell? ⟨b5 + 1, 0, none⟩ = some (.slice (some ⟨b2, 0, none⟩) 4 4) := by rw [hwd]; exact cell_far h60 (by show b1 ≠ b5 + 1; have := HLT.out; have := HL5.out; omega)
          have k61 : wd.cell? ⟨b5 + 1, 1, none⟩ = some (.slice (some ⟨b2 + 3, 0, none⟩) 2 2) := by rw [hwd]; exact cell_far h61 (by show b1 ≠ b5 + 1; have := HLT.out; have := HL5.out; omega)
          have knu : wd.cell? ⟨bn, k, none⟩ = some (.int .i64 v) := by rw [hwd]; exact cell_far hnu (by show b1 ≠ bn; have := HBN.out; have := HLO1.out; omega)
          clear hx1 hcur1
          go_region
          rw [← hwd]
          clear hwd h50 h51 h60 h61 hnu hf0 hff HS1 HS2 HCc
          have hf0 := (ownF_cellN HS2d.out.fo HS2d.out.fl.symm i (by have := HI4.out; omega)).2
          have hff : wd.frozen? ⟨b2, i * 2 + 1, none⟩ = false := HS2d.out.fo.frozenAt (i * 2 + 1)
          go_wp2
          obtain ⟨we, hwe⟩ : ∃ W, W = (wd.setCell ⟨b2, i * 2 + 1, none⟩ (.int .i64 v)).drew := ⟨_, rfl⟩
          have hx2 := HS2d.out.fold i HI4.out v
          obtain ⟨cur2, hcur2⟩ := ownF_block HS2d.out.fo
          have HS2e : Hid (Some0 we wa.heap.size b2 (F0.set i ((gr F0 i).1, v)) (P0 b2)) := by rw [hwe]; exact hx2.2.below (bl_drew _)
          have HS1e : Hid (Some0 we wi.heap.size b1 (F0.set i (v, (gr F0 i).2)) (P0 b1)) := by
            rw [hwe]
            exact (HS1d.out.other ⟨b2, i * 2 + 1, none⟩ (.int .i64 v) (by show b1 ≠ b2; have := HLT.out; omega) (by show b1 + 3 ≠ b2; have := HLT.out; omega) hcur2 (by decide)).below (bl_drew _)
          have HBE : Hid (Below wi.heap.size wi we) := by rw [hwe]; exact bl_set HBD.out (by show _ ≤ b2; have := HLT.out; have := HLO1.out; omega) _
          have hST : ST5 we b5 b1 b2 bn k v we := by
            have h1 : b2 ≠ b5 := by have := HL5.out; omega
            have h2 : b2 ≠ b5 + 1 := by have := HL5.out; omega
            have h3 : b2 ≠ bn := by have := HBN.out; have := HLO1.out; have := HLT.out; omega
            rw [hwe]
            exact ⟨cell_far k50 h1, cell_far k51 h1, cell_far k60 h2, cell_far k61 h2, cell_far knu h3, Below.refl _ _⟩
          clear hx2 hcur2
          go_region
          rw [← hwe]
          have HCe := ctx_below HCk HBE.out
          clear hwe k50 k51 k60 k61 knu hf0 hff HS1d HS2d HBD HBC HBB HBA
          have hBD : Hid (Below we.heap.size we we.drew) := bl_drew we
          have HT1 : Hid (∀ W, Below we.heap.size we W → Calls Tryz.prog 5 #[.agg #[.slice (some ⟨b1, 0, none⟩) 4 4, .slice (some ⟨b1 + 3, 0, none⟩) 2 2], .int .i64 v, .string ⟨#[76, 117]⟩, .slice (some ⟨bn + 3, 0, none⟩) 2 2] W (fun e w' => e = .returned (.bool true) ∧ Hid (Below W.heap.size W w'))) := fun W hW => (ctx_tells (HCe.out.below hW) (HS1e.out.below hW) (p0_small b1) v ⟨#[76, 117]⟩ (by show 2 ≤ _; decide)).1
          have HT2 : Hid (∀ W, Below we.heap.size we W → Calls Tryz.prog 5 #[.agg #[.slice (some ⟨b2, 0, none⟩) 4 4, .slice (some ⟨b2 + 3, 0, none⟩) 2 2], .int .i64 v, .string ⟨#[65, 110, 121]⟩, .slice (some ⟨bn + 3, 1, none⟩) 1 1] W (fun e w' => e = .returned (.bool true) ∧ Hid (Below W.heap.size W w'))) := fun W hW => (ctx_tells (HCe.out.below hW) (HS2e.out.below hW) (p0_small b2) v ⟨#[65, 110, 121]⟩ (by show 3 ≤ _; decide)).2.1
          have HT3 : Hid (∀ (W : World) (B b3 : Nat), Below we.heap.size we W → Hid (Some0 W B b3 F0 (P0 b3)) → Calls Tryz.prog 5 #[.agg #[.slice (some ⟨b3, 0, none⟩) 4 4, .slice (some ⟨b3 + 3, 0, none⟩) 2 2], .int .i64 v, .string ⟨#[108, 117]⟩, .slice none 0 0] W (fun e w' => e = .returned (.bool true) ∧ Hid (Below W.heap.size W w'))) := fun W B b3 hW h3 => (ctx_tells (HCe.out.below hW) h3.out (p0_small b3) v ⟨#[108, 117]⟩ (by show 2 ≤ _; decide)).2.2
          have HSO : Hid (∀ W : World, Calls Tryz.prog 4 #[] W fun e w' => ∃ b, e = .returned (.agg #[.slice (some ⟨b, 0, none⟩) 4 4, .slice (some ⟨b + 3, 0, none⟩) 2 2]) ∧ Hid (Some0 w' W.heap.size b F0 (P0 b)) ∧ Hid (Below W.heap.size W w')) := fun W => some_own W
          have hST1 := hST
          obtain ⟨g0, g1, g2, g3, g4, _⟩ := hST1
          clear HS1e HS2e
          go_wp2
          go_region_held3 (fun W => W.cell? ⟨b5, 0, none⟩ = some (.slice (some ⟨b1, 0, none⟩) 4 4) ∧ W.cell? ⟨b5, 1, none⟩ = some (.slice (some ⟨b1 + 3, 0, none⟩) 2 2) ∧ W.cell? ⟨b5 + 1, 0, none⟩ = some (.slice (some ⟨b2, 0, none⟩) 4 4) ∧ W.cell? ⟨b5 + 1, 1, none⟩ = some (.slice (some ⟨b2 + 3, 0, none⟩) 2 2) ∧ W.cell? ⟨bn, k, none⟩ = some (.int .i64 v) ∧ Hid (Below we.heap.size we W)) (first | exact st5_below (by assumption) hbI | exact st5_below (by assumption) hbH | exact st5_below (by assumption) hbG | exact st5_below (by assumption) hbF | exact st5_below hST hBD | fail) (first | (go_at_call 5; (with_reducible refine (HT1.out _ (st5_bel (by assumption))).mono ?_); rintro e wF ⟨rfl, hbF⟩) | (go_at_call 5; (with_reducible refine (HT2.out _ (st5_bel (by assumption))).mono ?_); rintro e wG ⟨rfl, hbG⟩) | (go_at_call 4; (with_reducible refine (HSO.out _).mono ?_); rintro e wH ⟨b3, rfl, hs3, hbH⟩) | (go_at_call 5; (with_reducible refine (HT3.out _ _ _ (st5_bel (by assumption)) hs3).mono ?_); rintro e wI ⟨rfl, hbI⟩) | fail)
          have HCI := ctx_below HCe (bl_trans hBD.out (bl_trans hbF.out (bl_trans hbG.out (bl_trans hbH.out hbI.out))))
          clear hbF hbG hbH hbI hs3 hBD hST g0 g1 g2 g3 g4 HCe HT1 HT2 HT3
          go_wp2
          go_roundw
          case rel => exact ⟨k + 1, by have := HK.out; omega, by go_num, HCI.out⟩
          case measure => have := HK.out; simp [intOf]; omega
        · have hkI : ¬ ((k : Int) < 13) := by omega
          have HI4 : Hid (i < 4) := HI
          clear hk13 hk
          go_wp2_with fail
          refine (some_own wi).mono ?_
          rintro e wa ⟨b1, rfl, hs1, hba⟩
          have HLO1 := Lib.hid hs1.lo
          have HHI1 := Lib.hid hs1.hi
          have HS1 := Lib.hid hs1
          have HBA := Lib.hid hba
          clear hs1 hba
          go_wp2_with fail
          refine (some_own wa).mono ?_
          rintro e wb ⟨b2, rfl, hs2, hbb⟩
          have HLT : Hid (b1 + 3 < b2) := Nat.lt_of_lt_of_le HHI1.out hs2.lo
          have HHI2 := Lib.hid hs2.hi
          have HS1 := Lib.hid (HS1.out.below hbb)
          have HS2 := Lib.hid hs2
          have HBB := Lib.hid (bl_trans HBA.out hbb)
          clear hs2 hbb
          generalize hb5 : wb.heap.size = b5
          obtain ⟨wc, hwc⟩ : ∃ W, W = (wb.alloc (.cells #[.slice (some ⟨b1, 0, none⟩) 4 4, .slice (some ⟨b1 + 3, 0, none⟩) 2 2] 30)).alloc (.cells #[.slice (some ⟨b2, 0, none⟩) 4 4, .slice (some ⟨b2 + 3, 0, none⟩) 2 2] 30) := ⟨_, rfl⟩
          have hbc : Below wb.heap.size wb wc := by rw [hwc]; exact bl_trans (bl_alloc _ _) (bl_alloc _ _)
          have h50 : wc.cell? ⟨b5, 0, none⟩ = some (.slice (some ⟨b1, 0, none⟩) 4 4) := by rw [hwc, ← hb5, World.cell?_alloc_past _ _ _ (by simp), World.cell?_alloc_at _ _ _ _ rfl]; rfl
          have h51 : wc.cell? ⟨b5, 1, none⟩ = some (.slice (some ⟨b1 + 3, 0, none⟩) 2 2) := by rw [hwc, ← hb5, World.cell?_alloc_past _ _ _ (by simp), World.cell?_alloc_at _ _ _ _ rfl]; rfl
          have h60 : wc.cell? ⟨b5 + 1, 0, none⟩ = some (.slice (some ⟨b2, 0, none⟩) 4 4) := by rw [hwc, ← hb5, World.cell?_alloc_at _ _ _ _ (by simp)]; rfl
          have h61 : wc.cell? ⟨b5 + 1, 1, none⟩ = some (.slice (some ⟨b2 + 3, 0, none⟩) 2 2) := by rw [hwc, ← hb5, World.cell?_alloc_at _ _ _ _ (by simp)]; rfl
          have x5 : Bx wc b5 30 #[.slice (some ⟨b1, 0, none⟩) 4 4, .slice (some ⟨b1 + 3, 0, none⟩) 2 2] := by rw [hwc, ← hb5]; exact (Bx.new wb _ _).below (bl_alloc _ _)
          have x6 : Bx wc (b5 + 1) 30 #[.slice (some ⟨b2, 0, none⟩) 4 4, .slice (some ⟨b2 + 3, 0, none⟩) 2 2] := by
            have h := Bx.new (wb.alloc (.cells #[.slice (some ⟨b1, 0, none⟩) 4 4, .slice (some ⟨b1 + 3, 0, none⟩) 2 2] 30)) 30 #[.slice (some ⟨b2, 0, none⟩) 4 4, .slice (some ⟨b2 + 3, 0, none⟩) 2 2]
            rw [← hwc, show (wb.alloc (.cells #[.slice (some ⟨b1, 0, none⟩) 4 4, .slice (some ⟨b1 + 3, 0, none⟩) 2 2] 30)).heap.size = b5 + 1 by rw [← hb5]; simp] at h
            exact h
          have HX5 := Lib.hid (x5.below (bl_drew wc))
          have HX6 := Lib.hid (x6.below (bl_drew wc))
          clear h50 h51 h60 h61 x5 x6
          have HBC := Lib.hid (bl_trans HBB.out hbc)
          have HCc := ctx_below HCk HBC.out
          have HS1 := Lib.hid (HS1.out.below hbc)
          have HS2 := Lib.hid (HS2.out.below hbc)
          have HSZ : Hid (wb.heap.size = b5) := hb5
          clear hbc
          go_wp2
          try rw [hb5]
          rw [← hwc]
          clear hb5
          have S1d := Lib.hid (HS1.out.below (bl_drew wc))
          have S2d := Lib.hid (HS2.out.below (bl_drew wc))
          have BD := Lib.hid (bl_trans HBC.out (bl_drew wc))
          have L5 : Hid (b2 + 3 < b5) := by have h1 := HHI2.out; have h2 := HSZ.out; show _ < _; omega
          have CE := Lib.hid HCk.out.be
          clear HS1 HS2 HCc HBC HBB HBA hwc
          go_upto_region 15 with fail
          refine f15_all b5 b1 i F0 (.slice (some ⟨b1 + 3, 0, none⟩) 2 2) (by rfl) (by rfl) (by rfl) (HX5.out.cell rfl) S1d.out.slf rfl HI4.out HX5.out ?_ _
          intro f q3 c3 y ho3 hx3 hg3
          have s1y := S1d.out.grown HX5.out hg3 (by have := HLT.out; have := L5.out; omega) (by have := HLT.out; have := L5.out; omega) (by decide)
          have s2y := S2d.out.grown HX5.out hg3 (by have := L5.out; omega) (by have := L5.out; omega) (by decide)
          have x6y : Bx y (b5 + 1) 30 #[.slice (some ⟨b2, 0, none⟩) 4 4, .slice (some ⟨b2 + 3, 0, none⟩) 2 2] := HX6.out.kept hg3 (by simp)
          have L1 : wi.heap.size ≤ b5 := by have h1 := HLO1.out; have h2 := HLT.out; have h3 := L5.out; omega
          have by3 : Below wi.heap.size wi y := BD.out.grown hg3 BD.out.size (fun k hk => by cases hk; exact L1)
          have S1y := Lib.hid (s1y.below (bl_drew y))
          have S2y := Lib.hid (s2y.below (bl_drew y))
          have X6y := Lib.hid (x6y.below (bl_drew y))
          have X5y := Lib.hid (hx3.below (bl_drew y))
          have O3 := Lib.hid (ownF_below ho3 (bl_drew y))
          have BY := Lib.hid (bl_trans by3 (bl_drew y))
          have HL1 := Lib.hid L1
          have HZ : Hid (b5 < wc.drew.heap.size) := HX5.out.lt
          clear ho3 hx3 hg3 s1y s2y x6y L1 by3 S1d S2d HX5 HX6 BD
          generalize f 0 = g0, f 1 = g1, f 2 = g2, f 3 = g3, f 4 = g4, f 5 = g5, f 6 = g6, f 7 = g7, f 8 = g8, f 9 = g9, f 10 = g10
          simp only [putL, List.foldl, Act.put, sb0, sb1, sb2]
          clear f
          go_upto_region 16 with fail
          refine f16_all (b5 + 1) b2 i F0 (.slice (some ⟨b2 + 3, 0, none⟩) 2 2) (by rfl) (by rfl) (by rfl) (X6y.out.cell rfl) S2y.out.slf rfl HI4.out X6y.out ?_ _
          intro f q5 c5 y2 ho5 hx5 hg5
          have s1z := S1y.out.grown X6y.out hg5 (by have := HLT.out; have := L5.out; omega) (by have := HLT.out; have := L5.out; omega) (by decide)
          have s2z := S2y.out.grown X6y.out hg5 (by have := L5.out; omega) (by have := L5.out; omega) (by decide)
          have x5z : Bx y2 b5 30 #[.slice q3 3 c3, .slice (some ⟨b1 + 3, 0, none⟩) 2 2] := X5y.out.kept hg5 (by simp)
          have o3z : OwnF y2 wc.drew.heap.size (.slice q3 3 c3) (F0.take i ++ F0.drop (i + 1)) := World.ownsRow.kept O3.out hg5 (.inr (ownF_neB O3.out X6y.out))
          have by5 : Below wi.heap.size wi y2 := BY.out.grown hg5 BY.out.size (fun k hk => by cases hk; have := HL1.out; omega)
          have cz : Ctx w1 bn y2 := HCk.out.below by5
          have HT1 := Lib.hid (fun (V : World) (hV : Below y2.heap.size y2 V) => tells_row (cz.below hV) (s1z.below hV) (p0_small b1) (ownF_below o3z hV) (by decide) 75 ⟨#[76, 117]⟩ (by decide))
          have HT2 := Lib.hid (fun (V : World) (hV : Below y2.heap.size y2 V) => tells_row (cz.below hV) (s2z.below hV) (p0_small b2) (ownF_below ho5 hV) (by decide) 75 ⟨#[76, 117]⟩ (by decide))
          have X5z := Lib.hid x5z
          have X6z := Lib.hid hx5
          have CZ := Lib.hid cz
          clear ho5 hx5 hg5 s1z s2z x5z o3z by5 cz S1y S2y X6y X5y O3 BY
          generalize f 0 = g0, f 1 = g1, f 2 = g2, f 3 = g3, f 4 = g4, f 5 = g5, f 6 = g6, f 7 = g7, f 8 = g8, f 9 = g9, f 10 = g10, f 11 = g11, f 12 = g12, f 13 = g13, f 14 = g14, f 15 = g15, f 16 = g16
          simp only [putL, List.foldl, Act.put, sb0, sb1, sb2]
          clear f
          go_upto_region 17 with fail
          have k50 : y2.cell? ⟨b5, 0, none⟩ = some (.slice q3 3 c3) := X5z.out.cell (i := 0) rfl
          have k51 : y2.cell? ⟨b5, 1, none⟩ = some (.slice (some ⟨b1 + 3, 0, none⟩) 2 2) := X5z.out.cell (i := 1) rfl
          go_wp2_with fail
          refine (HT1.out y2 (Below.refl _ _)).mono ?_
          rintro e y3 ⟨rfl, hb3⟩
          have k60 : y3.cell? ⟨b5 + 1, 0, none⟩ = some (.slice q5 5 c5) := (X6z.out.below hb3).cell (i := 0) rfl
          have k61 : y3.cell? ⟨b5 + 1, 1, none⟩ = some (.slice (some ⟨b2 + 3, 0, none⟩) 2 2) := (X6z.out.below hb3).cell (i := 1) rfl
          have HT2' := Lib.hid (HT2.out y3 hb3)
          have HB3 := Lib.hid hb3
          clear hb3 k50 k51 HT1 HT2
          go_wp2_with fail
          refine HT2'.out.mono ?_
          rintro e y4 ⟨rfl, hb4⟩
          have CF := Lib.hid (CZ.out.below (bl_trans HB3.out hb4))
          clear hb4 k60 k61 HT2' HB3 CZ X5z X6z
          go_wp2
          go_roundw
          case rel => exact ⟨i + 1, by have := HI4.out; omega, by go_num, CF.out⟩
          case measure => have := HI4.out; simp [intOf]; omega
    · obtain rfl : i = 4 := by omega
      clear hi4 hi
      rw [show ((4 : Nat) : Int) = 4 from rfl]
      go_wp2
      go_loopw [9] (fun cv wc => ∃ c : Nat, c ≤ 256 ∧ cv = .int .i64 (c : Nat) ∧ Hid (Below w1.heap.size w1 wc)) (fun cv _ => 256 - (intOf cv).toNat)
      case atStart => exact ⟨0, by omega, rfl, HC.out.be⟩
      case round =>
        clear HC
        obtain ⟨c, hc, rfl, HB⟩ := hrel
        rename World => wz
        by_cases hc2 : c < 256
        · have hcI : (c : Int) < 256 := by omega
          go_upto_region 22 with fail
          go_wp2_with fail
          refine (some_own wz).mono ?_
          rintro e wa ⟨b, rfl, hs, hba⟩
          obtain ⟨V1, hV1⟩ : ∃ W, W = wa.alloc (.cells #[.slice (some ⟨b, 0, none⟩) 4 4, .slice (some ⟨b + 3, 0, none⟩) 2 2] 30) := ⟨_, rfl⟩
          obtain ⟨bx, hbx⟩ : ∃ b, b = wa.heap.size := ⟨_, rfl⟩
          have HV1 := Lib.hid (And.intro hbx.symm hV1.symm)
          have g1 : Below wa.heap.size wa V1 := by rw [hV1]; exact bl_alloc _ _
          have X1 : Hid (Bx V1 bx 30 #[.slice (some ⟨b, 0, none⟩) 4 4, .slice (some ⟨b + 3, 0, none⟩) 2 2]) := by show Bx _ _ _ _; rw [hV1, hbx]; exact Bx.new _ _ _
          have HLO := Lib.hid hs.lo
          have HHI : Hid (b + 3 < bx) := by rw [hbx]; exact hs.hi
          have HS := Lib.hid (hs.below g1)
          have GB := Lib.hid (bl_trans hba g1)
          clear hs hba hV1 hbx g1
          go_upto_region 23 with fail
          rw [HV1.out.1, HV1.out.2]
          have k1 : V1.cell? ⟨bx, 1, none⟩ = some (.slice (some ⟨b + 3, 0, none⟩) 2 2) := X1.out.cell (i := 1) rfl
          obtain ⟨kn, _, kf⟩ := (HS.out.below (bl_alloc V1 (.cells #[.int .u8 (c : Nat)] 5))).name 1 (by decide)
          have kn2 : (V1.alloc (.cells #[.int .u8 (c : Nat)] 5)).cell? ⟨b + 3, 2, none⟩ = some (.string ⟨#[76, 117]⟩) := kn
          have kf2 := kf 2
          have hcv := conv1 V1 c hc2
          have hm1 : (0 : Int) ≤ (c : Int) := by omega
          have hm2 : (c : Int) ≤ 255 := by omega
          clear kn kf
          go_wp2
          obtain ⟨nm, hnm⟩ : ∃ nm : ByteArray, nm = ⟨#[76]⟩ ++ ⟨#[UInt8.ofNat c]⟩ := ⟨_, rfl⟩
          have hnz : nm.size ≤ 1000 := by rw [hnm, ByteArray.size_append]; exact (by decide : 1 + 1 ≤ 1000)
          obtain ⟨V3, hV3⟩ : ∃ W, W = (V1.alloc (.cells #[.int .u8 (c : Nat)] 5)).setCell ⟨b + 3, 2, none⟩ (.string nm) := ⟨_, rfl⟩
          have S3 : Hid (Some0 V3 wz.heap.size b F0 ((P0 b).set 1 (nm, (gp (P0 b) 1).2))) := by rw [hV3]; exact ((HS.out.below (bl_alloc _ _)).prop 1 (by decide) nm none 0 []).1
          have X3 : Hid (Bx V3 bx 30 #[.slice (some ⟨b, 0, none⟩) 4 4, .slice (some ⟨b + 3, 0, none⟩) 2 2]) := by
            rw [hV3]; exact (X1.out.below (bl_alloc _ _)).other (a := ⟨b + 3, 2, none⟩) (by have := HHI.out; show bx ≠ b + 3; omega) _
          have B3 : Hid (Below w1.heap.size w1 V3) := by
            rw [hV3]
            exact (bl_trans HB.out (bl_trans GB.out (bl_alloc _ _))).setCell (by have h1 := HLO.out; have h2 := HB.out.size; show _ ≤ b + 3; omega) _
          rw [show (⟨#[76]⟩ ++ ⟨#[UInt8.ofNat c]⟩ : ByteArray) = nm from hnm.symm, ← hV3]
          have HNZ := Lib.hid hnz
          clear hnm hnz hV3 kn2 kf2 hcv k1 X1 HS GB HV1
          go_upto_region 24 with fail
          have BD := Lib.hid (bl_trans B3.out (bl_drew V3))
          have SD := Lib.hid (S3.out.below (bl_drew V3))
          have XD := Lib.hid (X3.out.below (bl_drew V3))
          refine f24_wp bx b (b + 3) (bn + 3) (c : Int) nm (by rfl) (by rfl) (by rfl) (by rfl) (XD.out.cell rfl) (XD.out.cell rfl) (SD.out.name 1 (by decide)).1 (fun V hV => (ctx_tells (HC1.out.below (bl_trans BD.out hV)) (SD.out.below hV) (pset_small (p0_small b) ⟨by have := HNZ.out; show nm.size ≤ _; omega, by show 1 ≤ _; omega⟩) (c : Int) nm HNZ.out).1.mono fun _ _ h => ⟨h.1, h.2.out⟩) ?_ _
          intro f y hk hb
          have e9 : f 9 = .bool false := hk 9 (by decide) (by decide)
          have BE := Lib.hid (bl_trans BD.out hb)
          clear hk hb
          rw [e9]
          clear e9 B3 S3 X3 BD SD XD
          generalize f 0 = g0, f 1 = g1, f 2 = g2, f 3 = g3, f 4 = g4, f 5 = g5, f 6 = g6, f 7 = g7, f 8 = g8
          simp only [putL, List.foldl, Act.put, sb0, sb1, sb2]
          clear f
          go_wp2
          go_roundw
          case rel => exact ⟨c + 1, by omega, by go_num, BE.out⟩
          case measure => simp [intOf]; omega
        · obtain rfl : c = 256 := by omega
          rw [show ((256 : Nat) : Int) = 256 from rfl]
          clear hc2 hc
          go_wp2
          go_loopw [11, 12] (fun sv nv wn => ∃ (n : Nat) (s : ByteArray), n ≤ 43 ∧ nv = .int .i64 (n : Nat) ∧ sv = .string s ∧ Hid (s.size ≤ n) ∧ Hid (Below w1.heap.size w1 wn)) (fun _ nv _ => 43 - (intOf nv).toNat)
          case atStart => exact ⟨0, ⟨#[]⟩, by omega, rfl, rfl, (by show 0 ≤ 0; omega), HB.out⟩
          case round =>
            clear HB
            obtain ⟨n, s, hn, rfl, rfl, HSZ, HB⟩ := hrel
            rename World => wz
            by_cases hn2 : n < 43
            · have hnI : (n : Int) < 43 := by omega
              go_upto_region 30 with fail
              go_wp2_with fail
              refine (some_own wz).mono ?_
              rintro e wa ⟨b, rfl, hs, hba⟩
              obtain ⟨V1, hV1⟩ : ∃ W, W = wa.alloc (.cells #[.slice (some ⟨b, 0, none⟩) 4 4, .slice (some ⟨b + 3, 0, none⟩) 2 2] 30) := ⟨_, rfl⟩
              obtain ⟨bx, hbx⟩ : ∃ b, b = wa.heap.size := ⟨_, rfl⟩
              have HV1 := Lib.hid (And.intro hbx.symm hV1.symm)
              have g1 : Below wa.heap.size wa V1 := by rw [hV1]; exact bl_alloc _ _
              have X1 : Hid (Bx V1 bx 30 #[.slice (some ⟨b, 0, none⟩) 4 4, .slice (some ⟨b + 3, 0, none⟩) 2 2]) := by show Bx _ _ _ _; rw [hV1, hbx]; exact Bx.new _ _ _
              have HLO := Lib.hid hs.lo
              have HHI : Hid (b + 3 < bx) := by rw [hbx]; exact hs.hi
              have HS := Lib.hid (hs.below g1)
              have GB := Lib.hid (bl_trans hba g1)
              clear hs hba hV1 hbx g1
              go_upto_region 31 with fail
              rw [HV1.out.1, HV1.out.2]
              have k1 : V1.cell? ⟨bx, 1, none⟩ = some (.slice (some ⟨b + 3, 0, none⟩) 2 2) := X1.out.cell (i := 1) rfl
              obtain ⟨kn, _, kf⟩ := HS.out.name 0 (by decide)
              have kn2 : V1.cell? ⟨b + 3, 0, none⟩ = some (.string ⟨#[65, 110, 121]⟩) := kn
              have kf2 := kf 0
              obtain ⟨V3, hV3⟩ : ∃ W, W = V1.setCell ⟨b + 3, 0, none⟩ (.string s) := ⟨_, rfl⟩
              have S3 : Hid (Some0 V3 wz.heap.size b F0 ((P0 b).set 0 (s, (gp (P0 b) 0).2))) := by rw [hV3]; exact (HS.out.prop 0 (by decide) s none 0 []).1
              have X3 : Hid (Bx V3 bx 30 #[.slice (some ⟨b, 0, none⟩) 4 4, .slice (some ⟨b + 3, 0, none⟩) 2 2]) := by
                rw [hV3]; exact X1.out.other (a := ⟨b + 3, 0, none⟩) (by have := HHI.out; show bx ≠ b + 3; omega) _
              have B3 : Hid (Below w1.heap.size w1 V3) := by
                rw [hV3]
                exact (bl_trans HB.out GB.out).setCell (by have h1 := HLO.out; have h2 := HB.out.size; show _ ≤ b + 3; omega) _
              have HO := Lib.hid hV3.symm
              clear hV3 kn kf
              go_upto_region 32 with fail
              rw [HO.out]
              clear kn2 kf2 k1 X1 HS GB HV1
              go_wp2_with fail
              refine (some_own V3).mono ?_
              rintro e wb ⟨b2, rfl, hs, hba⟩
              obtain ⟨V5, hV5⟩ : ∃ W, W = wb.alloc (.cells #[.slice (some ⟨b2, 0, none⟩) 4 4, .slice (some ⟨b2 + 3, 0, none⟩) 2 2] 30) := ⟨_, rfl⟩
              obtain ⟨by_, hby⟩ : ∃ b, b = wb.heap.size := ⟨_, rfl⟩
              have HV5 := Lib.hid (And.intro hby.symm hV5.symm)
              have g5 : Below wb.heap.size wb V5.drew := by rw [hV5]; exact bl_trans (bl_alloc _ _) (bl_drew _)
              have X5 : Hid (Bx V5.drew by_ 30 #[.slice (some ⟨b2, 0, none⟩) 4 4, .slice (some ⟨b2 + 3, 0, none⟩) 2 2]) := by
                rw [hV5, hby]; exact (Bx.new _ _ _).below (bl_drew _)
              have g35 := bl_trans hba g5
              have HLO2 := Lib.hid hs.lo
              have HHI2 : Hid (b2 + 3 < by_) := by rw [hby]; exact hs.hi
              have S5 := Lib.hid (hs.below g5)
              have S3 := Lib.hid (S3.out.below g35)
              have B5 := Lib.hid (bl_trans B3.out g35)
              have HXL : Hid (bx < V3.heap.size) := X3.out.lt
              have X3 := Lib.hid (X3.out.below g35)
              clear hs hba hV5 hby g5 g35 B3 HO
              go_upto_region 33 with fail
              rw [HV5.out.1, HV5.out.2]
              refine f33_all by_ (b2 + 3) n ⟨(Lib.repeatL [121] n).toArray⟩ ⟨#[76, 117]⟩ (by rfl) (rep_size n (by omega)) (by rfl) (by rfl) (X5.out.cell rfl) (fun V _ => rep_any n V (by omega)) (S5.out.name 1 (by decide)).1 (fun V hV => ((S5.out.below hV).name 1 (by decide)).2.2 2) ?_ _
              intro y hb
              obtain ⟨nb, hnb⟩ : ∃ nb : ByteArray, nb = ⟨#[90]⟩ ++ ⟨(Lib.repeatL [121] n).toArray⟩ := ⟨_, rfl⟩
              have hbz : nb.size ≤ 1000 := by rw [hnb, ByteArray.size_append, rep_len]; show 1 + n ≤ 1000; omega
              obtain ⟨V7, hV7⟩ : ∃ W, W = y.setCell ⟨b2 + 3, 2, none⟩ (.string nb) := ⟨_, rfl⟩
              have S7 : Hid (Some0 V7 V3.heap.size b2 F0 ((P0 b2).set 1 (nb, (gp (P0 b2) 1).2))) := by rw [hV7]; exact ((S5.out.below hb).prop 1 (by decide) nb none 0 []).1
              have X7 : Hid (Bx V7 by_ 30 #[.slice (some ⟨b2, 0, none⟩) 4 4, .slice (some ⟨b2 + 3, 0, none⟩) 2 2]) := by
                rw [hV7]; exact (X5.out.below hb).other (a := ⟨b2 + 3, 2, none⟩) (by have := HHI2.out; show by_ ≠ b2 + 3; omega) _
              have B7 : Hid (Below w1.heap.size w1 V7) := by
                rw [hV7]
                exact (bl_trans B5.out hb).setCell (by have h1 := HLO2.out; have h2 := HB.out.size; have h3 := HLO.out; have h4 := HHI.out; have h5 := HXL.out; show _ ≤ b2 + 3; omega) _
              obtain ⟨cur, hcur⟩ := ownP_block (S5.out.below hb).po
              have S8 : Hid (Some0 V7 wz.heap.size b F0 ((P0 b).set 0 (s, (gp (P0 b) 0).2))) := by
                rw [hV7]
                exact (S3.out.below hb).other ⟨b2 + 3, 2, none⟩ _ (by have h1 := HLO2.out; have h5 := HXL.out; have h4 := HHI.out; show b ≠ b2 + 3; omega) (by have h1 := HLO2.out; have h5 := HXL.out; have h4 := HHI.out; show b + 3 ≠ b2 + 3; omega) hcur (by decide)
              have X8 : Hid (Bx V7 bx 30 #[.slice (some ⟨b, 0, none⟩) 4 4, .slice (some ⟨b + 3, 0, none⟩) 2 2]) := by
                rw [hV7]; exact (X3.out.below hb).other (a := ⟨b2 + 3, 2, none⟩) (by have h1 := HLO2.out; have h5 := HXL.out; show bx ≠ b2 + 3; omega) _
              rw [show (⟨#[90]⟩ ++ ⟨(Lib.repeatL [121] n).toArray⟩ : ByteArray) = nb from hnb.symm, ← hV7]
              have HNB := Lib.hid hbz
              clear hnb hbz hV7 hcur hb S5 X5 S3 X3 B5 HV5
              simp only [putL, List.foldl, Act.put, sb0, sb1, sb2]
              go_upto_region 34 with fail
              have BD := Lib.hid (bl_trans B7.out (bl_drew V7))
              have SD7 := Lib.hid (S7.out.below (bl_drew V7))
              have SD8 := Lib.hid (S8.out.below (bl_drew V7))
              have XD7 := Lib.hid (X7.out.below (bl_drew V7))
              have XD8 := Lib.hid (X8.out.below (bl_drew V7))
              have HS3 : Hid (s.size ≤ 1000) := by have := HSZ.out; show _ ≤ _; omega
              refine f34_wp bx by_ b (b + 3) b2 (b2 + 3) (bn + 3) s nb (by rfl) (by rfl) (by rfl) (by rfl) (by rfl) (XD8.out.cell rfl) (XD8.out.cell rfl) (XD7.out.cell rfl) (XD7.out.cell rfl) (SD7.out.name 1 (by decide)).1
                (fun V hV => (ctx_tells (HC1.out.below (bl_trans BD.out hV)) (SD8.out.below hV) (pset_small (p0_small b) ⟨by have := HS3.out; show s.size ≤ _; omega, by show 1 ≤ _; omega⟩) 65 s HS3.out).1.mono fun _ _ h => ⟨h.1, h.2.out⟩)
                (fun V hV => (ctx_tells (HC1.out.below (bl_trans BD.out hV)) (SD7.out.below hV) (pset_small (p0_small b2) ⟨by have := HNB.out; show nb.size ≤ _; omega, by show 1 ≤ _; omega⟩) 65 nb HNB.out).1.mono fun _ _ h => ⟨h.1, h.2.out⟩) ?_ _
              intro f y2 hk hb
              have e15 : f 15 = .bool false := hk 15 (by decide) (by decide)
              have BE := Lib.hid (bl_trans BD.out hb)
              clear hk hb
              rw [e15]
              clear e15 B7 S7 X7 S8 X8 BD SD7 SD8 XD7 XD8
              generalize f 0 = g0, f 1 = g1, f 2 = g2, f 3 = g3, f 4 = g4, f 5 = g5, f 6 = g6, f 7 = g7, f 8 = g8, f 9 = g9, f 10 = g10, f 11 = g11, f 12 = g12, f 13 = g13, f 14 = g14
              simp only [putL, List.foldl, Act.put, sb0, sb1, sb2]
              clear f
              have hs1 : s.size + 1 ≤ 9223372036854775807 := by have := HSZ.out; omega
              go_wp2
              go_roundw
              case rel => exact ⟨n + 1, s ++ ⟨#[65]⟩, by omega, by go_num, rfl, (by show (s ++ ⟨#[65]⟩ : ByteArray).size ≤ n + 1; rw [ByteArray.size_append]; have := HSZ.out; show s.size + 1 ≤ n + 1; omega), BE.out⟩
              case measure => simp [intOf]; omega
            · obtain rfl : n = 43 := by omega
              rw [show ((43 : Nat) : Int) = 43 from rfl]
              clear hn2 hn HSZ
              go_upto_region 37 with fail
              go_wp2_with fail
              refine (some_own wz).mono ?_
              rintro e wa ⟨b, rfl, hs, hba⟩
              obtain ⟨V1, hV1⟩ : ∃ W, W = wa.alloc (.cells #[.slice (some ⟨b, 0, none⟩) 4 4, .slice (some ⟨b + 3, 0, none⟩) 2 2] 30) := ⟨_, rfl⟩
              obtain ⟨bx, hbx⟩ : ∃ b, b = wa.heap.size := ⟨_, rfl⟩
              have HV1 := Lib.hid (And.intro hbx.symm hV1.symm)
              have g1 : Below wa.heap.size wa V1 := by rw [hV1]; exact bl_alloc _ _
              have X1 : Hid (Bx V1 bx 30 #[.slice (some ⟨b, 0, none⟩) 4 4, .slice (some ⟨b + 3, 0, none⟩) 2 2]) := by show Bx _ _ _ _; rw [hV1, hbx]; exact Bx.new _ _ _
              have HLO := Lib.hid hs.lo
              have HHI : Hid (b + 3 < bx) := by rw [hbx]; exact hs.hi
              have HS := Lib.hid (hs.below g1)
              have GB := Lib.hid (bl_trans hba g1)
              clear hs hba hV1 hbx g1
              go_upto_region 38 with fail
              rw [HV1.out.1, HV1.out.2]
              have k1 : V1.cell? ⟨bx, 1, none⟩ = some (.slice (some ⟨b + 3, 0, none⟩) 2 2) := X1.out.cell (i := 1) rfl
              obtain ⟨_, kn, kf⟩ := HS.out.name 1 (by decide)
              have kn2 : V1.cell? ⟨b + 3, 3, none⟩ = some (.slice (some ⟨b + 2, 0, none⟩) 1 1) := kn
              have kf2 := kf 3
              obtain ⟨V3, hV3⟩ : ∃ W, W = V1.setCell ⟨b + 3, 3, none⟩ (.slice none 0 0) := ⟨_, rfl⟩
              have S3 : Hid (Some0 V3 wz.heap.size b F0 (PN b none 0 (srowF 0 0))) := by rw [hV3]; exact (HS.out.prop 1 (by decide) ⟨#[]⟩ none 0 []).2 (ownR_nil _ _)
              have X3 : Hid (Bx V3 bx 30 #[.slice (some ⟨b, 0, none⟩) 4 4, .slice (some ⟨b + 3, 0, none⟩) 2 2]) := by
                rw [hV3]; exact X1.out.other (a := ⟨b + 3, 3, none⟩) (by have := HHI.out; show bx ≠ b + 3; omega) _
              have B3 : Hid (Below w1.heap.size w1 V3) := by
                rw [hV3]
                exact (bl_trans HB.out GB.out).setCell (by have h1 := HLO.out; have h2 := HB.out.size; show _ ≤ b + 3; omega) _
              have HO := Lib.hid hV3.symm
              have HW : Hid (w1.heap.size ≤ wz.heap.size) := HB.out.size
              clear hV3 kn kf
              go_upto_region 39 with fail
              rw [HO.out]
              clear kn2 kf2 k1 X1 HS GB HV1 HO HB
              go_wp2
              go_loopw [16] (fun iv wi => ∃ (i : Nat) (q : Option Addr) (c : Nat), i ≤ 2002 ∧ iv = .int .i64 (i : Nat) ∧ Hid (Some0 wi wz.heap.size b F0 (PN b q c (srowF 0 i))) ∧ Hid (∀ g, (Value.slice q i c).ownBlock = some g → b + 3 < g ∧ g ≠ bx) ∧ Hid (Bx wi bx 30 #[.slice (some ⟨b, 0, none⟩) 4 4, .slice (some ⟨b + 3, 0, none⟩) 2 2]) ∧ Hid (Below w1.heap.size w1 wi)) (fun iv _ => 2002 - (intOf iv).toNat)
              case atStart => exact ⟨0, none, 0, by omega, rfl, S3.out, (fun g hg => by simp [Value.ownBlock] at hg), X3.out, B3.out⟩
              case round =>
                clear S3 X3 B3
                obtain ⟨i, q, c, hi, rfl, HS, HQ, HX, HB⟩ := hrel
                rename World => wi
                by_cases hi2 : i < 2002
                · have hiI : (i : Int) < 2002 := by omega
                  have k1 : wi.cell? ⟨bx, 1, none⟩ = some (.slice (some ⟨b + 3, 0, none⟩) 2 2) := HX.out.cell (i := 1) rfl
                  have kn := (HS.out.name 1 (by decide)).2.1
                  have ks : wi.cell? ⟨b + 3, 3, none⟩ = some (.slice q i c) := by
                    have h : wi.cell? ⟨b + 3, 3, none⟩ = some (.slice q (srowF 0 i).length c) := kn
                    rw [srowF_len] at h; exact h
                  clear kn
                  by_cases hi3 : 1999 ≤ i
                  · have hi3I : (1999 : Int) ≤ (i : Int) := by omega
                    obtain ⟨r, hr⟩ : ∃ r, decide (i ≤ 2000) = r := ⟨_, rfl⟩
                    have HR := Lib.hid hr
                    clear hr
                    go_upto_region 43 with fail
                    have BD := Lib.hid (bl_trans HB.out (bl_drew wi))
                    have SD := Lib.hid (HS.out.below (bl_drew wi))
                    have XD := Lib.hid (HX.out.below (bl_drew wi))
                    refine f43_wp bx b (b + 3) i c q r (by rfl) (by rfl) (XD.out.cell rfl) (XD.out.cell rfl) (keep_cellK (bl_drew wi) ks) HR.out (by omega) (fun V hV => right_row (SD.out.below hV) (by omega) HR.out) ?_ _
                    intro f y0 hk hb
                    have e9 : f 9 = .bool false := hk 9 (by decide) (by decide)
                    have hbb := bl_trans hb (bl_drew y0)
                    have SE := Lib.hid (SD.out.below hbb)
                    have XE := Lib.hid (XD.out.below hbb)
                    have BE := Lib.hid (bl_trans BD.out hbb)
                    have KS := Lib.hid (keep_cellK hbb (keep_cellK (bl_drew wi) ks))
                    clear hk hb hbb SD XD BD k1 ks HS HX HB HR
                    rw [e9]
                    clear e9
                    generalize f 0 = g0, f 1 = g1, f 2 = g2, f 3 = g3, f 4 = g4, f 5 = g5, f 6 = g6, f 7 = g7, f 8 = g8
                    simp only [putL, List.foldl, Act.put, sb0, sb1, sb2]
                    clear f
                    go_upto_region 45 with fail
                    refine f45_all bx (b + 3) i c i wz.heap.size q (srowF 0 i) (by rfl) (by rfl) (by rfl) (XE.out.cell rfl) KS.out SE.out.setN (srowF_len i 0).symm (by omega) (by omega) (by have h1 := SE.out.lo; have h2 := SE.out.hi; omega) (fun g hg => by have h := HQ.out g hg; exact ⟨h.2, by omega⟩) (fun V hV => SE.out.frz hV (fun e => by have := (HQ.out _ e.symm).1; omega) 3) ?_ _
                    intro f q2 c2 y ho2 hl2 hg2
                    have hsn : srowF 0 i ++ [(((3 * i : Nat) : Int), ((3 * i + 1 : Nat) : Int))] = srowF 0 (i + 1) := by rw [srowF_snoc, Nat.zero_add]
                    rw [hsn] at ho2
                    have HXL : bx < y0.drew.heap.size := XE.out.lt
                    have HBL : b + 3 < y0.drew.heap.size := SE.out.hi
                    have S6 : Hid (Some0 (y.setCell ⟨b + 3, 3, none⟩ (.slice q2 (i + 1) c2)) wz.heap.size b F0 (PN b q2 c2 (srowF 0 (i + 1)))) := SE.out.more hg2 (srowF_len i 0).symm (fun g hg => (HQ.out g hg).1) ho2 (srowF_len (i + 1) 0).symm
                    have Q6 : Hid (∀ g, (Value.slice q2 (i + 1) c2).ownBlock = some g → b + 3 < g ∧ g ≠ bx) := fun g hg => by
                      rcases hl2 with h | ⟨g', h, h'⟩
                      · rw [h] at hg; exact HQ.out g hg
                      · rw [h] at hg; cases hg; exact ⟨by omega, by omega⟩
                    have X6 : Hid (Bx (y.setCell ⟨b + 3, 3, none⟩ (.slice q2 (i + 1) c2)) bx 30 #[.slice (some ⟨b, 0, none⟩) 4 4, .slice (some ⟨b + 3, 0, none⟩) 2 2]) := (XE.out.kept hg2 (fun e => (HQ.out bx e.symm).2 rfl)).other (a := ⟨b + 3, 3, none⟩) (by have := HHI.out; show bx ≠ b + 3; omega) _
                    have B6 : Hid (Below w1.heap.size w1 (y.setCell ⟨b + 3, 3, none⟩ (.slice q2 (i + 1) c2))) := (BE.out.grown hg2 BE.out.size (fun k hk => by have h1 := (HQ.out k hk).1; have h2 := HLO.out; have h3 := HW.out; omega)).setCell (by have h2 := HLO.out; have h3 := HW.out; show _ ≤ b + 3; omega) _
                    generalize y.setCell ⟨b + 3, 3, none⟩ (.slice q2 (i + 1) c2) = y6 at S6 X6 B6 ⊢
                    clear ho2 hl2 hg2 hsn HXL HBL SE XE BE HQ
                    generalize f 0 = g0, f 2 = g2, f 3 = g3, f 4 = g4, f 5 = g5, f 6 = g6, f 7 = g7, f 8 = g8, f 9 = g9, f 10 = g10, f 11 = g11, f 12 = g12, f 13 = g13
                    simp only [putL, List.foldl, Act.put, sb0, sb1, sb2]
                    clear f
                    go_wp2
                    go_roundw
                    case rel => exact ⟨i + 1, q2, c2, by omega, by go_num, S6.out, Q6.out, X6.out, B6.out⟩
                    case measure => simp [intOf]; omega
                  · skip
                    have SE := Lib.hid (HS.out.below (bl_drew wi))
                    have XE := Lib.hid (HX.out.below (bl_drew wi))
                    have BE := Lib.hid (bl_trans HB.out (bl_drew wi))
                    have KS := Lib.hid (keep_cellK (bl_drew wi) ks)
                    have hi3I : ¬ (1999 : Int) ≤ (i : Int) := by omega
                    clear HS HX HB
                    go_upto_region 45 with fail
                    refine f45_all bx (b + 3) i c i wz.heap.size q (srowF 0 i) (by rfl) (by rfl) (by rfl) (XE.out.cell rfl) KS.out SE.out.setN (srowF_len i 0).symm (by omega) (by omega) (by have h1 := SE.out.lo; have h2 := SE.out.hi; omega) (fun g hg => by have h := HQ.out g hg; exact ⟨h.2, by omega⟩) (fun V hV => SE.out.frz hV (fun e => by have := (HQ.out _ e.symm).1; omega) 3) ?_ _
                    intro f q2 c2 y ho2 hl2 hg2
                    have hsn : srowF 0 i ++ [(((3 * i : Nat) : Int), ((3 * i + 1 : Nat) : Int))] = srowF 0 (i + 1) := by rw [srowF_snoc, Nat.zero_add]
                    rw [hsn] at ho2
                    have HXL : bx < wi.drew.heap.size := XE.out.lt
                    have HBL : b + 3 < wi.drew.heap.size := SE.out.hi
                    have S6 : Hid (Some0 (y.setCell ⟨b + 3, 3, none⟩ (.slice q2 (i + 1) c2)) wz.heap.size b F0 (PN b q2 c2 (srowF 0 (i + 1)))) := SE.out.more hg2 (srowF_len i 0).symm (fun g hg => (HQ.out g hg).1) ho2 (srowF_len (i + 1) 0).symm
                    have Q6 : Hid (∀ g, (Value.slice q2 (i + 1) c2).ownBlock = some g → b + 3 < g ∧ g ≠ bx) := fun g hg => by
                      rcases hl2 with h | ⟨g', h, h'⟩
                      · rw [h] at hg; exact HQ.out g hg
                      · rw [h] at hg; cases hg; exact ⟨by omega, by omega⟩
                    have X6 : Hid (Bx (y.setCell ⟨b + 3, 3, none⟩ (.slice q2 (i + 1) c2)) bx 30 #[.slice (some ⟨b, 0, none⟩) 4 4, .slice (some ⟨b + 3, 0, none⟩) 2 2]) := (XE.out.kept hg2 (fun e => (HQ.out bx e.symm).2 rfl)).other (a := ⟨b + 3, 3, none⟩) (by have := HHI.out; show bx ≠ b + 3; omega) _
                    have B6 : Hid (Below w1.heap.size w1 (y.setCell ⟨b + 3, 3, none⟩ (.slice q2 (i + 1) c2))) := (BE.out.grown hg2 BE.out.size (fun k hk => by have h1 := (HQ.out k hk).1; have h2 := HLO.out; have h3 := HW.out; omega)).setCell (by have h2 := HLO.out; have h3 := HW.out; show _ ≤ b + 3; omega) _
                    generalize y.setCell ⟨b + 3, 3, none⟩ (.slice q2 (i + 1) c2) = y6 at S6 X6 B6 ⊢
                    clear ho2 hl2 hg2 hsn HXL HBL SE XE BE HQ
                    generalize f 0 = g0, f 2 = g2, f 3 = g3, f 4 = g4, f 5 = g5, f 6 = g6, f 7 = g7, f 8 = g8, f 9 = g9, f 10 = g10, f 11 = g11, f 12 = g12, f 13 = g13
                    simp only [putL, List.foldl, Act.put, sb0, sb1, sb2]
                    clear f
                    go_wp2
                    go_roundw
                    case rel => exact ⟨i + 1, q2, c2, by omega, by go_num, S6.out, Q6.out, X6.out, B6.out⟩
                    case measure => simp [intOf]; omega
                · obtain rfl : i = 2002 := by omega
                  rw [show ((2002 : Nat) : Int) = 2002 from rfl]
                  clear hi2 hi HS HQ HX HLO HHI HW
                  go_upto_region 46 with fail
                  go_wp2_with fail
                  refine (some_own wi).mono ?_
                  rintro e wa ⟨b, rfl, hs, hba⟩
                  obtain ⟨V1, hV1⟩ : ∃ W, W = wa.alloc (.cells #[.slice (some ⟨b, 0, none⟩) 4 4, .slice (some ⟨b + 3, 0, none⟩) 2 2] 30) := ⟨_, rfl⟩
                  obtain ⟨bx, hbx⟩ : ∃ b, b = wa.heap.size := ⟨_, rfl⟩
                  have HV1 := Lib.hid (And.intro hbx.symm hV1.symm)
                  have g1 : Below wa.heap.size wa V1 := by rw [hV1]; exact bl_alloc _ _
                  have X1 : Hid (Bx V1 bx 30 #[.slice (some ⟨b, 0, none⟩) 4 4, .slice (some ⟨b + 3, 0, none⟩) 2 2]) := by show Bx _ _ _ _; rw [hV1, hbx]; exact Bx.new _ _ _
                  have HLO := Lib.hid hs.lo
                  have HHI : Hid (b + 3 < bx) := by rw [hbx]; exact hs.hi
                  have HS := Lib.hid (hs.below g1)
                  have GB := Lib.hid (bl_trans hba g1)
                  clear hs hba hV1 hbx g1
                  obtain ⟨V2, hV2⟩ : ∃ W, W = V1.alloc (.cells #[.int .i64 5, .int .i64 4] 24) := ⟨_, rfl⟩
                  obtain ⟨bl, hbl⟩ : ∃ b, b = V1.heap.size := ⟨_, rfl⟩
                  have HV2 := Lib.hid (And.intro hbl.symm hV2.symm)
                  have g2 : Below V1.heap.size V1 V2 := by rw [hV2]; exact bl_alloc _ _
                  have ol : OwnR V2 wi.heap.size (.slice (some ⟨bl, 0, none⟩) 1 1) [(5, 4)] := by rw [hV2, hbl]; exact ownR_new GB.out.size rfl rfl (by decide)
                  have HS2 := Lib.hid (HS.out.below g2)
                  have X2 := Lib.hid (X1.out.below g2)
                  obtain ⟨_, kn, kf⟩ := HS2.out.name 1 (by decide)
                  have kn2 : V2.cell? ⟨b + 3, 3, none⟩ = some (.slice (some ⟨b + 2, 0, none⟩) 1 1) := kn
                  have kf2 := kf 3
                  have k1 : V1.cell? ⟨bx, 1, none⟩ = some (.slice (some ⟨b + 3, 0, none⟩) 2 2) := X1.out.cell (i := 1) rfl
                  obtain ⟨V3, hV3⟩ : ∃ W, W = V2.setCell ⟨b + 3, 3, none⟩ (.slice (some ⟨bl, 0, none⟩) 1 1) := ⟨_, rfl⟩
                  have S3 : Hid (Some0 V3 wi.heap.size b F0 ((P0 b).set 1 ((gp (P0 b) 1).1, some ⟨bl, 0, none⟩, 1, [(5, 4)]))) := by rw [hV3]; exact (HS2.out.prop 1 (by decide) ⟨#[]⟩ (some ⟨bl, 0, none⟩) 1 [(5, 4)]).2 ol
                  have X3 : Hid (Bx V3 bx 30 #[.slice (some ⟨b, 0, none⟩) 4 4, .slice (some ⟨b + 3, 0, none⟩) 2 2]) := by
                    rw [hV3]; exact X2.out.other (a := ⟨b + 3, 3, none⟩) (by have := HHI.out; show bx ≠ b + 3; omega) _
                  have B3 : Hid (Below w1.heap.size w1 V3) := by
                    rw [hV3]
                    exact (bl_trans HB.out (bl_trans GB.out g2)).setCell (by have h1 := HLO.out; have h2 := HB.out.size; show _ ≤ b + 3; omega) _
                  have HO := Lib.hid hV3.symm
                  have PS := Lib.hid (pset_small (i := 1) (x0 := ((gp (P0 b) 1).1, some ⟨bl, 0, none⟩, 1, [(5, 4)])) (p0_small b) ⟨by show 2 ≤ _; omega, by show 1 ≤ _; omega⟩)
                  clear hV3 kn kf hV2 hbl g2 ol HS2 X2 HB
                  go_upto_region 47 with fail
                  rw [HV1.out.1, HV1.out.2]
                  rw [← HV2.out.2] at kn2 kf2 HO
                  rw [← HV2.out.1] at HO S3 PS
                  go_upto_region 48 with fail
                  rw [HO.out]
                  have k30 : V3.cell? ⟨bx, 0, none⟩ = some (.slice (some ⟨b, 0, none⟩) 4 4) := X3.out.cell (i := 0) rfl
                  have k31 : V3.cell? ⟨bx, 1, none⟩ = some (.slice (some ⟨b + 3, 0, none⟩) 2 2) := X3.out.cell (i := 1) rfl
                  have HT := Lib.hid ((ctx_tells (HC1.out.below B3.out) S3.out PS.out 65 ⟨#[65, 110, 121]⟩ (by decide)).1)
                  clear kn2 kf2 k1 X1 HS GB HV1 HO HV2
                  go_wp2_with fail
                  refine HT.out.mono ?_
                  rintro e y1 ⟨rfl, hb1⟩
                  have k40 : y1.cell? ⟨bx, 0, none⟩ = some (.slice (some ⟨b, 0, none⟩) 4 4) := keep_cellK hb1.out k30
                  have k41 : y1.cell? ⟨bx, 1, none⟩ = some (.slice (some ⟨b + 3, 0, none⟩) 2 2) := keep_cellK hb1.out k31
                  have B4 := Lib.hid (bl_trans B3.out hb1.out)
                  have SS := S3.out.below hb1.out
                  have HFS := Lib.hid (foldSets_true _ _ 4 2 4 2 F0 _ true y1 rfl SS.slf (by decide) SS.pl.symm SS.slp (by decide) PS.out)
                  clear SS hb1 k30 k31 HT S3 X3 B3 PS
                  go_wp2_with fail
                  refine HFS.out.mono ?_
                  rintro e y2 ⟨rfl, hb2⟩
                  have B5 := Lib.hid (bl_trans B4.out hb2)
                  have HT2 := Lib.hid (foldTells_true none none none 0 0 0 0 0 0 [] [] [] 5 ⟨#[]⟩ y2 rfl (.inl rfl) (by decide) (fun _ => rfl) rfl ⟨fun x hx => (nomatch hx), .inl rfl⟩ (by decide) (fun x hx => (nomatch hx)) (fun i hi => absurd hi (by omega)) rfl ⟨fun x hx => (nomatch hx), .inl rfl⟩ (by decide) (fun i hi => absurd hi (by omega)) (fun i hi => absurd hi (by omega)) (by decide))
                  clear hb2 HFS B4 k40 k41
                  go_wp2_with fail
                  refine HT2.out.mono ?_
                  rintro e y3 ⟨rfl, hb3⟩
                  have B6 := Lib.hid (bl_trans B5.out hb3)
                  clear hb3 HT2 B5
                  go_wp2_with fail
                  refine (some_own y3).mono ?_
                  rintro e y4 ⟨b4, rfl, hs4, hb4⟩
                  have B7 := Lib.hid (bl_trans B6.out hb4)
                  have HF4 := Lib.hid (foldSets_true _ _ 4 2 4 2 F0 (P0 b4) true y4 rfl hs4.slf (by decide) rfl hs4.slp (by decide) (p0_small b4))
                  clear hs4 hb4 B6
                  go_wp2_with fail
                  refine HF4.out.mono ?_
                  rintro e y5 ⟨rfl, hb5⟩
                  have B8 := Lib.hid (bl_trans B7.out hb5)
                  clear hb5 HF4 B7
                  go_wp2_with fail
                  refine (some_own y5).mono ?_
                  rintro e y6 ⟨b6, rfl, hs6, hb6⟩
                  have B9 := Lib.hid (bl_trans B8.out hb6)
                  have HF6 := Lib.hid (foldSets_true _ _ 4 2 4 2 F0 (P0 b6) false y6 rfl hs6.slf (by decide) rfl hs6.slp (by decide) (p0_small b6))
                  clear hs6 hb6 B8
                  go_wp2_with fail
                  refine HF6.out.mono ?_
                  rintro e y7 ⟨rfl, hb7⟩
                  have B10 := Lib.hid (bl_trans B9.out hb7)
                  have HAW := Lib.hid (fawake_any y7)
                  clear hb7 HF6 B9
                  go_wp2_with fail
                  refine HAW.out.mono ?_
                  rintro e y8 ⟨rfl, hb8⟩
                  have HE := Lib.hid (bl_trans HB1.out (bl_trans B10.out hb8))
                  clear hb8 HAW B10
                  go_wp2
                  go_ret
                  exact ⟨rfl, HE.out⟩
end Go.Proofs.YtglgfpapackcdaaGreat
