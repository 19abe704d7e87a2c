/- The walk of propsRight. -/
import Derived.Test.YtglgfpapackcdaaGreatGkr

namespace Go.Proofs.YtglgfpapackcdaaGreat
open Go.RowKit Tnr

set_option maxHeartbeats 6400000 in
set_option maxRecDepth 100000 in
theorem propsRight_any : PropsOk := by
  intro pf pp cf cp m0 n xs w hn hp hl hle
  have hbx := BoxT.new w pf m0 cf pp n cp
  have hb1 : Below w.heap.size w (w.alloc (.cells #[.slice pf m0 cf, .slice pp n cp] 69)) := bl_alloc _ _
  have HP := Lib.hid (hp.below hb1)
  have HN := Lib.hid hn
  have HLE := Lib.hid hle
  have HBX := Lib.hid hbx
  have HB1 := Lib.hid hb1
  have hc0 := hbx.c0
  have hc1 := hbx.c1
  have hnI : (n : Int) ≤ 10000000000000 := by omega
  clear hn hp hl hbx hb1 hle
  go_enter Tryz.func69, Tryz.ntmps69
  go_wp2
  obtain ⟨w1, hw1⟩ : ∃ W, W = w.alloc (.cells #[.slice pf m0 cf, .slice pp n cp] 69) := ⟨_, rfl⟩
  obtain ⟨bt, hbt⟩ : ∃ b, b = w.heap.size := ⟨_, rfl⟩
  rw [← hw1, ← hbt] at HBX hc0 hc1
  rw [← hw1] at HP
  rw [← hw1] at HB1
  rw [← hw1, ← hbt]
  clear hw1
  clear hbt
  go_loopw [9] (fun iv wr => ∃ i : Nat, i ≤ n ∧ iv = .int .i64 (i : Nat) ∧ Hid (∀ j, j < i → PR1 xs j) ∧ Hid (Below w1.heap.size w1 wr)) (fun iv _ => n - (intOf iv).toNat)
  case atStart => exact ⟨0, Nat.zero_le _, rfl, fun i hi => absurd hi (by omega), Below.refl _ _⟩
  case round =>
    clear hc0 hc1
    obtain ⟨i, hi, rfl, HF, HB⟩ := hrel
    rename World => wr
    have hc0 := (HBX.out.below HB.out).c0
    have hc1 := (HBX.out.below HB.out).c1
    by_cases hin : i < n
    · have hiI : (i : Int) < n := by omega
      have HI := Lib.hid hin
      have HIX : Hid (i < xs.length) := by have h1 := HN.out; show _ < _; omega
      obtain ⟨bb, o, hpe, hall⟩ := (HP.out.below (HB.out.alloc HB.out.size (.cells #[.string (gp xs i).1, .slice (gp xs i).2.1 (gp xs i).2.2.2.length (gp xs i).2.2.1] 37))).2.resolve_left (fun h => by have := HIX.out; rw [h] at this; exact absurd this (by simp))
      have hallr := (HP.out.below HB.out).2.resolve_left (fun h => by have := HIX.out; rw [h] at this; exact absurd this (by simp))
      obtain ⟨bb2, o2, hpe2, hall2⟩ := hallr
      have hd0 := (hall2 i HIX.out).1
      have hd1 := (hall2 i HIX.out).2
      have HSR := Lib.hid (HP.out.1 (gp xs i) (by rw [gp_get HIX.out]; exact List.getElem_mem _))
      have HL0 := Lib.hid (HLE.out (gp xs i) (by rw [gp_get HIX.out]; exact List.getElem_mem _))
      have HP1 : Hid (PR1 xs i ↔ nameB (gp xs i).1.data.toList = true ∧ (0 < i → leB (gp xs i).1 (gp xs (i - 1)).1 = false) ∧ (gp xs i).2.2.2.length ≤ 2000 ∧ rightB (gp xs i).2.2.2 = true) := Iff.rfl
      have HE2 : Hid (0 < i → (wr.alloc (.cells #[.string (gp xs i).1, .slice (gp xs i).2.1 (gp xs i).2.2.2.length (gp xs i).2.2.1] 37)).cell? ⟨bb, o + (i - 1) * 2, none⟩ = some (.string (gp xs (i - 1)).1)) := fun _ => (hall (i - 1) (by have := HIX.out; omega)).1
      obtain ⟨rfl, rfl⟩ : bb = bb2 ∧ o = o2 := by
        rw [hpe] at hpe2
        simp only [Option.some.injEq, Addr.mk.injEq, and_true] at hpe2
        exact hpe2
      clear hall hall2 hpe2
      subst hpe
      generalize (gp xs i).1 = s at *
      generalize (gp xs i).2.1 = q at *
      generalize (gp xs i).2.2.1 = c at *
      generalize (gp xs i).2.2.2 = l at *
      obtain ⟨s0, hs0⟩ : ∃ x, x = (gp xs (i - 1)).1 := ⟨_, rfl⟩
      rw [← hs0] at HE2
      have HS0 := Lib.hid hs0
      obtain ⟨m, hm⟩ : ∃ m, m = l.length := ⟨_, rfl⟩
      obtain ⟨r, hr⟩ : ∃ r, r = rightB l := ⟨_, rfl⟩
      have HRB : Hid (rightB l = r) := hr.symm
      have HRT : Hid (∀ W, Below w1.heap.size w1 W → Calls Tryz.prog 116 #[.slice q m c] W fun e w' => e = .returned (.bool r) ∧ Below W.heap.size W w') := fun W hb => by
        rw [hm, hr]; exact right_any q c l W (HSR.out.below hb) (by have := HL0.out; omega)
      rw [← hm] at hd1 HP1 HE2
      have hmI : (m : Int) ≤ 10000000000000 := by have := HL0.out; omega
      clear hm hr hs0 hin hi HSR HL0
      have hf0 : (wr.alloc (.cells #[.string s, .slice q m c] 37)).cell? ⟨wr.heap.size, 0, none⟩ = some (.string s) := by rw [World.cell?_alloc_at _ _ _ _ rfl]; rfl
      have hf1 : (wr.alloc (.cells #[.string s, .slice q m c] 37)).cell? ⟨wr.heap.size, 1, none⟩ = some (.slice q m c) := by rw [World.cell?_alloc_at _ _ _ _ rfl]; rfl
      have he1 := ((HBX.out.below HB.out).below (bl_alloc wr (.cells #[.string s, .slice q m c] 37))).c1
      have HBW : Hid (Below w1.heap.size w1 (wr.alloc (.cells #[.string s, .slice q m c] 37))) := HB.out.alloc HB.out.size _
      go_upto_region 4 with fail
      clear hc0 hc1 hd0 hd1
      generalize wr.alloc (.cells #[.string s, .slice q m c] 37) = W4 at *
      generalize wr.heap.size = bf at *
      clear HB
      cases hnm : nameB s.data.toList with
      | false =>
        have HNO : Hid (¬ PR xs) := fun h => by
          have h1 := HP1.out.1 (h i HIX.out)
          have h2 := h1.1
          rw [hnm] at h2; cases h2
        refine prA_wp s q bf bt i n m c (z := 0) (Nat.zero_le _) (by rfl) (by rfl) (by rfl) (by rfl) hf0 hf1 hmI hnI hnm ?_ 4
        intro f4 w6 hkk hb6
        have e32 : f4 32 = .bool true := hkk 32 (by decide) (by decide)
        rw [e32]
        have HB6 := Lib.hid (bl_trans HBW.out (bl_trans (bl_drew W4) hb6))
        clear hkk hb6 e32
        generalize f4 0 = g0, f4 1 = g1, f4 2 = g2, f4 3 = g3, f4 4 = g4, f4 5 = g5, f4 6 = g6, f4 7 = g7, f4 8 = g8, f4 9 = g9, f4 10 = g10, f4 11 = g11, f4 12 = g12, f4 13 = g13, f4 14 = g14, f4 15 = g15, f4 16 = g16, f4 17 = g17, f4 18 = g18, f4 19 = g19, f4 20 = g20, f4 21 = g21, f4 22 = g22, f4 23 = g23, f4 24 = g24, f4 25 = g25, f4 26 = g26, f4 27 = g27, f4 28 = g28, f4 29 = g29, f4 30 = g30, f4 31 = g31
        simp only [putL, List.foldl, Act.put, sb0, sb1, sb2]
        clear f4
        go_wp2
        go_ret
        exact ⟨false, rfl, ⟨(fun h => by cases h), fun h => absurd h HNO.out⟩, bl_trans HB1.out HB6.out⟩
      | true =>
        by_cases hi00 : i = 0
        · have hi0 : (i : Int) ≤ 0 := by omega
          clear he1 HE2
          by_cases hbig0 : m ≤ 2000
          · have hbig : (m : Int) ≤ 2000 := by omega
            cases r with
            | true =>
              have HNX : Hid (∀ j, j < i + 1 → PR1 xs j) := fun j hj => by
                by_cases e : j = i
                · subst e
                  exact HP1.out.2 ⟨hnm, fun h => absurd h (by omega), by omega, HRB.out⟩
                · exact HF.out j (by omega)
              refine prC_wp s q bf bt i n m c true (z := 0) (Nat.zero_le _) (by rfl) (by rfl) (by rfl) (by rfl) hf0 hf1 hmI hnI hnm hi0 hbig (fun W hb => HRT.out W (bl_trans HBW.out (bl_trans (bl_drew W4) hb))) ?_ 4
              intro f4 w6 hkk hb6
              have e32 : f4 32 = .bool (!true) := hkk 32 (by decide) (by decide)
              rw [e32]
              have HB6 := Lib.hid (bl_trans HBW.out (bl_trans (bl_drew W4) hb6))
              clear hkk hb6 e32
              generalize f4 0 = g0, f4 1 = g1, f4 2 = g2, f4 3 = g3, f4 4 = g4, f4 5 = g5, f4 6 = g6, f4 7 = g7, f4 8 = g8, f4 9 = g9, f4 10 = g10, f4 11 = g11, f4 12 = g12, f4 13 = g13, f4 14 = g14, f4 15 = g15, f4 16 = g16, f4 17 = g17, f4 18 = g18, f4 19 = g19, f4 20 = g20, f4 21 = g21, f4 22 = g22, f4 23 = g23, f4 24 = g24, f4 25 = g25, f4 26 = g26, f4 27 = g27, f4 28 = g28, f4 29 = g29, f4 30 = g30, f4 31 = g31
              simp only [putL, List.foldl, Act.put, sb0, sb1, sb2]
              clear f4
              go_wp2
              go_roundw
              case rel => exact ⟨i + 1, by have := HI.out; omega, by go_num, HNX.out, HB6.out⟩
              case measure => have := HI.out; simp [intOf]; omega
            | false =>
              have HNO : Hid (¬ PR xs) := fun h => by
                have h1 := HP1.out.1 (h i HIX.out)
                have h2 := h1.2.2.2
                rw [HRB.out] at h2; cases h2
              refine prC_wp s q bf bt i n m c false (z := 0) (Nat.zero_le _) (by rfl) (by rfl) (by rfl) (by rfl) hf0 hf1 hmI hnI hnm hi0 hbig (fun W hb => HRT.out W (bl_trans HBW.out (bl_trans (bl_drew W4) hb))) ?_ 4
              intro f4 w6 hkk hb6
              have e32 : f4 32 = .bool (!false) := hkk 32 (by decide) (by decide)
              rw [e32]
              have HB6 := Lib.hid (bl_trans HBW.out (bl_trans (bl_drew W4) hb6))
              clear hkk hb6 e32
              generalize f4 0 = g0, f4 1 = g1, f4 2 = g2, f4 3 = g3, f4 4 = g4, f4 5 = g5, f4 6 = g6, f4 7 = g7, f4 8 = g8, f4 9 = g9, f4 10 = g10, f4 11 = g11, f4 12 = g12, f4 13 = g13, f4 14 = g14, f4 15 = g15, f4 16 = g16, f4 17 = g17, f4 18 = g18, f4 19 = g19, f4 20 = g20, f4 21 = g21, f4 22 = g22, f4 23 = g23, f4 24 = g24, f4 25 = g25, f4 26 = g26, f4 27 = g27, f4 28 = g28, f4 29 = g29, f4 30 = g30, f4 31 = g31
              simp only [putL, List.foldl, Act.put, sb0, sb1, sb2]
              clear f4
              go_wp2
              go_ret
              exact ⟨false, rfl, ⟨(fun h => by cases h), fun h => absurd h HNO.out⟩, bl_trans HB1.out HB6.out⟩
          · have hbig : 2000 < (m : Int) := by omega
            have HNO : Hid (¬ PR xs) := fun h => by
              have h1 := HP1.out.1 (h i HIX.out)
              have h2 := h1.2.2.1; omega
            refine prB_wp s q bf bt i n m c (z := 0) (Nat.zero_le _) (by rfl) (by rfl) (by rfl) (by rfl) hf0 hf1 hmI hnI hnm hi0 hbig ?_ 4
            intro f4 w6 hkk hb6
            have e32 : f4 32 = .bool true := hkk 32 (by decide) (by decide)
            rw [e32]
            have HB6 := Lib.hid (bl_trans HBW.out (bl_trans (bl_drew W4) hb6))
            clear hkk hb6 e32
            generalize f4 0 = g0, f4 1 = g1, f4 2 = g2, f4 3 = g3, f4 4 = g4, f4 5 = g5, f4 6 = g6, f4 7 = g7, f4 8 = g8, f4 9 = g9, f4 10 = g10, f4 11 = g11, f4 12 = g12, f4 13 = g13, f4 14 = g14, f4 15 = g15, f4 16 = g16, f4 17 = g17, f4 18 = g18, f4 19 = g19, f4 20 = g20, f4 21 = g21, f4 22 = g22, f4 23 = g23, f4 24 = g24, f4 25 = g25, f4 26 = g26, f4 27 = g27, f4 28 = g28, f4 29 = g29, f4 30 = g30, f4 31 = g31
            simp only [putL, List.foldl, Act.put, sb0, sb1, sb2]
            clear f4
            go_wp2
            go_ret
            exact ⟨false, rfl, ⟨(fun h => by cases h), fun h => absurd h HNO.out⟩, bl_trans HB1.out HB6.out⟩
        · have hi0 : 0 < (i : Int) := by omega
          have hwr : IntKind.i64.wrap ((i : Int) - 1) = (i : Int) - 1 := by rw [IntKind.wrap_i64]; omega
          have he2 := HE2.out (by omega)
          clear HE2
          cases hle : leB s s0 with
          | true =>
            have HNO : Hid (¬ PR xs) := fun h => by
              have h1 := HP1.out.1 (h i HIX.out)
              have h2 := h1.2.1 (by omega)
              rw [← HS0.out, hle] at h2; cases h2
            refine prD_wp s q bf bt i n m c s0 bb o cp (z := 0) (Nat.zero_le _) (by rfl) (by rfl) (by rfl) (by rfl) hf0 hf1 hmI hnI hnm hi0 hiI (by omega) hwr he1 he2 hle ?_ 4
            intro f4 w6 hkk hb6
            have e32 : f4 32 = .bool true := hkk 32 (by decide) (by decide)
            rw [e32]
            have HB6 := Lib.hid (bl_trans HBW.out (bl_trans (bl_drew W4) hb6))
            clear hkk hb6 e32
            generalize f4 0 = g0, f4 1 = g1, f4 2 = g2, f4 3 = g3, f4 4 = g4, f4 5 = g5, f4 6 = g6, f4 7 = g7, f4 8 = g8, f4 9 = g9, f4 10 = g10, f4 11 = g11, f4 12 = g12, f4 13 = g13, f4 14 = g14, f4 15 = g15, f4 16 = g16, f4 17 = g17, f4 18 = g18, f4 19 = g19, f4 20 = g20, f4 21 = g21, f4 22 = g22, f4 23 = g23, f4 24 = g24, f4 25 = g25, f4 26 = g26, f4 27 = g27, f4 28 = g28, f4 29 = g29, f4 30 = g30, f4 31 = g31
            simp only [putL, List.foldl, Act.put, sb0, sb1, sb2]
            clear f4
            go_wp2
            go_ret
            exact ⟨false, rfl, ⟨(fun h => by cases h), fun h => absurd h HNO.out⟩, bl_trans HB1.out HB6.out⟩
          | false =>
            by_cases hbig0 : m ≤ 2000
            · have hbig : (m : Int) ≤ 2000 := by omega
              cases r with
              | true =>
                have HNX : Hid (∀ j, j < i + 1 → PR1 xs j) := fun j hj => by
                  by_cases e : j = i
                  · subst e
                    exact HP1.out.2 ⟨hnm, fun _ => by rw [← HS0.out]; exact hle, by omega, HRB.out⟩
                  · exact HF.out j (by omega)
                refine prF_wp s q bf bt i n m c s0 bb o cp true (z := 0) (Nat.zero_le _) (by rfl) (by rfl) (by rfl) (by rfl) hf0 hf1 hmI hnI hnm hi0 hiI (by omega) hwr he1 he2 hle hbig (fun W hb => HRT.out W (bl_trans HBW.out (bl_trans (bl_drew W4) hb))) ?_ 4
                intro f4 w6 hkk hb6
                have e32 : f4 32 = .bool (!true) := hkk 32 (by decide) (by decide)
                rw [e32]
                have HB6 := Lib.hid (bl_trans HBW.out (bl_trans (bl_drew W4) hb6))
                clear hkk hb6 e32
                generalize f4 0 = g0, f4 1 = g1, f4 2 = g2, f4 3 = g3, f4 4 = g4, f4 5 = g5, f4 6 = g6, f4 7 = g7, f4 8 = g8, f4 9 = g9, f4 10 = g10, f4 11 = g11, f4 12 = g12, f4 13 = g13, f4 14 = g14, f4 15 = g15, f4 16 = g16, f4 17 = g17, f4 18 = g18, f4 19 = g19, f4 20 = g20, f4 21 = g21, f4 22 = g22, f4 23 = g23, f4 24 = g24, f4 25 = g25, f4 26 = g26, f4 27 = g27, f4 28 = g28, f4 29 = g29, f4 30 = g30, f4 31 = g31
                simp only [putL, List.foldl, Act.put, sb0, sb1, sb2]
                clear f4
                go_wp2
                go_roundw
                case rel => exact ⟨i + 1, by have := HI.out; omega, by go_num, HNX.out, HB6.out⟩
                case measure => have := HI.out; simp [intOf]; omega
              | false =>
                have HNO : Hid (¬ PR xs) := fun h => by
                  have h1 := HP1.out.1 (h i HIX.out)
                  have h2 := h1.2.2.2
                  rw [HRB.out] at h2; cases h2
                refine prF_wp s q bf bt i n m c s0 bb o cp false (z := 0) (Nat.zero_le _) (by rfl) (by rfl) (by rfl) (by rfl) hf0 hf1 hmI hnI hnm hi0 hiI (by omega) hwr he1 he2 hle hbig (fun W hb => HRT.out W (bl_trans HBW.out (bl_trans (bl_drew W4) hb))) ?_ 4
                intro f4 w6 hkk hb6
                have e32 : f4 32 = .bool (!false) := hkk 32 (by decide) (by decide)
                rw [e32]
                have HB6 := Lib.hid (bl_trans HBW.out (bl_trans (bl_drew W4) hb6))
                clear hkk hb6 e32
                generalize f4 0 = g0, f4 1 = g1, f4 2 = g2, f4 3 = g3, f4 4 = g4, f4 5 = g5, f4 6 = g6, f4 7 = g7, f4 8 = g8, f4 9 = g9, f4 10 = g10, f4 11 = g11, f4 12 = g12, f4 13 = g13, f4 14 = g14, f4 15 = g15, f4 16 = g16, f4 17 = g17, f4 18 = g18, f4 19 = g19, f4 20 = g20, f4 21 = g21, f4 22 = g22, f4 23 = g23, f4 24 = g24, f4 25 = g25, f4 26 = g26, f4 27 = g27, f4 28 = g28, f4 29 = g29, f4 30 = g30, f4 31 = g31
                simp only [putL, List.foldl, Act.put, sb0, sb1, sb2]
                clear f4
                go_wp2
                go_ret
                exact ⟨false, rfl, ⟨(fun h => by cases h), fun h => absurd h HNO.out⟩, bl_trans HB1.out HB6.out⟩
            · have hbig : 2000 < (m : Int) := by omega
              have HNO : Hid (¬ PR xs) := fun h => by
                have h1 := HP1.out.1 (h i HIX.out)
                have h2 := h1.2.2.1; omega
              refine prE_wp s q bf bt i n m c s0 bb o cp (z := 0) (Nat.zero_le _) (by rfl) (by rfl) (by rfl) (by rfl) hf0 hf1 hmI hnI hnm hi0 hiI (by omega) hwr he1 he2 hle hbig ?_ 4
              intro f4 w6 hkk hb6
              have e32 : f4 32 = .bool true := hkk 32 (by decide) (by decide)
              rw [e32]
              have HB6 := Lib.hid (bl_trans HBW.out (bl_trans (bl_drew W4) hb6))
              clear hkk hb6 e32
              generalize f4 0 = g0, f4 1 = g1, f4 2 = g2, f4 3 = g3, f4 4 = g4, f4 5 = g5, f4 6 = g6, f4 7 = g7, f4 8 = g8, f4 9 = g9, f4 10 = g10, f4 11 = g11, f4 12 = g12, f4 13 = g13, f4 14 = g14, f4 15 = g15, f4 16 = g16, f4 17 = g17, f4 18 = g18, f4 19 = g19, f4 20 = g20, f4 21 = g21, f4 22 = g22, f4 23 = g23, f4 24 = g24, f4 25 = g25, f4 26 = g26, f4 27 = g27, f4 28 = g28, f4 29 = g29, f4 30 = g30, f4 31 = g31
              simp only [putL, List.foldl, Act.put, sb0, sb1, sb2]
              clear f4
              go_wp2
              go_ret
              exact ⟨false, rfl, ⟨(fun h => by cases h), fun h => absurd h HNO.out⟩, bl_trans HB1.out HB6.out⟩
    · have hiI : (n : Int) ≤ i := by omega
      have HALL : Hid (PR xs) := fun j hj => HF.out j (by have := HN.out; omega)
      have HBN := Lib.hid (bl_trans HB1.out HB.out)
      go_wp2
      go_ret
      exact ⟨true, rfl, ⟨fun _ => HALL.out, fun _ => rfl⟩, HBN.out⟩
end Go.Proofs.YtglgfpapackcdaaGreat
