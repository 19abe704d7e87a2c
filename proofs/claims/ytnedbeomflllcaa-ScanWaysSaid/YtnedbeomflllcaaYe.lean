/- The walk of a scan's number: digits of a base. -/
import Derived.Test.YtnedbeomflllcaaYd
namespace Go.Proofs.Ytnedbeomflllcaa
open Go.RowKit Tnd

set_option maxHeartbeats 1600000 in
set_option maxRecDepth 100000 in
theorem number10_any (B b : Nat) (T : TypeId) (R : List Value) (l : List Int) (k most : Nat) (w : World) (h : Cu w B b T R l k) (hm : most ≤ 1000000) :
    Calls Try.prog 26 #[.pointer (some ⟨b, 0, none⟩), .int .i64 10, .int .i64 (most : Nat), .int .i64 1073741824] w (CP w B b T R l (.tuple #[.int .i64 (numR 10 1073741824 most 0 (l.drop k)).1, .int .i64 ((numR 10 1073741824 most 0 (l.drop k)).2 : Nat)]) (k + (numR 10 1073741824 most 0 (l.drop k)).2)) := by
  have HC := Lib.hid h
  have hmI : (most : Int) ≤ 1000000 := by omega
  have HM := Lib.hid hm
  obtain ⟨X, hX⟩ : ∃ X, X = numR 10 1073741824 most 0 (l.drop k) := ⟨_, rfl⟩
  rw [← hX]
  have HX := Lib.hid hX
  clear h hm hX
  go_enter Try.func26, Try.ntmps26
  go_wp2
  go_loopw [8, 9] (fun nv mv wr => ∃ (j : Nat) (n : Int), nv = .int .i64 n ∧ mv = .int .i64 (j : Nat) ∧ j ≤ most ∧ 0 ≤ n ∧ n ≤ 1073741824 ∧ Hid (Cu wr B b T R l (k + j)) ∧ Hid (w.grownBy wr (some b)) ∧ Hid (X = ((numR 10 1073741824 (most - j) n (l.drop (k + j))).1, (numR 10 1073741824 (most - j) n (l.drop (k + j))).2 + j))) (fun _ mv _ => most - (intOf mv).toNat)
  case atStart => exact ⟨0, 0, rfl, rfl, Nat.zero_le _, by omega, by omega, HC.out, World.grownBy.refl _ _, by show _ = _; rw [HX.out]; simp⟩
  case round =>
    obtain ⟨j, n, rfl, rfl, hj, hn0, hn1, HC1, HG1, HE⟩ := hrel
    rename World => wr
    by_cases hjm : j < most
    · have hjI : (j : Int) < most := by omega
      have hpk := peek_any B b T R l (k + j) wr HC1.out
      have hjl := HC1.out.le
      have hkjI : ((k + j : Nat) : Int) ≤ 1000000 := by omega
      have hkjJ : (k : Int) + (j : Int) ≤ 1000000 := by omega
      have hjm1 : (j : Int) + 1 ≤ 1000000 := by omega
      by_cases hk : k + j < l.length
      · have hhd : hdR l (k + j) = gi l (k + j) := by unfold hdR; rw [if_pos hk]
        rw [decide_eq_true hk, hhd] at hpk
        have HDR := Lib.hid (drop_cons hk)
        have HK := Lib.hid hk
        obtain ⟨x, hx⟩ : ∃ x, x = gi l (k + j) := ⟨_, rfl⟩
        rw [← hx] at hpk HDR
        have HPK := Lib.hid hpk
        obtain ⟨hd0, hd1⟩ := wth_range x
        obtain ⟨d, hd⟩ : ∃ d, d = wth x := ⟨_, rfl⟩
        rw [← hd] at hd0 hd1
        have HW : Hid (∀ W, Calls Try.prog 32 #[.int .i64 x] W fun e w' => e = .returned (.int .i64 d) ∧ w' = W) := by rw [hd]; exact fun W => worth_any x W
        have HD := Lib.hid hd
        have hjs : most - j = (most - (j + 1)) + 1 := by omega
        have HJS := Lib.hid hjs
        clear hpk hhd hk hd hx hjl hjs
        by_cases hdb : d < 10
        · have hdec : decide ((10 : Int) ≤ d) = false := decide_eq_false (by omega)
          have hE2 := HE.out
          rw [HJS.out, HDR.out] at hE2
          simp only [numR] at hE2
          rw [← HD.out, if_pos hdb] at hE2
          have HE2 := Lib.hid hE2
          clear hE2
          by_cases hov : (1073741824 - d) / 10 < n
          · have hst : stp 10 1073741824 n d = 1073741824 := by unfold stp; rw [if_pos hov]
            have HST := Lib.hid hst
            have hov2 : decide ((1073741824 - d) / 10 < n) = true := decide_eq_true hov
            have hov3 : decide (Int.tdiv (1073741824 - d) 10 < n) = true := by rw [Int.tdiv_eq_ediv_of_nonneg (by omega)]; exact hov2
            have hov4 : Int.tdiv (1073741824 - d) 10 < n := by rw [Int.tdiv_eq_ediv_of_nonneg (by omega)]; exact hov
            clear hst
            go_wp2_with fail
            refine HPK.out.mono ?_
            rintro e w1 ⟨rfl, hc, hg⟩
            have h1 := hc.cell1
            have hf := hc.frz 1
            have HC2 := Lib.hid hc
            have HG2 := Lib.hid hg
            clear hc hg
            go_wp2_with (go_at_call 32; refine (HW.out _).mono ?_; rintro e w2 ⟨rfl, rfl⟩)
            go_roundw
            case rel =>
              refine ⟨j + 1, 1073741824, rfl, by go_num, by omega, by omega, by omega, ?_, HG1.out.trans (HG2.out.trans (grown_set _ ⟨b, 1, none⟩ _)), ?_⟩
              · exact HC2.out.set (k + (j + 1)) (by have := HK.out; omega)
              · show _ = _
                rw [HE2.out, HST.out, Nat.add_assoc k j 1]
                simp only [Prod.mk.injEq, true_and]; omega
            case measure => simp [intOf]; omega
          · have hst : stp 10 1073741824 n d = n * 10 + d := by unfold stp; rw [if_neg hov]
            have hrg := stp_range (base := 10) (gr := 1073741824) (n := n) (d := d) (by omega) hd0 (by omega) hn0
            rw [hst] at hrg
            have HST := Lib.hid hst
            have HRG := Lib.hid hrg
            have hov2 : decide ((1073741824 - d) / 10 < n) = false := decide_eq_false hov
            have hov3 : decide (Int.tdiv (1073741824 - d) 10 < n) = false := by rw [Int.tdiv_eq_ediv_of_nonneg (by omega)]; exact hov2
            have hov4 : ¬ (Int.tdiv (1073741824 - d) 10 < n) := by rw [Int.tdiv_eq_ediv_of_nonneg (by omega)]; exact hov
            clear hst hrg
            go_wp2_with fail
            refine HPK.out.mono ?_
            rintro e w1 ⟨rfl, hc, hg⟩
            have h1 := hc.cell1
            have hf := hc.frz 1
            have HC2 := Lib.hid hc
            have HG2 := Lib.hid hg
            clear hc hg
            go_wp2_with (go_at_call 32; refine (HW.out _).mono ?_; rintro e w2 ⟨rfl, rfl⟩)
            go_roundw
            case rel =>
              refine ⟨j + 1, n * 10 + d, by go_num, by go_num, by omega, HRG.out.1, HRG.out.2, ?_, HG1.out.trans (HG2.out.trans (grown_set _ ⟨b, 1, none⟩ _)), ?_⟩
              · exact HC2.out.set (k + (j + 1)) (by have := HK.out; omega)
              · show _ = _
                rw [HE2.out, HST.out, Nat.add_assoc k j 1]
                simp only [Prod.mk.injEq, true_and]; omega
            case measure => simp [intOf]; omega
        · have hdec : decide ((10 : Int) ≤ d) = true := decide_eq_true (by omega)
          have hE2 := HE.out
          rw [HJS.out, HDR.out] at hE2
          simp only [numR] at hE2
          rw [← HD.out, if_neg hdb] at hE2
          have HE2 := Lib.hid hE2
          clear hE2
          go_wp2_with fail
          refine HPK.out.mono ?_
          rintro e w1 ⟨rfl, hc, hg⟩
          have HC2 := Lib.hid hc
          have HG2 := Lib.hid hg
          clear hc hg
          go_wp2_with (go_at_call 32; refine (HW.out _).mono ?_; rintro e w2 ⟨rfl, rfl⟩)
          go_ret2
          rw [HE2.out]
          exact ⟨by simp, HC2.out.at (by simp), HG1.out.trans HG2.out⟩
      · have hhd : hdR l (k + j) = 0 := by unfold hdR; rw [if_neg hk]
        rw [decide_eq_false hk, hhd] at hpk
        have HPK := Lib.hid hpk
        have hnil : l.drop (k + j) = [] := List.drop_eq_nil_of_le (by omega)
        have hE2 := HE.out
        rw [hnil] at hE2
        have hz : numR 10 1073741824 (most - j) n [] = (n, 0) := by cases (most - j) <;> rfl
        rw [hz] at hE2
        have HE2 := Lib.hid hE2
        clear hpk hhd hk hjl hnil hE2 hz
        go_wp2_with fail
        refine HPK.out.mono ?_
        rintro e w1 ⟨rfl, hc, hg⟩
        have HC2 := Lib.hid hc
        have HG2 := Lib.hid hg
        clear hc hg
        go_wp2_with (go_at_call 32; refine (worth_any _ _).mono ?_; rintro e w2 ⟨rfl, rfl⟩)
        go_ret2
        rw [HE2.out]
        exact ⟨by simp, HC2.out.at (by simp), HG1.out.trans HG2.out⟩
    · have hjI : (most : Int) ≤ j := by omega
      have hz : most - j = 0 := by omega
      have hE2 := HE.out
      rw [hz] at hE2
      simp only [numR] at hE2
      have HE2 := Lib.hid hE2
      clear hE2 hz
      go_wp2
      go_ret2
      rw [HE2.out]
      exact ⟨by simp, HC1.out.at (by simp), HG1.out⟩
set_option maxHeartbeats 1600000 in
set_option maxRecDepth 100000 in
theorem number16_any (B b : Nat) (T : TypeId) (R : List Value) (l : List Int) (k most : Nat) (w : World) (h : Cu w B b T R l k) (hm : most ≤ 1000000) :
    Calls Try.prog 26 #[.pointer (some ⟨b, 0, none⟩), .int .i64 16, .int .i64 (most : Nat), .int .i64 1114112] w (CP w B b T R l (.tuple #[.int .i64 (numR 16 1114112 most 0 (l.drop k)).1, .int .i64 ((numR 16 1114112 most 0 (l.drop k)).2 : Nat)]) (k + (numR 16 1114112 most 0 (l.drop k)).2)) := by
  have HC := Lib.hid h
  have hmI : (most : Int) ≤ 1000000 := by omega
  have HM := Lib.hid hm
  obtain ⟨X, hX⟩ : ∃ X, X = numR 16 1114112 most 0 (l.drop k) := ⟨_, rfl⟩
  rw [← hX]
  have HX := Lib.hid hX
  clear h hm hX
  go_enter Try.func26, Try.ntmps26
  go_wp2
  go_loopw [8, 9] (fun nv mv wr => ∃ (j : Nat) (n : Int), nv = .int .i64 n ∧ mv = .int .i64 (j : Nat) ∧ j ≤ most ∧ 0 ≤ n ∧ n ≤ 1114112 ∧ Hid (Cu wr B b T R l (k + j)) ∧ Hid (w.grownBy wr (some b)) ∧ Hid (X = ((numR 16 1114112 (most - j) n (l.drop (k + j))).1, (numR 16 1114112 (most - j) n (l.drop (k + j))).2 + j))) (fun _ mv _ => most - (intOf mv).toNat)
  case atStart => exact ⟨0, 0, rfl, rfl, Nat.zero_le _, by omega, by omega, HC.out, World.grownBy.refl _ _, by show _ = _; rw [HX.out]; simp⟩
  case round =>
    obtain ⟨j, n, rfl, rfl, hj, hn0, hn1, HC1, HG1, HE⟩ := hrel
    rename World => wr
    by_cases hjm : j < most
    · have hjI : (j : Int) < most := by omega
      have hpk := peek_any B b T R l (k + j) wr HC1.out
      have hjl := HC1.out.le
      have hkjI : ((k + j : Nat) : Int) ≤ 1000000 := by omega
      have hkjJ : (k : Int) + (j : Int) ≤ 1000000 := by omega
      have hjm1 : (j : Int) + 1 ≤ 1000000 := by omega
      by_cases hk : k + j < l.length
      · have hhd : hdR l (k + j) = gi l (k + j) := by unfold hdR; rw [if_pos hk]
        rw [decide_eq_true hk, hhd] at hpk
        have HDR := Lib.hid (drop_cons hk)
        have HK := Lib.hid hk
        obtain ⟨x, hx⟩ : ∃ x, x = gi l (k + j) := ⟨_, rfl⟩
        rw [← hx] at hpk HDR
        have HPK := Lib.hid hpk
        obtain ⟨hd0, hd1⟩ := wth_range x
        obtain ⟨d, hd⟩ : ∃ d, d = wth x := ⟨_, rfl⟩
        rw [← hd] at hd0 hd1
        have HW : Hid (∀ W, Calls Try.prog 32 #[.int .i64 x] W fun e w' => e = .returned (.int .i64 d) ∧ w' = W) := by rw [hd]; exact fun W => worth_any x W
        have HD := Lib.hid hd
        have hjs : most - j = (most - (j + 1)) + 1 := by omega
        have HJS := Lib.hid hjs
        clear hpk hhd hk hd hx hjl hjs
        by_cases hdb : d < 16
        · have hdec : decide ((16 : Int) ≤ d) = false := decide_eq_false (by omega)
          have hE2 := HE.out
          rw [HJS.out, HDR.out] at hE2
          simp only [numR] at hE2
          rw [← HD.out, if_pos hdb] at hE2
          have HE2 := Lib.hid hE2
          clear hE2
          by_cases hov : (1114112 - d) / 16 < n
          · have hst : stp 16 1114112 n d = 1114112 := by unfold stp; rw [if_pos hov]
            have HST := Lib.hid hst
            have hov2 : decide ((1114112 - d) / 16 < n) = true := decide_eq_true hov
            have hov3 : decide (Int.tdiv (1114112 - d) 16 < n) = true := by rw [Int.tdiv_eq_ediv_of_nonneg (by omega)]; exact hov2
            have hov4 : Int.tdiv (1114112 - d) 16 < n := by rw [Int.tdiv_eq_ediv_of_nonneg (by omega)]; exact hov
            clear hst
            go_wp2_with fail
            refine HPK.out.mono ?_
            rintro e w1 ⟨rfl, hc, hg⟩
            have h1 := hc.cell1
            have hf := hc.frz 1
            have HC2 := Lib.hid hc
            have HG2 := Lib.hid hg
            clear hc hg
            go_wp2_with (go_at_call 32; refine (HW.out _).mono ?_; rintro e w2 ⟨rfl, rfl⟩)
            go_roundw
            case rel =>
              refine ⟨j + 1, 1114112, rfl, by go_num, by omega, by omega, by omega, ?_, HG1.out.trans (HG2.out.trans (grown_set _ ⟨b, 1, none⟩ _)), ?_⟩
              · exact HC2.out.set (k + (j + 1)) (by have := HK.out; omega)
              · show _ = _
                rw [HE2.out, HST.out, Nat.add_assoc k j 1]
                simp only [Prod.mk.injEq, true_and]; omega
            case measure => simp [intOf]; omega
          · have hst : stp 16 1114112 n d = n * 16 + d := by unfold stp; rw [if_neg hov]
            have hrg := stp_range (base := 16) (gr := 1114112) (n := n) (d := d) (by omega) hd0 (by omega) hn0
            rw [hst] at hrg
            have HST := Lib.hid hst
            have HRG := Lib.hid hrg
            have hov2 : decide ((1114112 - d) / 16 < n) = false := decide_eq_false hov
            have hov3 : decide (Int.tdiv (1114112 - d) 16 < n) = false := by rw [Int.tdiv_eq_ediv_of_nonneg (by omega)]; exact hov2
            have hov4 : ¬ (Int.tdiv (1114112 - d) 16 < n) := by rw [Int.tdiv_eq_ediv_of_nonneg (by omega)]; exact hov
            clear hst hrg
            go_wp2_with fail
            refine HPK.out.mono ?_
            rintro e w1 ⟨rfl, hc, hg⟩
            have h1 := hc.cell1
            have hf := hc.frz 1
            have HC2 := Lib.hid hc
            have HG2 := Lib.hid hg
            clear hc hg
            go_wp2_with (go_at_call 32; refine (HW.out _).mono ?_; rintro e w2 ⟨rfl, rfl⟩)
            go_roundw
            case rel =>
              refine ⟨j + 1, n * 16 + d, by go_num, by go_num, by omega, HRG.out.1, HRG.out.2, ?_, HG1.out.trans (HG2.out.trans (grown_set _ ⟨b, 1, none⟩ _)), ?_⟩
              · exact HC2.out.set (k + (j + 1)) (by have := HK.out; omega)
              · show _ = _
                rw [HE2.out, HST.out, Nat.add_assoc k j 1]
                simp only [Prod.mk.injEq, true_and]; omega
            case measure => simp [intOf]; omega
        · have hdec : decide ((16 : Int) ≤ d) = true := decide_eq_true (by omega)
          have hE2 := HE.out
          rw [HJS.out, HDR.out] at hE2
          simp only [numR] at hE2
          rw [← HD.out, if_neg hdb] at hE2
          have HE2 := Lib.hid hE2
          clear hE2
          go_wp2_with fail
          refine HPK.out.mono ?_
          rintro e w1 ⟨rfl, hc, hg⟩
          have HC2 := Lib.hid hc
          have HG2 := Lib.hid hg
          clear hc hg
          go_wp2_with (go_at_call 32; refine (HW.out _).mono ?_; rintro e w2 ⟨rfl, rfl⟩)
          go_ret2
          rw [HE2.out]
          exact ⟨by simp, HC2.out.at (by simp), HG1.out.trans HG2.out⟩
      · have hhd : hdR l (k + j) = 0 := by unfold hdR; rw [if_neg hk]
        rw [decide_eq_false hk, hhd] at hpk
        have HPK := Lib.hid hpk
        have hnil : l.drop (k + j) = [] := List.drop_eq_nil_of_le (by omega)
        have hE2 := HE.out
        rw [hnil] at hE2
        have hz : numR 16 1114112 (most - j) n [] = (n, 0) := by cases (most - j) <;> rfl
        rw [hz] at hE2
        have HE2 := Lib.hid hE2
        clear hpk hhd hk hjl hnil hE2 hz
        go_wp2_with fail
        refine HPK.out.mono ?_
        rintro e w1 ⟨rfl, hc, hg⟩
        have HC2 := Lib.hid hc
        have HG2 := Lib.hid hg
        clear hc hg
        go_wp2_with (go_at_call 32; refine (worth_any _ _).mono ?_; rintro e w2 ⟨rfl, rfl⟩)
        go_ret2
        rw [HE2.out]
        exact ⟨by simp, HC2.out.at (by simp), HG1.out.trans HG2.out⟩
    · have hjI : (most : Int) ≤ j := by omega
      have hz : most - j = 0 := by omega
      have hE2 := HE.out
      rw [hz] at hE2
      simp only [numR] at hE2
      have HE2 := Lib.hid hE2
      clear hE2 hz
      go_wp2
      go_ret2
      rw [HE2.out]
      exact ⟨by simp, HC1.out.at (by simp), HG1.out⟩
end Go.Proofs.Ytnedbeomflllcaa
