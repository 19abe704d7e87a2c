/- The document's scan: decimal. -/
import Derived.Test.YtkpkhjflelmdjaaZe
namespace Go.Proofs.Ytkpkhjflelmdjaa
open Go.RowKit Tnd

theorem sg_digit {l : List Int} {k : Nat} {x : Int} (hx : x = sgR (l.drop k) 0) (h1 : 48 ≤ x) : k < l.length ∧ gi l k = x := by
  obtain ⟨n, rfl⟩ := Int.eq_ofNat_of_zero_le (show 0 ≤ x by omega)
  exact sg_head.1 hx.symm
theorem sg_none {l : List Int} {k : Nat} {x : Int} (hx : x = sgR (l.drop k) 0) (hn : ¬ (48 ≤ x ∧ x ≤ 57)) (m : Nat) (n : Int) : numR 10 1073741824 m n (l.drop k) = (n, 0) := by
  cases m with
  | zero => rfl
  | succ m =>
    by_cases hk : k < l.length
    · rw [drop_cons hk]
      simp only [numR]
      rw [if_neg]
      intro hw
      have : 48 ≤ gi l k ∧ gi l k ≤ 57 := by
        unfold wth at hw
        (repeat' split at hw) <;> omega
      have e : x = gi l k := by
        rw [hx]
        unfold sgR
        rw [if_pos (by rw [List.length_drop]; omega), drop_gi, Nat.add_zero, if_neg (by omega)]
      omega
    · rw [List.drop_eq_nil_of_le (by omega)]; rfl

set_option maxHeartbeats 1600000 in
theorem decimal_ref (B b : Nat) (l : List Int) (k : Nat) (w : World) (h : Rs w B b l k) :
    Calls Try.prog 37 #[.pointer (some ⟨b, 0, none⟩)] w (CP w B b 43 [] l (.tuple #[.int .i64 (numR 10 1073741824 (l.drop k).length 0 (l.drop k)).1, .int .i64 ((numR 10 1073741824 (l.drop k).length 0 (l.drop k)).2 : Nat)]) (k + (numR 10 1073741824 (l.drop k).length 0 (l.drop k)).2)) := by
  have HC := Lib.hid h
  have hkl := h.le
  have HKL := Lib.hid hkl
  obtain ⟨N, hN⟩ : ∃ N, N = (l.drop k).length := ⟨_, rfl⟩
  obtain ⟨X, hX⟩ : ∃ X, X = numR 10 1073741824 (l.drop k).length 0 (l.drop k) := ⟨_, rfl⟩
  rw [← hX]
  rw [← hN] at hX
  have HX := Lib.hid hX
  have HN := Lib.hid hN
  have HNK : Hid (N = l.length - k) := by show _ = _; rw [hN, List.length_drop]
  clear h hX hN hkl
  go_enter Try.func37, Try.ntmps37
  go_wp2
  go_loopw [4, 5] (fun nv mv wr => ∃ (j : Nat) (n : Int), nv = .int .i64 n ∧ mv = .int .i64 (j : Nat) ∧ Hid (k + j ≤ l.length) ∧ (j : Int) ≤ 1000000 ∧ 0 ≤ n ∧ n ≤ 1073741824 ∧ Hid (Rs wr B b l (k + j)) ∧ Hid (w.grownBy wr (some b)) ∧ Hid (X = ((numR 10 1073741824 (N - j) n (l.drop (k + j))).1, (numR 10 1073741824 (N - j) n (l.drop (k + j))).2 + j))) (fun _ mv _ => l.length - (intOf mv).toNat)
  case atStart => exact ⟨0, 0, rfl, rfl, by have := HKL.out; show _ ≤ _; omega, by omega, by omega, by omega, HC.out, World.grownBy.refl _ _, by show _ = _; rw [HX.out]; simp⟩
  case round =>
    obtain ⟨j, n, rfl, rfl, HJ, hj1, hn0, hn1, HR, HG, HE⟩ := hrel
    rename World => wr
    obtain ⟨x, hx⟩ : ∃ x, x = sgR (l.drop (k + j)) 0 := ⟨_, rfl⟩
    have HXX := Lib.hid hx
    have HSG : Hid (∀ W : World, Rs W B b l (k + j) → Calls Try.prog 53 #[.pointer (some ⟨b, 0, none⟩), .int .i64 0] W fun e w' => e = .returned (.int .i64 x) ∧ ∃ n, w' = W.drewN n) := fun W hW => by rw [hx]; exact sign_ref B b l (k + j) 0 W hW (by omega)
    clear hx
    by_cases hd : 48 ≤ x ∧ x ≤ 57
    · obtain ⟨hd1, hd2⟩ := hd
      obtain ⟨hk, hg⟩ := sg_digit HXX.out hd1
      have hwx : wth x = x - 48 := by unfold wth; rw [if_pos ⟨hd1, hd2⟩]
      have hE2 := HE.out
      have hjs : N - j = (N - (j + 1)) + 1 := by have := HNK.out; omega
      rw [hjs, drop_cons hk, hg] at hE2
      simp only [numR] at hE2
      rw [hwx, if_pos (by omega)] at hE2
      have HE2 := Lib.hid hE2
      have HK := Lib.hid hk
      have HJM : Hid (k + (j + 1) ≤ l.length ∧ l.length ≤ 1000000) := by have := HKL.out; show _ ∧ _; omega
      have hst := stp_min (base := 10) (gr := 1073741824) (n := n) (d := x - 48) (by omega)
      have hj2 : (j : Int) + 1 ≤ 1000000 := by have := HJM.out; omega
      have hkj : (k : Int) + j ≤ 1000000 := by have := HJM.out; omega
      clear hE2 hjs hk hg hwx
      by_cases hov : 1073741824 < n * 10 + x - 48
      · have hst2 : stp 10 1073741824 n (x - 48) = 1073741824 := by rw [hst]; omega
        have HST := Lib.hid hst2
        clear hst hst2
        go_wp2_with fail
        refine (HSG.out _ HR.out).mono ?_
        rintro e w1 ⟨rfl, n1, hw1⟩
        have HR1 : Hid (Rs w1 B b l (k + j)) := by rw [hw1]; exact Cu.drewN HR.out n1
        have HG1 : Hid (w.grownBy w1 (some b)) := by rw [hw1]; exact HG.out.trans (grown_drewN _ _ _)
        clear hw1
        go_wp2_with (go_at_call 53; refine (HSG.out _ HR1.out).mono ?_; rintro e w2 ⟨rfl, n2, hw2⟩; have HR2 : Hid (Rs w2 B b l (k + j)) := by { rw [hw2]; exact Cu.drewN HR1.out n2 }; have HG2 : Hid (w.grownBy w2 (some b)) := by { rw [hw2]; exact HG1.out.trans (grown_drewN _ _ _) }; clear hw2)
        refine (HSG.out _ HR2.out).mono ?_
        rintro e w3 ⟨rfl, n3, hw3⟩
        have HR3 : Hid (Rs w3 B b l (k + j)) := by rw [hw3]; exact Cu.drewN HR2.out n3
        have HG3 : Hid (w.grownBy w3 (some b)) := by rw [hw3]; exact HG2.out.trans (grown_drewN _ _ _)
        have hc1 := HR3.out.cell1
        have hfz := HR3.out.frz 1
        clear hw3
        go_wp2
        go_roundw
        case rel =>
          refine ⟨j + 1, 1073741824, rfl, by go_num, HJM.out.1, hj2, by omega, by omega, ?_, HG3.out.trans (grown_set _ ⟨b, 1, none⟩ _), ?_⟩
          · exact HR3.out.set (k + (j + 1)) HJM.out.1
          · show _ = _
            rw [HE2.out, HST.out, Nat.add_assoc k j 1]
            simp only [Prod.mk.injEq, true_and]; omega
        case measure => have := HK.out; simp only [intOf]; omega
      · have hst2 : stp 10 1073741824 n (x - 48) = n * 10 + x - 48 := by rw [hst]; omega
        have HST := Lib.hid hst2
        have hov2 : n * 10 + x - 48 ≤ 1073741824 := by omega
        clear hst hst2
        go_wp2_with fail
        refine (HSG.out _ HR.out).mono ?_
        rintro e w1 ⟨rfl, n1, hw1⟩
        have HR1 : Hid (Rs w1 B b l (k + j)) := by rw [hw1]; exact Cu.drewN HR.out n1
        have HG1 : Hid (w.grownBy w1 (some b)) := by rw [hw1]; exact HG.out.trans (grown_drewN _ _ _)
        clear hw1
        go_wp2_with (go_at_call 53; refine (HSG.out _ HR1.out).mono ?_; rintro e w2 ⟨rfl, n2, hw2⟩; have HR2 : Hid (Rs w2 B b l (k + j)) := by { rw [hw2]; exact Cu.drewN HR1.out n2 }; have HG2 : Hid (w.grownBy w2 (some b)) := by { rw [hw2]; exact HG1.out.trans (grown_drewN _ _ _) }; clear hw2)
        refine (HSG.out _ HR2.out).mono ?_
        rintro e w3 ⟨rfl, n3, hw3⟩
        have HR3 : Hid (Rs w3 B b l (k + j)) := by rw [hw3]; exact Cu.drewN HR2.out n3
        have HG3 : Hid (w.grownBy w3 (some b)) := by rw [hw3]; exact HG2.out.trans (grown_drewN _ _ _)
        have hc1 := HR3.out.cell1
        have hfz := HR3.out.frz 1
        clear hw3
        go_wp2
        go_roundw
        case rel =>
          refine ⟨j + 1, n * 10 + x - 48, rfl, by go_num, HJM.out.1, hj2, by omega, by omega, ?_, HG3.out.trans (grown_set _ ⟨b, 1, none⟩ _), ?_⟩
          · exact HR3.out.set (k + (j + 1)) HJM.out.1
          · show _ = _
            rw [HE2.out, HST.out, Nat.add_assoc k j 1]
            simp only [Prod.mk.injEq, true_and]; omega
        case measure => have := HK.out; simp only [intOf]; omega
    · have hE2 := HE.out
      rw [sg_none HXX.out hd] at hE2
      simp only at hE2
      have HE2 : Hid (X = (n, j)) := by show _ = _; rw [hE2]; simp
      clear hE2
      by_cases h1 : 48 ≤ x
      · have h2 : 57 < x := by omega
        clear hd
        go_wp2_with fail
        refine (HSG.out _ HR.out).mono ?_
        rintro e w1 ⟨rfl, n1, hw1⟩
        have HR1 : Hid (Rs w1 B b l (k + j)) := by rw [hw1]; exact Cu.drewN HR.out n1
        have HG1 : Hid (w.grownBy w1 (some b)) := by rw [hw1]; exact HG.out.trans (grown_drewN _ _ _)
        clear hw1
        go_wp2_with (go_at_call 53; refine (HSG.out _ HR1.out).mono ?_; rintro e w2 ⟨rfl, n2, hw2⟩; have HR2 : Hid (Rs w2 B b l (k + j)) := by { rw [hw2]; exact Cu.drewN HR1.out n2 }; have HG2 : Hid (w.grownBy w2 (some b)) := by { rw [hw2]; exact HG1.out.trans (grown_drewN _ _ _) }; clear hw2)
        go_ret2
        rw [HE2.out]
        exact ⟨rfl, HR2.out, HG2.out⟩
      · have h2 : x < 48 := by omega
        clear hd h1
        go_wp2_with fail
        refine (HSG.out _ HR.out).mono ?_
        rintro e w1 ⟨rfl, n1, hw1⟩
        have HR1 : Hid (Rs w1 B b l (k + j)) := by rw [hw1]; exact Cu.drewN HR.out n1
        have HG1 : Hid (w.grownBy w1 (some b)) := by rw [hw1]; exact HG.out.trans (grown_drewN _ _ _)
        clear hw1
        go_wp2
        go_ret2
        rw [HE2.out]
        exact ⟨rfl, HR1.out, HG1.out⟩
end Go.Proofs.Ytkpkhjflelmdjaa
