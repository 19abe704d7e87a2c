/- The document's scan: digits in braces. -/
import Derived.Test.YtkpkhjflelmdjaaZg
namespace Go.Proofs.Ytkpkhjflelmdjaa
open Go.RowKit Tnd

/-- digits in braces, as the document tells them: what they are, how many signs. -/
def brR (r : List Int) : Int × Nat :=
  if pre [123] r = true then (match brcR (r.drop 1) with
    | some x => (x.1, x.2 + 1)
    | none => (0, 0)) else (0, 0)
theorem pre_one {l : List Int} {a : Nat} {x : UInt8} : pre [x] (l.drop a) = true ↔ a < l.length ∧ gi l a = (x.toNat : Int) := by
  by_cases ha : a < l.length
  · rw [drop_cons ha]
    simp only [pre, Bool.and_true, beq_iff_eq]
    exact ⟨fun h => ⟨ha, h⟩, fun h => h.2⟩
  · rw [List.drop_eq_nil_of_le (by omega)]
    refine ⟨fun h => ?_, fun h => absurd h.1 ha⟩
    simp [pre] at h
theorem sg_at {l : List Int} {k i x : Nat} : sgR (l.drop k) i = (x : Int) ↔ k + i < l.length ∧ gi l (k + i) = (x : Int) := by
  rw [sg_byte, drop_gi, List.length_drop]
  constructor
  · rintro ⟨h1, h2⟩; exact ⟨by omega, h2⟩
  · rintro ⟨h1, h2⟩; exact ⟨by omega, h2⟩

set_option maxHeartbeats 3200000 in
set_option maxRecDepth 100000 in
theorem brace_ref (B b : Nat) (l : List Int) (k f : Nat) (w : World) (h : Rs w B b l k) (hf : f ≤ 10) :
    Calls Try.prog 60 #[.pointer (some ⟨b, 0, none⟩), .int .i64 (f : Nat)] w fun e w' => e = .returned (.tuple #[.int .i64 (brR (l.drop (k + f))).1, .int .i64 ((brR (l.drop (k + f))).2 : Nat)]) ∧ ∃ n, w' = w.drewN n := by
  have HC := Lib.hid h
  have hfI : (f : Int) ≤ 10 := by omega
  have hll := h.le
  have HLL := Lib.hid hll
  have HF := Lib.hid hf
  obtain ⟨V, hV⟩ : ∃ V, V = brR (l.drop (k + f)) := ⟨_, rfl⟩
  rw [← hV]
  have HS0 : Hid (Calls Try.prog 53 #[.pointer (some ⟨b, 0, none⟩), .int .i64 (f : Nat)] w fun e w' => e = .returned (.int .i64 (sgR (l.drop k) f)) ∧ ∃ n, w' = w.drewN n) := sign_ref B b l k f w h (by omega)
  by_cases hp : pre [123] (l.drop (k + f)) = true
  · have hs : sgR (l.drop k) f = 123 := sg_at.2 (pre_one.1 hp)
    rw [hs] at HS0
    have hV2 : V = (match brcR (l.drop (k + f + 1)) with
      | some x => (x.1, x.2 + 1)
      | none => (0, 0)) := by rw [hV]; unfold brR; rw [if_pos hp, List.drop_drop]
    obtain ⟨N, hN⟩ : ∃ N, N = (l.drop (k + f + 1)).length := ⟨_, rfl⟩
    obtain ⟨X, hX⟩ : ∃ X, X = numR 16 1114112 N 0 (l.drop (k + f + 1)) := ⟨_, rfl⟩
    unfold brcR at hV2
    rw [← hN, ← hX] at hV2
    have HV := Lib.hid hV2
    have HX := Lib.hid hX
    have HN : Hid (N = l.length - (k + f + 1)) := by show _ = _; rw [hN, List.length_drop]
    have HKF := Lib.hid (pre_one.1 hp).1
    clear hs hV hV2 hX hN hp h hll hf
    go_enter Try.func60, Try.ntmps60
    go_wp2_with fail
    refine HS0.out.mono ?_
    rintro e w1 ⟨rfl, n0, hw1⟩
    have HC1 : Hid (Rs w1 B b l k) := by rw [hw1]; exact Cu.drewN HC.out n0
    have HW1 : Hid (∃ q, w1 = w.drewN q) := ⟨n0, hw1⟩
    clear hw1 HS0
    go_wp2
    go_loopw [6, 7] (fun nv iv wr => ∃ (j : Nat) (n : Int), Hid (j ≤ N) ∧ nv = .int .i64 n ∧ iv = .int .i64 ((j : Int) + 1) ∧ (j : Int) ≤ 1000000 ∧ 0 ≤ n ∧ n ≤ 1114112 ∧ Hid (∃ q, wr = w.drewN q) ∧ Hid (Rs wr B b l k) ∧ Hid (X = ((numR 16 1114112 (N - j) n (l.drop (k + f + 1 + j))).1, (numR 16 1114112 (N - j) n (l.drop (k + f + 1 + j))).2 + j))) (fun _ iv _ => N + 1 - (intOf iv).toNat)
    case atStart => exact ⟨0, 0, Nat.zero_le _, rfl, rfl, by omega, by omega, by omega, HW1, HC1, by show _ = _; rw [HX.out]; simp⟩
    case round =>
      clear HW1 HC1
      obtain ⟨j, n, HJ, rfl, rfl, hj1, hn0, hn1, HW, HR, HE⟩ := hrel
      rename World => wr
      have hfj : (f : Int) + ((j : Int) + 1) ≤ 1000011 := by omega
      have HSG : Hid (∀ W : World, Rs W B b l k → Calls Try.prog 53 #[.pointer (some ⟨b, 0, none⟩), .int .i64 ((f : Int) + ((j : Int) + 1))] W fun e w' => e = .returned (.int .i64 (sgR (l.drop k) (f + (j + 1)))) ∧ ∃ n, w' = W.drewN n) := fun W hW => by
        have := sign_ref B b l k (f + (j + 1)) W hW (by have := HLL.out; have := HJ.out; have := HN.out; have := HF.out; have := HKF.out; omega)
        rw [Int.natCast_add, Int.natCast_add] at this; exact this
      obtain ⟨x, hx⟩ : ∃ x, x = sgR (l.drop k) (f + (j + 1)) := ⟨_, rfl⟩
      obtain ⟨d, hd⟩ : ∃ d, d = hxR x := ⟨_, rfl⟩
      have HHX : Hid (∀ W, Calls Try.prog 68 #[.int .i64 x] W fun e w' => e = .returned (.int .i64 d) ∧ w' = W) := fun W => by rw [hd]; exact hex_ref x W
      have hds : d = if k + f + 1 + j < l.length ∧ wth (gi l (k + f + 1 + j)) < 16 then wth (gi l (k + f + 1 + j)) else -1 := by
        rw [hd, hx, hx_sg, show k + (f + (j + 1)) = k + f + 1 + j by omega]
      rw [← hx] at HSG
      have HDS := Lib.hid hds
      have HXX := Lib.hid hx
      clear hd hx hds
      by_cases hok : k + f + 1 + j < l.length ∧ wth (gi l (k + f + 1 + j)) < 16
      · have hdv := HDS.out
        rw [if_pos hok] at hdv
        have hd0 : 0 ≤ d := by rw [hdv]; exact (wth_range _).1
        have hd1 : d < 16 := by rw [hdv]; exact hok.2
        have hE2 := HE.out
        have HJN : Hid (j < N) := by have := HN.out; show _ < _; omega
        rw [show N - j = (N - (j + 1)) + 1 by have := HJN.out; omega, num_step hok.1 hdv.symm hd1] at hE2
        have HJM : Hid ((j : Int) + 1 ≤ 1000000) := by have := HLL.out; show _ ≤ _; omega
        have hst := stp_min (base := 16) (gr := 1114112) (n := n) (d := d) (by omega)
        have HE2 := Lib.hid hE2
        clear hE2 hok hdv
        by_cases hov : 1114112 < n * 16 + d
        · have hst2 : stp 16 1114112 n d = 1114112 := by rw [hst]; omega
          have HST := Lib.hid hst2
          clear hst hst2
          go_wp2_with fail
          refine (HSG.out _ HR.out).mono ?_
          rintro e w1 ⟨rfl, n1, hw1⟩
          have HR1 : Hid (Rs w1 B b l k) := by rw [hw1]; exact Cu.drewN HR.out n1
          have HW1 : Hid (∃ q, w1 = w.drewN q) := by
            obtain ⟨q, hq⟩ := HW.out
            exact ⟨q + n1, by rw [hw1, hq]; first | rfl | exact World.drewN_drewN _ _ _ | exact (World.drewN_drewN _ _ _).symm⟩
          clear hw1
          go_wp2_with (go_at_call 68; refine (HHX.out _).mono ?_; rintro e w2 ⟨rfl, rfl⟩)
          refine (HSG.out _ HR1.out).mono ?_
          rintro e w3 ⟨rfl, n3, hw3⟩
          have HR3 : Hid (Rs w3 B b l k) := by rw [hw3]; exact Cu.drewN HR1.out n3
          have HW3 : Hid (∃ q, w3 = w.drewN q) := by
            obtain ⟨q, hq⟩ := HW1.out
            exact ⟨q + n3, by rw [hw3, hq]; first | rfl | exact World.drewN_drewN _ _ _ | exact (World.drewN_drewN _ _ _).symm⟩
          clear hw3
          go_wp2_with (go_at_call 68; refine (HHX.out _).mono ?_; rintro e w4 ⟨rfl, rfl⟩)
          go_roundw
          case rel =>
            refine ⟨j + 1, 1114112, HJN, rfl, by go_num, HJM.out, by omega, by omega, HW3, HR3, ?_⟩
            show _ = _
            rw [HE2.out, HST.out, Nat.add_assoc (k + f + 1) j 1]
            simp only [Prod.mk.injEq, true_and]; omega
          case measure => have := HJN.out; simp only [intOf]; omega
        · have hst2 : stp 16 1114112 n d = n * 16 + d := by rw [hst]; omega
          have hov2 : n * 16 + d ≤ 1114112 := by omega
          have HST := Lib.hid hst2
          clear hst hst2
          go_wp2_with fail
          refine (HSG.out _ HR.out).mono ?_
          rintro e w1 ⟨rfl, n1, hw1⟩
          have HR1 : Hid (Rs w1 B b l k) := by rw [hw1]; exact Cu.drewN HR.out n1
          have HW1 : Hid (∃ q, w1 = w.drewN q) := by
            obtain ⟨q, hq⟩ := HW.out
            exact ⟨q + n1, by rw [hw1, hq]; first | rfl | exact World.drewN_drewN _ _ _ | exact (World.drewN_drewN _ _ _).symm⟩
          clear hw1
          go_wp2_with (go_at_call 68; refine (HHX.out _).mono ?_; rintro e w2 ⟨rfl, rfl⟩)
          refine (HSG.out _ HR1.out).mono ?_
          rintro e w3 ⟨rfl, n3, hw3⟩
          have HR3 : Hid (Rs w3 B b l k) := by rw [hw3]; exact Cu.drewN HR1.out n3
          have HW3 : Hid (∃ q, w3 = w.drewN q) := by
            obtain ⟨q, hq⟩ := HW1.out
            exact ⟨q + n3, by rw [hw3, hq]; first | rfl | exact World.drewN_drewN _ _ _ | exact (World.drewN_drewN _ _ _).symm⟩
          clear hw3
          go_wp2_with (go_at_call 68; refine (HHX.out _).mono ?_; rintro e w4 ⟨rfl, rfl⟩)
          go_roundw
          case rel =>
            refine ⟨j + 1, n * 16 + d, HJN, rfl, by go_num, HJM.out, by omega, by omega, HW3, HR3, ?_⟩
            show _ = _
            rw [HE2.out, HST.out, Nat.add_assoc (k + f + 1) j 1]
            simp only [Prod.mk.injEq, true_and]; omega
          case measure => have := HJN.out; simp only [intOf]; omega
      · have hdv := HDS.out
        rw [if_neg hok] at hdv
        have hE2 := HE.out
        rw [num_stop hok] at hE2
        have HE2 : Hid (X = (n, j)) := by show _ = _; rw [hE2]; simp
        clear hE2 hok
        subst hdv
        have hv := HV.out
        rw [HE2.out] at hv
        simp only at hv
        rw [List.drop_drop] at hv
        by_cases hj0 : j = 0
        · subst hj0
          rw [if_pos (.inl rfl)] at hv
          have HVV := Lib.hid hv
          clear hv
          go_wp2_with fail
          refine (HSG.out _ HR.out).mono ?_
          rintro e w1 ⟨rfl, n1, hw1⟩
          have HR1 : Hid (Rs w1 B b l k) := by rw [hw1]; exact Cu.drewN HR.out n1
          have HW1 : Hid (∃ q, w1 = w.drewN q) := by
            obtain ⟨q, hq⟩ := HW.out
            exact ⟨q + n1, by rw [hw1, hq]; first | rfl | exact World.drewN_drewN _ _ _ | exact (World.drewN_drewN _ _ _).symm⟩
          clear hw1
          go_wp2_with (go_at_call 68; refine (HHX.out _).mono ?_; rintro e w2 ⟨rfl, rfl⟩)
          go_ret2
          rw [HVV.out]
          exact ⟨rfl, HW1.out⟩
        · have hjb : (((j : Int) + 1) == 1) = false := by rw [beq_eq_false_iff_ne]; omega
          by_cases hx5 : x = 125
          · have hpp : pre [125] (l.drop (k + f + 1 + j)) = true := by
              have h1 := sg_at.1 (show sgR (l.drop k) (f + (j + 1)) = ((125 : Nat) : Int) by rw [← HXX.out]; exact hx5)
              rw [show k + (f + (j + 1)) = k + f + 1 + j by omega] at h1
              exact pre_one.2 h1
            have hxb : (x != 125) = false := by rw [hx5]; rfl
            by_cases hn2 : 1114111 < n
            · rw [if_pos (.inr hn2)] at hv
              have HVV := Lib.hid hv
              clear hv hpp hx5 hj0
              go_wp2_with fail
              refine (HSG.out _ HR.out).mono ?_
              rintro e w1 ⟨rfl, n1, hw1⟩
              have HR1 : Hid (Rs w1 B b l k) := by rw [hw1]; exact Cu.drewN HR.out n1
              have HW1 : Hid (∃ q, w1 = w.drewN q) := by
                obtain ⟨q, hq⟩ := HW.out
                exact ⟨q + n1, by rw [hw1, hq]; first | rfl | exact World.drewN_drewN _ _ _ | exact (World.drewN_drewN _ _ _).symm⟩
              clear hw1
              go_wp2_with (first | (go_at_call 68; refine (HHX.out _).mono ?_; rintro e w2 ⟨rfl, rfl⟩) | (go_at_call 53; refine (HSG.out _ HR1.out).mono ?_; rintro e w3 ⟨rfl, n3, hw3⟩; have HW3 : Hid (∃ q, w3 = w.drewN q) := by { obtain ⟨q, hq⟩ := HW1.out; exact ⟨q + n3, by rw [hw3, hq]; first | rfl | exact World.drewN_drewN _ _ _ | exact (World.drewN_drewN _ _ _).symm⟩ }; clear hw3))
              go_ret2
              rw [HVV.out]
              exact ⟨rfl, HW3.out⟩
            · rw [if_neg (by omega), if_pos hpp] at hv
              have HVV := Lib.hid hv
              have hnd : decide (1114111 < n) = false := decide_eq_false hn2
              clear hv hpp hx5 hj0 hn2
              go_wp2_with fail
              refine (HSG.out _ HR.out).mono ?_
              rintro e w1 ⟨rfl, n1, hw1⟩
              have HR1 : Hid (Rs w1 B b l k) := by rw [hw1]; exact Cu.drewN HR.out n1
              have HW1 : Hid (∃ q, w1 = w.drewN q) := by
                obtain ⟨q, hq⟩ := HW.out
                exact ⟨q + n1, by rw [hw1, hq]; first | rfl | exact World.drewN_drewN _ _ _ | exact (World.drewN_drewN _ _ _).symm⟩
              clear hw1
              go_wp2_with (first | (go_at_call 68; refine (HHX.out _).mono ?_; rintro e w2 ⟨rfl, rfl⟩) | (go_at_call 53; refine (HSG.out _ HR1.out).mono ?_; rintro e w3 ⟨rfl, n3, hw3⟩; have HW3 : Hid (∃ q, w3 = w.drewN q) := by { obtain ⟨q, hq⟩ := HW1.out; exact ⟨q + n3, by rw [hw3, hq]; first | rfl | exact World.drewN_drewN _ _ _ | exact (World.drewN_drewN _ _ _).symm⟩ }; clear hw3))
              go_ret2
              rw [HVV.out]
              refine ⟨?_, HW3.out⟩
              simp only [Ending.returned.injEq, Value.tuple.injEq]
              rfl
          · have hpp : ¬ pre [125] (l.drop (k + f + 1 + j)) = true := by
              intro e
              have h1 := pre_one.1 e
              rw [show k + f + 1 + j = k + (f + (j + 1)) by omega] at h1
              exact hx5 (by rw [HXX.out]; exact sg_at.2 h1)
            have hxb : (x != 125) = true := by simpa using hx5
            have hv2 : V = (0, 0) := by
              rw [hv]
              by_cases e : j = 0 ∨ 1114111 < n
              · rw [if_pos e]
              · rw [if_neg e, if_neg hpp]
            have HVV := Lib.hid hv2
            clear hv hv2 hpp hx5 hj0
            go_wp2_with fail
            refine (HSG.out _ HR.out).mono ?_
            rintro e w1 ⟨rfl, n1, hw1⟩
            have HR1 : Hid (Rs w1 B b l k) := by rw [hw1]; exact Cu.drewN HR.out n1
            have HW1 : Hid (∃ q, w1 = w.drewN q) := by
              obtain ⟨q, hq⟩ := HW.out
              exact ⟨q + n1, by rw [hw1, hq]; first | rfl | exact World.drewN_drewN _ _ _ | exact (World.drewN_drewN _ _ _).symm⟩
            clear hw1
            go_wp2_with (first | (go_at_call 68; refine (HHX.out _).mono ?_; rintro e w2 ⟨rfl, rfl⟩) | (go_at_call 53; refine (HSG.out _ HR1.out).mono ?_; rintro e w3 ⟨rfl, n3, hw3⟩; have HW3 : Hid (∃ q, w3 = w.drewN q) := by { obtain ⟨q, hq⟩ := HW1.out; exact ⟨q + n3, by rw [hw3, hq]; first | rfl | exact World.drewN_drewN _ _ _ | exact (World.drewN_drewN _ _ _).symm⟩ }; clear hw3))
            go_ret2
            rw [HVV.out]
            exact ⟨rfl, HW3.out⟩
  · have hs : ¬ sgR (l.drop k) f = 123 := fun e => hp (pre_one.2 (sg_at.1 (show sgR (l.drop k) f = ((123 : Nat) : Int) from e)))
    generalize sgR (l.drop k) f = x at HS0 hs
    have hxb : (x != 123) = true := by simpa using hs
    have HVV : Hid (V = (0, 0)) := by show _ = _; rw [hV]; unfold brR; rw [if_neg hp]
    clear hs hp hV h hll hf
    go_enter Try.func60, Try.ntmps60
    go_wp2_with fail
    refine HS0.out.mono ?_
    rintro e w1 ⟨rfl, n0, hw1⟩
    go_wp2
    go_ret2
    rw [HVV.out]
    exact ⟨rfl, n0, by first | rfl | exact hw1⟩
end Go.Proofs.Ytkpkhjflelmdjaa
