/- The document's scan: hexadecimal digits, braces. -/
import Derived.Test.YtkpkhjflelmdjaaZf
namespace Go.Proofs.Ytkpkhjflelmdjaa
open Go.RowKit Tnd

theorem wth_low {p : Int} (h : p < 48) : wth p = 16 := by unfold wth; (repeat' split) <;> omega
theorem hx_sg {l : List Int} {k i : Nat} : hxR (sgR (l.drop k) i) = if k + i < l.length ∧ wth (gi l (k + i)) < 16 then wth (gi l (k + i)) else -1 := by
  by_cases h : k + i < l.length
  · rw [sgR_at h]
    by_cases h2 : gi l (k + i) < -1
    · rw [if_pos h2, if_neg (by rw [wth_low (by omega)]; omega)]
      unfold hxR; rw [if_pos (wth_low (by omega))]
    · rw [if_neg h2]
      unfold hxR
      have := wth_range (gi l (k + i))
      by_cases h3 : wth (gi l (k + i)) = 16
      · rw [if_pos h3, if_neg (by omega)]
      · rw [if_neg h3, if_pos ⟨h, by omega⟩]
  · rw [sgR_off (by omega), if_neg (fun e => h e.1)]
    unfold hxR; rw [if_pos (wth_low (by omega))]
theorem num_step {l : List Int} {a m : Nat} {n d : Int} (ha : a < l.length) (hd : wth (gi l a) = d) (h16 : d < 16) : numR 16 1114112 (m + 1) n (l.drop a) = ((numR 16 1114112 m (stp 16 1114112 n d) (l.drop (a + 1))).1, (numR 16 1114112 m (stp 16 1114112 n d) (l.drop (a + 1))).2 + 1) := by
  rw [drop_cons ha]
  simp only [numR]
  rw [hd, if_pos h16]
theorem num_stop {l : List Int} {a m : Nat} {n : Int} (h : ¬ (a < l.length ∧ wth (gi l a) < 16)) : numR 16 1114112 m n (l.drop a) = (n, 0) := by
  cases m with
  | zero => rfl
  | succ m =>
    by_cases ha : a < l.length
    · rw [drop_cons ha]
      simp only [numR]
      rw [if_neg (fun e => h ⟨ha, e⟩)]
    · rw [List.drop_eq_nil_of_le (by omega)]; rfl
/-- so many hexadecimal digits, as the document tells them. -/
def hxsR (m : Nat) (r : List Int) : Int := match hexR m r with
  | some x => x
  | none => -1

set_option maxHeartbeats 1600000 in
theorem hexes_ref (B b : Nat) (l : List Int) (k f m : Nat) (w : World) (h : Rs w B b l k) (hf : f ≤ 10) (hm : m ≤ 4) :
    Calls Try.prog 59 #[.pointer (some ⟨b, 0, none⟩), .int .i64 (f : Nat), .int .i64 (m : Nat)] w fun e w' => e = .returned (.int .i64 (hxsR m (l.drop (k + f)))) ∧ ∃ n, w' = w.drewN n := by
  have HC := Lib.hid h
  have hmI : (m : Int) ≤ 4 := by omega
  have hfI : (f : Int) ≤ 10 := by omega
  obtain ⟨X, hX⟩ : ∃ X, X = numR 16 1114112 m 0 (l.drop (k + f)) := ⟨_, rfl⟩
  obtain ⟨V, hV⟩ : ∃ V, V = hxsR m (l.drop (k + f)) := ⟨_, rfl⟩
  rw [← hV]
  have HV : Hid (V = if X.2 = m then X.1 else -1) := by
    show _ = _
    rw [hV]; unfold hxsR hexR; rw [← hX]
    by_cases e : X.2 = m
    · rw [if_pos e, if_pos e]
    · rw [if_neg e, if_neg e]
  have HX := Lib.hid hX
  have HM := Lib.hid hm
  have HF := Lib.hid hf
  clear h hX hV hm hf
  go_enter Try.func59, Try.ntmps59
  go_wp2
  go_loopw [7, 8] (fun nv iv wr => ∃ (i : Nat) (n : Int), i ≤ m ∧ nv = .int .i64 n ∧ iv = .int .i64 (i : Nat) ∧ 0 ≤ n ∧ Hid (n < 16 ^ i) ∧ Hid (∃ q, wr = w.drewN q) ∧ Hid (X = ((numR 16 1114112 (m - i) n (l.drop (k + f + i))).1, (numR 16 1114112 (m - i) n (l.drop (k + f + i))).2 + i))) (fun _ iv _ => m - (intOf iv).toNat)
  case atStart => exact ⟨0, 0, Nat.zero_le _, rfl, rfl, by omega, by show (0 : Int) < _; simp, ⟨0, rfl⟩, by show _ = _; rw [HX.out]; simp⟩
  case round =>
    obtain ⟨i, n, hi, rfl, rfl, hn0, HN, HW, HE⟩ := hrel
    rename World => wr
    have HR : Hid (Rs wr B b l k) := by obtain ⟨q, hq⟩ := HW.out; rw [hq]; exact Cu.drewN HC.out q
    by_cases him : i < m
    · have hiI : (i : Int) < m := by omega
      have hi3 : i = 0 ∨ i = 1 ∨ i = 2 ∨ i = 3 := by have := HM.out; omega
      have hn3 : n < 4096 := by
        have h1 := HN.out
        rcases hi3 with e | e | e | e <;> (rw [e] at h1; simp at h1; omega)
      have HIM := Lib.hid him
      have HSG : Hid (Calls Try.prog 53 #[.pointer (some ⟨b, 0, none⟩), .int .i64 ((f : Int) + i)] wr fun e w' => e = .returned (.int .i64 (sgR (l.drop k) (f + i))) ∧ ∃ n, w' = wr.drewN n) := by
        have := sign_ref B b l k (f + i) wr HR.out (by have := HF.out; omega)
        rw [Int.natCast_add] at this; exact this
      obtain ⟨x, hx⟩ : ∃ x, x = sgR (l.drop k) (f + i) := ⟨_, rfl⟩
      obtain ⟨d, hd⟩ : ∃ d, d = hxR x := ⟨_, rfl⟩
      have HHX : Hid (∀ W, Calls Try.prog 68 #[.int .i64 x] W fun e w' => e = .returned (.int .i64 d) ∧ w' = W) := fun W => by rw [hd]; exact hex_ref x W
      have hds : d = if k + f + i < l.length ∧ wth (gi l (k + f + i)) < 16 then wth (gi l (k + f + i)) else -1 := by
        rw [hd, hx, hx_sg, ← Nat.add_assoc]
      rw [← hx] at HSG
      have HDS := Lib.hid hds
      clear hd hx hds him hi3
      by_cases hok : k + f + i < l.length ∧ wth (gi l (k + f + i)) < 16
      · have hdv := HDS.out
        rw [if_pos hok] at hdv
        have hd0 : 0 ≤ d := by rw [hdv]; exact (wth_range _).1
        have hd1 : d < 16 := by rw [hdv]; exact hok.2
        have hE2 := HE.out
        rw [show m - i = (m - (i + 1)) + 1 by have := HIM.out; omega, num_step hok.1 hdv.symm hd1] at hE2
        have hst : stp 16 1114112 n d = n * 16 + d := by rw [stp_min (by omega)]; omega
        rw [hst] at hE2
        have HE2 := Lib.hid hE2
        have HNN : Hid (n * 16 + d < 16 ^ (i + 1)) := by have := HN.out; show _ < _; rw [Int.pow_succ]; omega
        clear hE2 hok hdv hst
        go_wp2_with fail
        refine HSG.out.mono ?_
        rintro e w1 ⟨rfl, n1, hw1⟩
        go_wp2_with (go_at_call 68; refine (HHX.out _).mono ?_; rintro e w2 ⟨rfl, rfl⟩)
        go_roundw
        case rel =>
          refine ⟨i + 1, n * 16 + d, by have := HIM.out; omega, rfl, by go_num, by omega, HNN, ?_, ?_⟩
          · obtain ⟨q, hq⟩ := HW.out
            exact ⟨q + n1, by rw [hq]; first | rfl | exact World.drewN_drewN _ _ _ | exact (World.drewN_drewN _ _ _).symm⟩
          · show _ = _
            rw [HE2.out, Nat.add_assoc (k + f) i 1]
            simp only [Prod.mk.injEq, true_and]; omega
        case measure => have := HIM.out; simp only [intOf]; omega
      · have hdv := HDS.out
        rw [if_neg hok] at hdv
        have hE2 := HE.out
        rw [num_stop hok] at hE2
        have HVV : Hid (V = -1) := by
          show _ = _
          rw [HV.out, hE2]; simp only; rw [if_neg (by have := HIM.out; omega)]
        clear hE2 hok
        subst hdv
        go_wp2_with fail
        refine HSG.out.mono ?_
        rintro e w1 ⟨rfl, n1, hw1⟩
        go_wp2_with (go_at_call 68; refine (HHX.out _).mono ?_; rintro e w2 ⟨rfl, rfl⟩)
        go_ret
        rw [HVV.out]
        refine ⟨rfl, ?_⟩
        obtain ⟨q, hq⟩ := HW.out
        exact ⟨q + n1, by rw [hq]; first | rfl | exact World.drewN_drewN _ _ _ | exact (World.drewN_drewN _ _ _).symm⟩
    · have hiI : (m : Int) ≤ i := by omega
      have him2 : i = m := by omega
      have hE2 := HE.out
      rw [him2, Nat.sub_self] at hE2
      have HVV : Hid (V = n) := by
        show _ = _
        rw [HV.out, hE2]; simp [numR]
      clear hE2 him him2
      go_wp2
      go_ret
      rw [HVV.out]
      exact ⟨rfl, HW.out⟩
end Go.Proofs.Ytkpkhjflelmdjaa
