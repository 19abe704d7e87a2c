/- The document's scan: sign, done, peek, next. -/
import Derived.Test.YtkpkhjflelmdjaaYy
namespace Go.Proofs.Ytkpkhjflelmdjaa
open Go.RowKit Tnd

/-- the document's scan: its numbers, its place. -/
def Rs (w : World) (B b : Nat) (l : List Int) (k : Nat) : Prop := Cu w B b 43 [] l k
/-- the code point so many behind; -1: there is none. -/
def sgR (r : List Int) (i : Nat) : Int := if i < r.length then (if gi r i < -1 then -1 else gi r i) else -1
theorem sgR_at {l : List Int} {k i : Nat} (h : k + i < l.length) : sgR (l.drop k) i = (if gi l (k + i) < -1 then -1 else gi l (k + i)) := by
  unfold sgR
  rw [if_pos (by rw [List.length_drop]; omega), drop_gi]
theorem sgR_off {l : List Int} {k i : Nat} (h : l.length ≤ k + i) : sgR (l.drop k) i = -1 := by
  unfold sgR
  rw [if_neg (by rw [List.length_drop]; omega)]

set_option maxHeartbeats 800000 in
theorem sign_ref (B b : Nat) (l : List Int) (k i : Nat) (w : World) (h : Rs w B b l k) (hi : i ≤ 1000000) :
    Calls Try.prog 53 #[.pointer (some ⟨b, 0, none⟩), .int .i64 (i : Nat)] w fun e w' => e = .returned (.int .i64 (sgR (l.drop k) i)) ∧ ∃ n, w' = w.drewN n := by
  have hc1 := h.cell1
  obtain ⟨p, c, hc0, ⟨hlc, hcm⟩, _, hrow⟩ := h.row
  obtain ⟨_, hkl, hlm⟩ := h.le
  obtain ⟨n, hn⟩ : ∃ n, n = l.length := ⟨_, rfl⟩
  have hiI : (i : Int) ≤ 1000000 := by omega
  by_cases hki : k + i < l.length
  · rw [sgR_at hki]
    obtain ⟨g, rfl, hcell⟩ := hrow (by intro e; rw [e] at hki; simp at hki)
    have hx := hcell (k + i) hki
    generalize gi l (k + i) = x at hx ⊢
    rw [← hn] at hc0 hki hlm hlc hkl
    have hnI : (n : Int) ≤ 1000000 := by omega
    have hkI : (k : Int) ≤ n := by omega
    have hkiI : (k : Int) + i < n := by omega
    have hge : ¬ ((n : Int) ≤ (k : Int) + i) := by omega
    clear h hn hcell hrow hlc hcm hi hkl hlm hkI hki
    by_cases hx1 : x < -1
    · rw [if_pos hx1]
      go_enter Try.func53, Try.ntmps53
      go_wp2
      go_quiet (fail)
      go_wp2
      go_quiet (fail)
      go_wp2
      go_ret
      exact ⟨rfl, _, World.drewN_drewN _ _ _⟩
    · rw [if_neg hx1]
      go_enter Try.func53, Try.ntmps53
      go_wp2
      go_quiet (fail)
      go_wp2
      go_quiet (fail)
      go_wp2
      go_ret
      exact ⟨rfl, _, World.drewN_drewN _ _ _⟩
  · rw [sgR_off (by omega)]
    rw [← hn] at hc0 hki hlm hlc hkl
    have hnI : (n : Int) ≤ 1000000 := by omega
    have hkI : (k : Int) ≤ n := by omega
    have hge : (n : Int) ≤ (k : Int) + i := by omega
    clear h hn hrow hlc hcm hi hkl hlm hki
    go_enter Try.func53, Try.ntmps53
    go_wp2
    go_quiet (fail)
    go_wp2
    go_ret
    exact ⟨rfl, _, rfl⟩

theorem sign_quiet (B b : Nat) (l : List Int) (k i x : Nat) (w : World) (h : Rs w B b l k) (hi : i ≤ 1000000) :
    Calls Try.prog 53 #[.pointer (some ⟨b, 0, none⟩), .int .i64 (i : Nat)] (w.drewN x) fun e w' => e = .returned (.int .i64 (sgR (l.drop k) i)) ∧ ∃ n, w' = w.drewN n := by
  refine (sign_ref B b l k i _ (Cu.drewN h x) hi).mono ?_
  rintro e w' ⟨he, n, rfl⟩
  exact ⟨he, x + n, by first | rfl | exact World.drewN_drewN _ _ _ | exact (World.drewN_drewN _ _ _).symm⟩

set_option maxHeartbeats 800000 in
theorem done_ref (B b : Nat) (l : List Int) (k : Nat) (w : World) (h : Rs w B b l k) :
    Calls Try.prog 41 #[.pointer (some ⟨b, 0, none⟩)] w fun e w' => e = .returned (.bool (decide (k = l.length))) ∧ ∃ n, w' = w.drewN n := by
  have hc1 := h.cell1
  obtain ⟨p, c, hc0, ⟨hlc, hcm⟩, _, _⟩ := h.row
  obtain ⟨_, hkl, hlm⟩ := h.le
  obtain ⟨n, hn⟩ : ∃ n, n = l.length := ⟨_, rfl⟩
  rw [← hn] at hc0 hkl hlm ⊢
  have hnI : (n : Int) ≤ 1000000 := by omega
  have hkI : (k : Int) ≤ n := by omega
  clear h hn hlc hcm
  by_cases hk : k = n
  · subst hk
    go_enter Try.func41, Try.ntmps41
    go_wp2
    go_quiet (fail)
    go_wp2
    go_ret
    exact ⟨ret_bool (by simp), _, rfl⟩
  · have hkn : ((k : Int) == (n : Int)) = false := by rw [beq_eq_false_iff_ne]; omega
    have HK := Lib.hid hk
    clear hk
    go_enter Try.func41, Try.ntmps41
    go_wp2
    go_quiet (fail)
    go_wp2
    go_ret
    exact ⟨ret_bool (by rw [decide_eq_false HK.out]), _, rfl⟩
set_option maxHeartbeats 800000 in
theorem peek_ref (B b : Nat) (l : List Int) (k : Nat) (w : World) (h : Rs w B b l k) :
    Calls Try.prog 40 #[.pointer (some ⟨b, 0, none⟩)] w (CP w B b 43 [] l (.tuple #[.int .i64 (hdR l k), .bool (decide (k < l.length))]) k) := by
  have HD := Lib.hid (done_ref B b l k w h)
  have HC := Lib.hid h
  by_cases hk : k < l.length
  · have HD2 : Hid (Calls Try.prog 41 #[.pointer (some ⟨b, 0, none⟩)] w fun e w' => e = .returned (.bool false) ∧ ∃ n, w' = w.drewN n) := by
      have := HD.out; rw [decide_eq_false (show ¬ k = l.length by omega)] at this; exact this
    rw [decide_eq_true hk, show hdR l k = gi l k by unfold hdR; rw [if_pos hk]]
    have HK := Lib.hid hk
    obtain ⟨x, hgx⟩ : ∃ x, x = gi l k := ⟨_, rfl⟩
    rw [← hgx]
    have HX := Lib.hid hgx
    clear h hk HD hgx
    go_enter Try.func40, Try.ntmps40
    go_wp2_with fail
    refine HD2.out.mono ?_
    rintro e w1 ⟨rfl, n0, hw⟩
    have hC1 : Rs w1 B b l k := by rw [hw]; exact HC.out.drewN n0
    have HC1 := Lib.hid hC1
    have HG1 : Hid (w.grownBy w1 (some b)) := by rw [hw]; exact grown_drewN w n0 _
    have hc1 := hC1.cell1
    obtain ⟨p, c, hc0, ⟨hlc, hcm⟩, -, hrow⟩ := hC1.row
    obtain ⟨-, -, hlm⟩ := hC1.le
    obtain ⟨g, rfl, hcell⟩ := hrow (by have := HK.out; intro e; rw [e] at this; simp at this)
    have hx := hcell k HK.out
    rw [← HX.out] at hx
    have hkI : (k : Int) < l.length := by have := HK.out; omega
    have hlI : (l.length : Int) ≤ 1000000 := by omega
    obtain ⟨m, hm⟩ : ∃ m, m = l.length := ⟨_, rfl⟩
    rw [← hm] at hc0 hkI hlI
    clear hcell hrow hm hC1 hw hlc hcm hlm
    go_wp2
    go_quiet (fail)
    go_wp2
    go_ret2
    exact ⟨rfl, HC1.out.drewN _, HG1.out.trans (grown_drewN _ _ _)⟩
  · have HD2 : Hid (Calls Try.prog 41 #[.pointer (some ⟨b, 0, none⟩)] w fun e w' => e = .returned (.bool true) ∧ ∃ n, w' = w.drewN n) := by
      have := HD.out; rw [decide_eq_true (show k = l.length by have := h.le; omega)] at this; exact this
    rw [decide_eq_false hk, show hdR l k = 0 by unfold hdR; rw [if_neg hk]]
    clear h hk HD
    go_enter Try.func40, Try.ntmps40
    go_wp2_with fail
    refine HD2.out.mono ?_
    rintro e w1 ⟨rfl, n0, hw⟩
    have HC1 : Hid (Rs w1 B b l k) := by rw [hw]; exact HC.out.drewN n0
    have HG1 : Hid (w.grownBy w1 (some b)) := by rw [hw]; exact grown_drewN w n0 _
    clear hw
    go_wp2
    go_ret2
    exact ⟨rfl, HC1.out, HG1.out⟩
set_option maxHeartbeats 800000 in
theorem next_ref (B b : Nat) (l : List Int) (k : Nat) (w : World) (h : Rs w B b l k) :
    Calls Try.prog 34 #[.pointer (some ⟨b, 0, none⟩)] w (CP w B b 43 [] l (.tuple #[.int .i64 (hdR l k), .bool (decide (k < l.length))]) (if k < l.length then k + 1 else k)) := by
  have hp := peek_ref B b l k w h
  have hkl := h.le
  obtain ⟨x, hx⟩ : ∃ x, x = hdR l k := ⟨_, rfl⟩
  rw [← hx] at hp ⊢
  have hkI : (k : Int) ≤ 1000000 := by omega
  have HKL := Lib.hid hkl
  clear hx h hkl
  by_cases hk : k < l.length
  · rw [if_pos hk]
    rw [decide_eq_true hk] at hp ⊢
    have HK := Lib.hid hk
    have HP := Lib.hid hp
    clear hk hp
    go_enter Try.func34, Try.ntmps34
    go_wp2_with fail
    refine HP.out.mono ?_
    rintro e w1 ⟨rfl, hc, hg⟩
    have h1 := hc.cell1
    have hf := hc.frz 1
    have HC := Lib.hid hc
    have HG := Lib.hid hg
    clear hc hg
    go_wp2
    go_ret2
    exact ⟨rfl, HC.out.set (k + 1) HK.out, HG.out.trans (grown_set w1 ⟨b, 1, none⟩ _)⟩
  · rw [if_neg hk]
    rw [decide_eq_false hk] at hp ⊢
    have HP := Lib.hid hp
    clear hk hp
    go_enter Try.func34, Try.ntmps34
    go_wp2_with fail
    refine HP.out.mono ?_
    rintro e w1 ⟨rfl, hc, hg⟩
    go_wp2
    go_ret2
    exact ⟨rfl, hc, hg⟩
end Go.Proofs.Ytkpkhjflelmdjaa
