/- The walks of an escape's braces and of u's rest. -/
import Derived.Test.YtnedbeomflllcaaYf
namespace Go.Proofs.Ytnedbeomflllcaa
open Go.RowKit Tnd

set_option maxHeartbeats 800000 in
theorem braced_any (B b : Nat) (T : TypeId) (R : List Value) (l : List Int) (k : Nat) (w : World) (h : Cu w B b T R l k) :
    Calls Try.prog 37 #[.pointer (some ⟨b, 0, none⟩)] w (CO w B b T R l (brcR (l.drop k)) k) := by
  have hn := number16_any B b T R l k l.length w h (by have := h.le; omega)
  rw [numR_more 16 1114112 l.length (l.drop k).length 0 (l.drop k) (by rw [List.length_drop]; omega) (Nat.le_refl _)] at hn
  unfold brcR
  obtain ⟨X, hX⟩ : ∃ X, X = numR 16 1114112 (l.drop k).length 0 (l.drop k) := ⟨_, rfl⟩
  rw [← hX] at hn ⊢
  obtain ⟨p, q⟩ := X
  simp only at hn ⊢
  obtain ⟨pp, c, hc0, ⟨hlc, hcm⟩, _, _⟩ := h.row
  obtain ⟨_, hkl, hlm⟩ := h.le
  have HT : Hid (∀ w1 : World, Cu w1 B b T R l (k + q) → Calls Try.prog 36 #[.pointer (some ⟨b, 0, none⟩), .string ⟨#[125]⟩] w1 (CP w1 B b T R l (.bool (pre [125] ((l.drop k).drop q))) (if pre [125] ((l.drop k).drop q) = true then k + q + 1 else k + q))) := fun w1 h1 => by
    have := take_any B b T R l (k + q) ⟨#[125]⟩ w1 h1 (by decide)
    rw [← List.drop_drop] at this
    exact this
  obtain ⟨n, hnl⟩ : ∃ n, n = l.length := ⟨_, rfl⟩
  rw [← hnl] at hc0 hn hlm
  have hnI : (n : Int) ≤ 1000000 := by omega
  have HN := Lib.hid hn
  clear hn hX hlc hcm hnl
  by_cases hq0 : q = 0
  · rw [if_pos (.inl hq0)]
    subst hq0
    clear HT
    go_enter Try.func37, Try.ntmps37
    go_wp2_with fail
    refine HN.out.mono ?_
    rintro e w1 ⟨rfl, hc, hg⟩
    go_wp2
    go_ret2
    exact ⟨_, rfl, hc, hg⟩
  · have hqb : ((q : Int) == 0) = false := by rw [beq_eq_false_iff_ne]; omega
    by_cases hp : 1114111 < p
    · rw [if_pos (.inr hp)]
      have hpd : decide (1114111 < p) = true := decide_eq_true hp
      clear HT
      go_enter Try.func37, Try.ntmps37
      go_wp2_with fail
      refine HN.out.mono ?_
      rintro e w1 ⟨rfl, hc, hg⟩
      go_wp2
      go_ret2
      exact ⟨_, rfl, hc, hg⟩
    · rw [if_neg (by omega)]
      have hpd : decide (1114111 < p) = false := decide_eq_false hp
      have hpI : p ≤ 1114111 := by omega
      obtain ⟨P, hP⟩ : ∃ P, P = pre [125] ((l.drop k).drop q) := ⟨_, rfl⟩
      rw [← hP] at HT ⊢
      clear hP hp
      cases P with
      | true =>
        go_enter Try.func37, Try.ntmps37
        go_wp2_with fail
        refine HN.out.mono ?_
        rintro e w1 ⟨rfl, hc, hg⟩
        have HC := Lib.hid hc
        have HG := Lib.hid hg
        clear hc hg
        go_wp2_with (go_at_call 36; refine (HT.out _ HC.out).mono ?_; rintro e w2 ⟨rfl, hc, hg⟩; have HC2 := Lib.hid hc; have HG2 := Lib.hid hg; clear hc hg)
        go_ret2
        exact ⟨rfl, HC2.out, HG.out.trans HG2.out⟩
      | false =>
        go_enter Try.func37, Try.ntmps37
        go_wp2_with fail
        refine HN.out.mono ?_
        rintro e w1 ⟨rfl, hc, hg⟩
        have HC := Lib.hid hc
        have HG := Lib.hid hg
        clear hc hg
        go_wp2_with (go_at_call 36; refine (HT.out _ HC.out).mono ?_; rintro e w2 ⟨rfl, hc, hg⟩; have HC2 := Lib.hid hc; have HG2 := Lib.hid hg; clear hc hg)
        go_ret2
        exact ⟨_, rfl, HC2.out, HG.out.trans HG2.out⟩
end Go.Proofs.Ytnedbeomflllcaa
