/- The walk of an escape, whatever stands next. -/
import Derived.Test.YtnedbeomflllcaaYj
namespace Go.Proofs.Ytnedbeomflllcaa
open Go.RowKit Tnd

theorem escape_any (B b : Nat) (T : TypeId) (R : List Value) (l : List Int) (k : Nat) (w : World) (h : Cu w B b T R l k) :
    Calls Try.prog 19 #[.pointer (some ⟨b, 0, none⟩)] w (CE w B b T R l (escR (l.drop k)) k) := by
  by_cases hk : k < l.length
  · rw [drop_cons hk]
    simp only [escR, escT]
    cases hp : plainR (gi l k) with
    | some v => exact escape_plain B b T R l k w h hk v hp
    | none =>
      simp only
      have hS : Hid True := trivial
      by_cases h1 : gi l k = 99
      · rw [if_pos h1]
        cases ho : ctlR (l.drop (k + 1)) with
        | none => exact escape_control_no B b T R l k w h hk h1 ho
        | some y => exact escape_control_yes B b T R l k w h hk h1 y ho
      rw [if_neg h1]
      by_cases h2 : gi l k = 48
      · rw [if_pos h2]
        cases ho : zerR (l.drop (k + 1)) with
        | none => exact escape_zero_no B b T R l k w h hk h2 ho
        | some y => exact escape_zero_yes B b T R l k w h hk h2 y ho
      rw [if_neg h2]
      by_cases h3 : gi l k = 120
      · rw [if_pos h3]
        cases ho : hexO 2 (l.drop (k + 1)) with
        | none =>
          have e : (hexR 2 (l.drop (k + 1))).map (fun x => (x, 2)) = none := ho
          rw [e]; exact escape_short_no B b T R l k w h hk h3 ho
        | some y =>
          have e : (hexR 2 (l.drop (k + 1))).map (fun x => (x, 2)) = some y := ho
          rw [e]; exact escape_short_yes B b T R l k w h hk h3 y ho
      rw [if_neg h3]
      by_cases h4 : gi l k = 117
      · rw [if_pos h4]
        cases ho : lngR (l.drop (k + 1)) with
        | none => exact escape_long_no B b T R l k w h hk h4 ho
        | some y => exact escape_long_yes B b T R l k w h hk h4 y ho
      rw [if_neg h4]
      exact escape_no B b T R l k w h hk hp h1 h2 h3 h4
  · rw [List.drop_eq_nil_of_le (by omega)]
    exact escape_end B b T R l k w h hk
end Go.Proofs.Ytnedbeomflllcaa
