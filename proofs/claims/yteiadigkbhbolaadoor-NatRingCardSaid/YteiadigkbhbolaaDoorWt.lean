/- The walk of decimal: is a text a number's? -/
import Derived.Test.YteiadigkbhbolaaDoorWs
namespace Go.Proofs.YteiadigkbhbolaaDoor
open Go.RowKit Tnd

/-- byte i of a text. -/
def bt (s : ByteArray) (i : Nat) : Nat := (s.data.toList.getD i 0).toNat
theorem bt_at (s : ByteArray) (i : Nat) (h : i < s.size) : (s[i]'h).toNat = bt s i := by
  unfold bt
  have h' : i < s.data.toList.length := by simpa using h
  simp only [List.getD, List.getElem?_eq_getElem h', Option.getD_some]
  rfl
/-- digits alone, and no 0 ahead of others. -/
def IsNum (s : ByteArray) : Prop := 0 < s.size ∧ ¬ (bt s 0 = 48 ∧ 1 < s.size) ∧ ∀ i, i < s.size → 48 ≤ bt s i ∧ bt s i ≤ 57

set_option maxRecDepth 100000 in
theorem decimal_any (s : ByteArray) (w : World) (hs : s.size ≤ 9223372036854775806) :
    Calls Tryd.prog 23 #[.string s] w fun e w' => ((e = .returned (.bool true) ∧ IsNum s) ∨ (e = .returned (.bool false) ∧ ¬ IsNum s)) ∧ ∃ n, w' = w.drewN n := by
  by_cases h0 : s.size = 0
  · obtain rfl : s = ⟨#[]⟩ := by
      obtain ⟨⟨l⟩⟩ := s
      have : l = [] := by simpa [ByteArray.size] using h0
      rw [this]
    go_enter Tryd.func23, Tryd.ntmps23
    go_wp2
    go_ret
    exact ⟨.inr ⟨rfl, fun h => absurd h.1 (by decide)⟩, 0, rfl⟩
  · have hne : s.toList.isEmpty = false := by
      have h1 : s.toList.length = s.size := by rw [ByteArray.toList_eq]; simp
      cases h : s.toList with
      | nil => rw [h] at h1; exact absurd h1.symm h0
      | cons a b => rfl
    have hb0 := bt_at s 0 (by omega)
    by_cases g1 : bt s 0 = 48
    · by_cases g2 : 1 < s.size
      · have HF := Lib.hid (show ¬ IsNum s from fun h => h.2.1 ⟨g1, g2⟩)
        rw [g1] at hb0
        go_enter Tryd.func23, Tryd.ntmps23
        go_wp2
        go_ret
        exact ⟨.inr ⟨rfl, HF.out⟩, 0, rfl⟩
      · have HN := Lib.hid (show ¬ (bt s 0 = 48 ∧ 1 < s.size) from fun h => g2 h.2)
        have HS := Lib.hid g2
        rw [g1] at hb0
        go_enter Tryd.func23, Tryd.ntmps23
        go_wp2
        clear g1 g2 hb0
        go_loopw [18] (fun i wr => ∃ (k n : Nat), k ≤ s.size ∧ i = .int .i64 k ∧ Hid (∀ j, j < k → 48 ≤ bt s j ∧ bt s j ≤ 57) ∧ wr = w.drewN n) (fun i _ => s.size - (intOf i).toNat)
        case atStart => exact ⟨0, 0, by omega, rfl, fun j hj => absurd hj (by omega), rfl⟩
        case round =>
          obtain ⟨k, n, hk, rfl, HT, rfl⟩ := hrel
          by_cases hk1 : k < s.size
          · have hbk := bt_at s k hk1
            by_cases c1 : bt s k < 48
            · have HF := Lib.hid (show ¬ IsNum s from fun h => by have := (h.2.2 k hk1).1; omega)
              clear HS HN
              go_wp2
              go_ret
              exact ⟨.inr ⟨rfl, HF.out⟩, _, rfl⟩
            · by_cases c2 : 57 < bt s k
              · have HF := Lib.hid (show ¬ IsNum s from fun h => by have := (h.2.2 k hk1).2; omega)
                clear HS HN
                go_wp2
                go_ret
                exact ⟨.inr ⟨rfl, HF.out⟩, _, rfl⟩
              · have HT2 : Hid (∀ j, j < k + 1 → 48 ≤ bt s j ∧ bt s j ≤ 57) := fun j hj => by
                  rcases Nat.lt_succ_iff_lt_or_eq.1 hj with h | rfl
                  · exact HT.out j h
                  · omega
                go_wp2
                go_roundw
                case rel => exact ⟨k + 1, _, by omega, by go_num, HT2, rfl⟩
                case measure => simp [intOf]; omega
          · obtain rfl : k = s.size := by omega
            have HF := Lib.hid (show IsNum s from ⟨by omega, HN.out, HT.out⟩)
            go_wp2
            go_ret
            exact ⟨.inl ⟨rfl, HF.out⟩, _, rfl⟩
    · have HN := Lib.hid (show ¬ (bt s 0 = 48 ∧ 1 < s.size) from fun h => g1 h.1)
      have HS := Lib.hid g1
      have g3 : ¬ ((bt s 0 : Nat) : Int) = 48 := by omega
      go_enter Tryd.func23, Tryd.ntmps23
      go_wp2
      clear g1 hb0
      go_loopw [18] (fun i wr => ∃ (k n : Nat), k ≤ s.size ∧ i = .int .i64 k ∧ Hid (∀ j, j < k → 48 ≤ bt s j ∧ bt s j ≤ 57) ∧ wr = w.drewN n) (fun i _ => s.size - (intOf i).toNat)
      case atStart => exact ⟨0, 0, by omega, rfl, fun j hj => absurd hj (by omega), rfl⟩
      case round =>
        obtain ⟨k, n, hk, rfl, HT, rfl⟩ := hrel
        by_cases hk1 : k < s.size
        · have hbk := bt_at s k hk1
          by_cases c1 : bt s k < 48
          · have HF := Lib.hid (show ¬ IsNum s from fun h => by have := (h.2.2 k hk1).1; omega)
            clear HS HN
            go_wp2
            go_ret
            exact ⟨.inr ⟨rfl, HF.out⟩, _, rfl⟩
          · by_cases c2 : 57 < bt s k
            · have HF := Lib.hid (show ¬ IsNum s from fun h => by have := (h.2.2 k hk1).2; omega)
              clear HS HN
              go_wp2
              go_ret
              exact ⟨.inr ⟨rfl, HF.out⟩, _, rfl⟩
            · have HT2 : Hid (∀ j, j < k + 1 → 48 ≤ bt s j ∧ bt s j ≤ 57) := fun j hj => by
                rcases Nat.lt_succ_iff_lt_or_eq.1 hj with h | rfl
                · exact HT.out j h
                · omega
              go_wp2
              go_roundw
              case rel => exact ⟨k + 1, _, by omega, by go_num, HT2, rfl⟩
              case measure => simp [intOf]; omega
        · obtain rfl : k = s.size := by omega
          have HF := Lib.hid (show IsNum s from ⟨by omega, HN.out, HT.out⟩)
          go_wp2
          go_ret
          exact ⟨.inl ⟨rfl, HF.out⟩, _, rfl⟩
end Go.Proofs.YteiadigkbhbolaaDoor
