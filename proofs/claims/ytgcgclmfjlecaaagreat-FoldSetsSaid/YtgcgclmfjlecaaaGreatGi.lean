/- Plain: a text has a rune that is no sign of names just if it has a byte that is none. -/
import Derived.Test.YtgcgclmfjlecaaaGreatGh
import Derived.Test.YtgcgclmfjlecaaaGreatGd
import Derived.Lib.MapLaws
import Derived.Shelf.GgClosure.StringsIndexFunc

namespace Go.Proofs.YtgcgclmfjlecaaaGreat
open Go.RowKit Tnr

theorem dec_low (s : ByteArray) (i : Nat) (h : (s.get! i).toNat < 128) : Utf8.decode s i = ((s.get! i).toNat, 1) := by
  rw [Lib.decode_at]
  unfold Lib.decodeN
  rw [if_pos h]
theorem dec_high (s : ByteArray) (i : Nat) (h : ¬ (s.get! i).toNat < 128) : 128 ≤ (Utf8.decode s i).1 := by
  rw [Lib.decode_at]
  rcases Lib.decodeN_shape (s.size - i) (s.get! i).toNat (s.get! (i + 1)).toNat (s.get! (i + 2)).toNat (s.get! (i + 3)).toNat with ⟨h1, _⟩ | ⟨_, _, _, h2, e⟩ | ⟨_, _, _, _, h2, _, e⟩ | ⟨_, _, _, _, _, h2, _, e⟩ | e
  · exact absurd h1 h
  · rw [e]; exact h2
  · rw [e]; simp only; omega
  · rw [e]; simp only; omega
  · rw [e]; decide
theorem sgB_low {n : Nat} (h : sgB n = true) : n < 128 := by
  rcases Nat.lt_or_ge n 128 with h2 | h2
  · exact h2
  · exfalso
    unfold sgB at h
    simp at h
    omega
def noSg (r : Nat) : Bool := !sgB r
theorem idx_from (s : ByteArray) : ∀ f pos, s.size ≤ pos + f → (0 ≤ Lib.idxFuncFrom noSg true s f pos ↔ ∃ i, pos ≤ i ∧ i < s.size ∧ sgB (s.get! i).toNat = false) := by
  intro f
  induction f with
  | zero =>
    intro pos h
    rw [Lib.idxFuncFrom_end _ _ _ _ _ (by omega)]
    constructor
    · intro h2; omega
    · rintro ⟨i, h1, h2, _⟩; omega
  | succ f ih =>
    intro pos h
    unfold Lib.idxFuncFrom
    by_cases hp : pos < s.size
    · rw [if_pos hp]
      cases hs : sgB (s.get! pos).toNat with
      | true =>
        have hl := dec_low s pos (sgB_low hs)
        rw [hl]
        simp only
        rw [if_neg (by unfold noSg; rw [hs]; decide), ih (pos + 1) (by omega)]
        constructor
        · rintro ⟨i, h1, h2, h3⟩; exact ⟨i, by omega, h2, h3⟩
        · rintro ⟨i, h1, h2, h3⟩
          refine ⟨i, ?_, h2, h3⟩
          rcases Nat.lt_or_ge pos i with q | q
          · omega
          · obtain rfl : i = pos := by omega
            rw [hs] at h3; cases h3
      | false =>
        have hn : noSg (Utf8.decode s pos).1 = true := by
          unfold noSg
          by_cases hl : (s.get! pos).toNat < 128
          · rw [dec_low s pos hl, hs]; rfl
          · have hh := dec_high s pos hl
            cases hq : sgB (Utf8.decode s pos).1 with
            | true => have := sgB_low hq; omega
            | false => rfl
        rw [if_pos hn]
        exact ⟨fun _ => ⟨pos, Nat.le_refl _, hp, hs⟩, fun _ => by omega⟩
    · rw [if_neg hp]
      constructor
      · intro h2; omega
      · rintro ⟨i, h1, h2, _⟩; omega
theorem idx_named (s : ByteArray) : decide (0 ≤ Lib.idxFunc noSg true s) = !(s.data.toList.all fun b => sgB b.toNat) := by
  have h := idx_from s s.size 0 (by omega)
  unfold Lib.idxFunc
  have hb : ∀ i, (h : i < s.size) → s.get! i = s.data.toList[i]'(by simpa using h) := by
    intro i hi
    simp [ByteArray.get!, Array.getElem!_eq_getD, Array.getD]
    rw [dif_pos (show i < s.size from hi)]
  cases ha : s.data.toList.all fun b => sgB b.toNat with
  | true =>
    rw [List.all_eq_true] at ha
    refine decide_eq_false fun h0 => ?_
    obtain ⟨i, _, h2, h3⟩ := h.1 h0
    have := ha _ (List.getElem_mem (show i < s.data.toList.length by simpa using h2))
    rw [← hb i h2] at this
    rw [h3] at this; cases this
  | false =>
    rw [List.all_eq_false] at ha
    obtain ⟨x, hx, hn⟩ := ha
    obtain ⟨i, hi, rfl⟩ := List.getElem_of_mem hx
    have hi2 : i < s.size := by simpa using hi
    refine decide_eq_true (h.2 ⟨i, Nat.zero_le _, hi2, ?_⟩)
    rw [hb i hi2]; simpa using hn
end Go.Proofs.YtgcgclmfjlecaaaGreat
