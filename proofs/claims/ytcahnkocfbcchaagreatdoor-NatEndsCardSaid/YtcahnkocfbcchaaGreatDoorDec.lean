/- Plain lemmas on decimal numerals: a number's numeral is that of its higher part with the lower digits, filled up with noughts, behind it; and reading a numeral back. No condition but those that each lemma names. -/
import Derived.Lib.ItoaNum

namespace Tnd
open Go.Lib (decDigits nDigits)
/-- r with k digits, filled up with noughts. -/
def padDec (k r : Nat) : List UInt8 := List.replicate (k - nDigits r) 48 ++ decDigits r
theorem dec_small {u : Nat} (h : u < 10) : decDigits u = [UInt8.ofNat (48 + u)] := by rw [decDigits, dif_pos h]
theorem dec_big {u : Nat} (h : ¬ u < 10) : decDigits u = decDigits (u / 10) ++ [UInt8.ofNat (48 + u % 10)] := by rw [decDigits, dif_neg h]
theorem nDigits_le : ∀ (k r : Nat), r < 10 ^ (k + 1) → nDigits r ≤ k + 1 := by
  intro k
  induction k with
  | zero => intro r h; rw [Go.Lib.nDigits_small (by simpa using h)]; omega
  | succ k ih =>
    intro r h
    by_cases h10 : r < 10
    · rw [Go.Lib.nDigits_small h10]; omega
    · rw [Go.Lib.nDigits_big h10]
      have := ih (r / 10) (by rw [Nat.pow_succ] at h; exact Nat.div_lt_of_lt_mul (by rw [Nat.mul_comm]; exact h))
      omega
theorem padDec_succ (k r : Nat) (hr : r < 10 ^ (k + 1)) (hk : 1 ≤ k) : padDec (k + 1) r = padDec k (r / 10) ++ [UInt8.ofNat (48 + r % 10)] := by
  unfold padDec
  by_cases h10 : r < 10
  · have e0 : r / 10 = 0 := by omega
    rw [dec_small h10, Go.Lib.nDigits_small h10, e0, dec_small (by omega), Go.Lib.nDigits_small (by omega), Nat.mod_eq_of_lt h10]
    obtain ⟨j, rfl⟩ : ∃ j, k = j + 1 := ⟨k - 1, by omega⟩
    have e1 : j + 1 + 1 - 1 = j + 1 := by omega
    have e2 : j + 1 - 1 = j := by omega
    rw [e1, e2, List.replicate_succ']
    simp
  · rw [dec_big h10, Go.Lib.nDigits_big h10]
    have e : k + 1 - (nDigits (r / 10) + 1) = k - nDigits (r / 10) := by omega
    rw [e, List.append_assoc]
theorem padDec_one (r : Nat) (hr : r < 10) : padDec 1 r = [UInt8.ofNat (48 + r)] := by
  unfold padDec; rw [Go.Lib.nDigits_small hr, dec_small hr]; rfl
/-- the numeral of q and k digits more. -/
theorem dec_split : ∀ (k q r : Nat), 1 ≤ q → r < 10 ^ (k + 1) → decDigits (q * 10 ^ (k + 1) + r) = decDigits q ++ padDec (k + 1) r := by
  intro k
  induction k with
  | zero =>
    intro q r hq hr
    rw [padDec_one r (by simpa using hr), dec_big (by omega)]
    have hr' : r < 10 := by simpa using hr
    have e1 : (q * 10 ^ (0 + 1) + r) / 10 = q := by simp; omega
    have e2 : (q * 10 ^ (0 + 1) + r) % 10 = r := by simp; omega
    rw [e1, e2]
  | succ k ih =>
    intro q r hq hr
    have hp : 10 ^ (k + 1 + 1) = 10 ^ (k + 1) * 10 := Nat.pow_succ ..
    have hpos : 1 ≤ 10 ^ (k + 1) := Nat.pow_pos (by omega)
    have hm : q * 10 ^ (k + 1 + 1) = q * 10 ^ (k + 1) * 10 := by rw [hp, Nat.mul_assoc]
    have hge : 10 ^ (k + 1) ≤ q * 10 ^ (k + 1) := Nat.le_mul_of_pos_left _ hq
    rw [padDec_succ (k + 1) r hr (by omega), ← List.append_assoc, ← ih q (r / 10) hq (by rw [hp] at hr; omega)]
    rw [dec_big (by omega)]
    have e1 : (q * 10 ^ (k + 1 + 1) + r) / 10 = q * 10 ^ (k + 1) + r / 10 := by rw [hm]; omega
    have e2 : (q * 10 ^ (k + 1 + 1) + r) % 10 = r % 10 := by rw [hm]; omega
    rw [e1, e2]
theorem dec_ne_nil (u : Nat) : decDigits u ≠ [] := by
  rw [decDigits]; split <;> simp
theorem dec_all (u : Nat) : ∀ c, c ∈ decDigits u → 48 ≤ c.toNat ∧ c.toNat ≤ 57 := by
  induction u using Nat.strongRecOn with
  | _ u ih =>
    intro c hc
    by_cases h : u < 10
    · rw [dec_small h] at hc
      simp only [List.mem_cons, List.not_mem_nil, or_false] at hc
      subst hc
      rw [UInt8.toNat_ofNat']
      omega
    · rw [dec_big h] at hc
      rcases List.mem_append.1 hc with h1 | h1
      · exact ih (u / 10) (by omega) c h1
      · simp only [List.mem_cons, List.not_mem_nil, or_false] at h1
        subst h1
        rw [UInt8.toNat_ofNat']
        omega
/-- what a row of decimal signs, the highest first, is worth. -/
def rd (l : List UInt8) : Nat := l.foldl (fun n c => 10 * n + (c.toNat - 48)) 0
theorem rd_snoc (l : List UInt8) (c : UInt8) : rd (l ++ [c]) = 10 * rd l + (c.toNat - 48) := by simp [rd]
theorem rd_dec (u : Nat) : rd (decDigits u) = u := by
  induction u using Nat.strongRecOn with
  | _ u ih =>
    by_cases h : u < 10
    · rw [dec_small h]
      simp only [rd, List.foldl_cons, List.foldl_nil]
      rw [UInt8.toNat_ofNat']
      omega
    · rw [dec_big h, rd_snoc, ih (u / 10) (by omega), UInt8.toNat_ofNat']
      omega
theorem rd_from (b : List UInt8) : ∀ n, b.foldl (fun n c => 10 * n + (c.toNat - 48)) n = n * 10 ^ b.length + rd b := by
  induction b with
  | nil => intro n; simp [rd]
  | cons c b ih =>
    intro n
    simp only [List.foldl_cons, List.length_cons, rd]
    rw [ih, ih (10 * 0 + (c.toNat - 48)), Nat.pow_succ]
    grind
theorem rd_append (a b : List UInt8) : rd (a ++ b) = rd a * 10 ^ b.length + rd b := by
  show (a ++ b).foldl _ 0 = _
  rw [List.foldl_append, rd_from]
  rfl
/-- no 0 ahead of others. -/
theorem dec_head (u : Nat) (h : 1 ≤ u) : (decDigits u).head? ≠ some 48 := by
  induction u using Nat.strongRecOn with
  | _ u ih =>
    by_cases h10 : u < 10
    · rw [dec_small h10]
      simp only [List.head?_cons, ne_eq, Option.some.injEq]
      intro e
      have := congrArg UInt8.toNat e
      rw [UInt8.toNat_ofNat'] at this
      have e48 : (48 : UInt8).toNat = 48 := rfl
      omega
    · rw [dec_big h10]
      have := ih (u / 10) (by omega) (by omega)
      cases hd : decDigits (u / 10) with
      | nil => exact absurd hd (dec_ne_nil _)
      | cons a l => rw [hd] at this; simpa using this
end Tnd
