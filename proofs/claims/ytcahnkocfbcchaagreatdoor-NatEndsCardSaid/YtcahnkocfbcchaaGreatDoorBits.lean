/- What the signs of a difference of two numbers of 32 bits say: the borrow. Plain numbers, of no program. -/
import Derived.Laws.BitsAllLaws
import Derived.Test.YtcahnkocfbcchaaGreatDoorMath

namespace Tnd
open Go
def subF (a b c : Nat) : Nat × Nat := ((a + 4294967296 - b - c) % 4294967296, if a < b + c then 1 else 0)
theorem top_bit (n : Nat) (h : n < 4294967296) : n / 2147483648 = (n.testBit 31).toNat := by
  rw [Nat.testBit_eq_decide_div_mod_eq]
  have : n / 2 ^ 31 = n / 2147483648 := rfl
  rw [this]
  by_cases h1 : n / 2147483648 % 2 = 1
  · simp only [h1, decide_true, Bool.toNat_true]; omega
  · simp only [h1, decide_false, Bool.toNat_false]; omega
theorem testBit_top (n : Nat) (h : n < 4294967296) : n.testBit 31 = decide (2147483648 ≤ n) := by
  rw [Nat.testBit_eq_decide_div_mod_eq]
  have : n / 2 ^ 31 = n / 2147483648 := rfl
  rw [this]
  by_cases h1 : 2147483648 ≤ n
  · simp only [h1, decide_true, decide_eq_true_eq]; omega
  · simp only [h1, decide_false, decide_eq_false_iff_not]; omega
theorem xor_lt (a b : Nat) (ha : a < 4294967296) (hb : b < 4294967296) : a ^^^ b < 4294967296 := Nat.xor_lt_two_pow (n := 32) ha hb
theorem and_lt (a b : Nat) (ha : a < 4294967296) : a &&& b < 4294967296 := Nat.lt_of_le_of_lt Nat.and_le_left ha
theorem or_lt (a b : Nat) (ha : a < 4294967296) (hb : b < 4294967296) : a ||| b < 4294967296 := Nat.or_lt_two_pow (n := 32) ha hb
theorem borrow_nat (a b c : Nat) (ha : a < 4294967296) (hb : b < 4294967296) (hc : c ≤ 1) :
    (((4294967295 ^^^ a) &&& b) ||| ((4294967295 ^^^ (a ^^^ b)) &&& ((a + 4294967296 - b - c) % 4294967296))) / 2147483648 = if a < b + c then 1 else 0 := by
  have hd : (a + 4294967296 - b - c) % 4294967296 < 4294967296 := Nat.mod_lt _ (by omega)
  have hm : 4294967295 < 4294967296 := by omega
  rw [top_bit _ (or_lt _ _ (and_lt _ _ (xor_lt _ _ hm ha)) (and_lt _ _ (xor_lt _ _ hm (xor_lt _ _ ha hb))))]
  rw [Nat.testBit_or, Nat.testBit_and, Nat.testBit_and, Nat.testBit_xor, Nat.testBit_xor, Nat.testBit_xor, testBit_top _ hm, testBit_top a ha, testBit_top b hb, testBit_top _ hd]
  generalize hdd : (a + 4294967296 - b - c) % 4294967296 = d at *
  have e : decide (2147483648 ≤ 4294967295) = true := rfl
  rw [e]
  by_cases h1 : 2147483648 ≤ a <;> by_cases h2 : 2147483648 ≤ b <;> by_cases h3 : 2147483648 ≤ d <;> by_cases h4 : a < b + c <;>
    simp only [h1, h2, h3, h4, decide_true, decide_false, if_true, if_false] <;> first | rfl | (exfalso; omega)
theorem borrow_bits (a b c : Nat) (ha : a < 4294967296) (hb : b < 4294967296) (hc : c ≤ 1) :
    bits .or .u32 (bits .and .u32 (bits .xor .u32 IntKind.u32.max (a : Int)) (b : Int))
      (bits .and .u32 (bits .xor .u32 IntKind.u32.max (bits .xor .u32 (a : Int) (b : Int))) (((a : Int) - b - c) % 4294967296)) / 2147483648 = (((subF a b c).2 : Nat) : Int) := by
  have em : IntKind.u32.max = ((4294967295 : Nat) : Int) := rfl
  have ed : ((a : Int) - b - c) % 4294967296 = (((a + 4294967296 - b - c) % 4294967296 : Nat) : Int) := by omega
  have hd : (a + 4294967296 - b - c) % 4294967296 < 4294967296 := Nat.mod_lt _ (by omega)
  have hm : 4294967295 < 4294967296 := by omega
  have h := borrow_nat a b c ha hb hc
  rw [em, ed, u32_xor_nat _ _ hm ha, u32_xor_nat _ _ ha hb, u32_xor_nat _ _ hm (xor_lt _ _ ha hb), u32_and_nat _ _ (xor_lt _ _ hm ha) hb, u32_and_nat _ _ (xor_lt _ _ hm (xor_lt _ _ ha hb)) hd,
    u32_or_nat _ _ (and_lt _ _ (xor_lt _ _ hm ha)) (and_lt _ _ (xor_lt _ _ hm (xor_lt _ _ ha hb)))]
  show _ = ((if a < b + c then 1 else 0 : Nat) : Int)
  rw [← h]
  rfl
theorem diff_int (a b c : Nat) (hb : b < 4294967296) (hc : c ≤ 1) : ((a : Int) - b - c) % 4294967296 = (((subF a b c).1 : Nat) : Int) := by
  simp only [subF]; omega
/-- a difference, digit by digit. -/
theorem subF_diff (l y : List Nat) (h : y.length ≤ l.length) (d1 : Digs 4294967296 l) (d2 : Digs 4294967296 y) (hle : nv 4294967296 y ≤ nv 4294967296 l) :
    nv 4294967296 (alongF subF l y 0).1 = nv 4294967296 l - nv 4294967296 y ∧ Digs 4294967296 (alongF subF l y 0).1 := by
  have h1 := alongF_borrow 4294967296 subF (fun a b c ha hb hc => by simp only [subF]; split <;> omega) l y 0 d1 d2 (by omega) (by omega) h
  have h2 := alongF_digs 4294967296 subF (fun c => c ≤ 1) (fun a b c _ _ _ => by simp only [subF]; split <;> omega) l y 0 d1 d2 (by omega) (by omega)
  have h3 := nv_lt 4294967296 _ h2.1
  rw [alongF_length] at h3
  obtain ⟨h1, hb⟩ := h1
  have hb0 : (alongF subF l y 0).2 = 0 := by
    by_cases e : (alongF subF l y 0).2 = 0
    · exact e
    · have e1 : (alongF subF l y 0).2 = 1 := by omega
      rw [e1] at h1
      omega
  rw [hb0] at h1
  exact ⟨by omega, h2.1⟩
end Tnd
