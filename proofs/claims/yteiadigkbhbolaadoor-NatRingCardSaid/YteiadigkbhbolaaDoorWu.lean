/- Plain mathematics of a decimal text that is read in groups of nine from its end. -/
import Derived.Test.YteiadigkbhbolaaDoorWt
namespace Go.Proofs.YteiadigkbhbolaaDoor
open Go.RowKit Tnd

/-- digits alone. -/
def AllD (l : List UInt8) : Prop := ∀ c, c ∈ l → 48 ≤ c.toNat ∧ c.toNat ≤ 57
theorem rd_cons (c : UInt8) (l : List UInt8) : rd (c :: l) = (c.toNat - 48) * 10 ^ l.length + rd l := by
  have h := rd_from l (10 * 0 + (c.toNat - 48))
  simp only [Nat.mul_zero, Nat.zero_add] at h
  rw [← h]
  simp [rd]
theorem rd_lt (l : List UInt8) (h : AllD l) : rd l < 10 ^ l.length := by
  induction l with
  | nil => simp [rd]
  | cons c l ih =>
    have h1 := ih fun x hx => h x (List.mem_cons_of_mem _ hx)
    have h2 := h c (by simp)
    rw [rd_cons, List.length_cons, Nat.pow_succ]
    have h3 : (c.toNat - 48) * 10 ^ l.length ≤ 9 * 10 ^ l.length := Nat.mul_le_mul_right _ (by omega)
    omega
theorem parseM_ok : ∀ (l : List UInt8) (acc : Nat), AllD l → acc * 10 ^ l.length + rd l ≤ 4294967295 → Lib.parseUintM 4294967295 acc l = .ok (acc * 10 ^ l.length + rd l) := by
  intro l
  induction l with
  | nil => intro acc _ _; simp [Lib.parseUintM, rd]
  | cons c l ih =>
    intro acc h hb
    have h2 := h c (by simp)
    have hp : 1 ≤ 10 ^ l.length := Nat.pow_pos (by omega)
    rw [rd_cons, List.length_cons, Nat.pow_succ] at hb
    have e : acc * (10 ^ l.length * 10) + ((c.toNat - 48) * 10 ^ l.length + rd l) = (acc * 10 + (c.toNat - 48)) * 10 ^ l.length + rd l := by
      rw [Nat.add_mul, Nat.mul_comm (10 ^ l.length) 10, Nat.mul_assoc]; omega
    rw [e] at hb
    have hs : (acc * 10 + (c.toNat - 48)) * 1 ≤ (acc * 10 + (c.toNat - 48)) * 10 ^ l.length := Nat.mul_le_mul_left _ hp
    have h3 := ih (acc * 10 + (c.toNat - 48)) (fun x hx => h x (List.mem_cons_of_mem _ hx)) hb
    rw [rd_cons, List.length_cons, Nat.pow_succ, e, ← h3]
    conv => lhs; rw [Lib.parseUintM]
    rw [if_pos h2, if_neg (by omega), if_neg (by omega)]
theorem parseB_ok (l : List UInt8) (hn : l ≠ []) (h : AllD l) (hl : l.length ≤ 9) : Lib.parseUintB 32 l = .ok (rd l) := by
  have h1 := rd_lt l h
  have h2 : 10 ^ l.length ≤ 10 ^ 9 := Nat.pow_le_pow_right (by omega) hl
  have h3 := parseM_ok l 0 h (by omega)
  unfold Lib.parseUintB
  rw [if_neg hn]
  show Lib.parseUintM 4294967295 0 l = _
  rw [h3]; simp

/-- the text from byte i on, as a number. -/
def rest (s : ByteArray) (i : Nat) : Nat := rd (s.data.toList.drop i)
theorem num_all {s : ByteArray} (h : IsNum s) : AllD s.data.toList := by
  intro c hc
  obtain ⟨i, hi, rfl⟩ := List.mem_iff_getElem.1 hc
  have h1 := h.2.2 i (by simpa using hi)
  unfold bt at h1
  simp only [List.getD, List.getElem?_eq_getElem hi, Option.getD_some] at h1
  exact h1
/-- one group more. -/
theorem group_step {s : ByteArray} (h : IsNum s) (k : Nat) (G : List Nat) (hG : G.length = k) (hd : Digs 1000000000 G) (he : 0 < s.size - 9 * k) (hv : nv 1000000000 G = rest s (s.size - 9 * k)) :
    ∃ u, Lib.parseUintB 32 (s.extract (s.size - 9 * k - 9) (s.size - 9 * k)).data.toList = .ok u ∧ u < 1000000000 ∧ Digs 1000000000 (G ++ [u]) ∧ nv 1000000000 (G ++ [u]) = rest s (s.size - 9 * (k + 1)) := by
  have hsz : s.data.toList.length = s.size := by simp
  have ha := num_all h
  generalize hL : s.data.toList = L at *
  obtain ⟨e, hE⟩ : ∃ e, e = s.size - 9 * k := ⟨_, rfl⟩
  rw [← hE] at he hv ⊢
  have hpl : ((L.drop (e - 9)).take (e - (e - 9))).length = e - (e - 9) := by rw [List.length_take, List.length_drop]; omega
  have hpd : AllD ((L.drop (e - 9)).take (e - (e - 9))) := fun c hc => ha c (List.mem_of_mem_drop (List.mem_of_mem_take hc))
  have h1 := rd_lt _ hpd
  have hu : rd ((L.drop (e - 9)).take (e - (e - 9))) < 1000000000 := by
    rw [hpl] at h1
    exact Nat.lt_of_lt_of_le h1 (show 10 ^ (e - (e - 9)) ≤ 10 ^ 9 from Nat.pow_le_pow_right (by omega) (by omega))
  refine ⟨rd ((L.drop (e - 9)).take (e - (e - 9))), ?_, hu, ?_, ?_⟩
  · rw [Lib.extract_data, hL]
    exact parseB_ok _ (by intro e0; rw [e0] at hpl; simp at hpl; omega) hpd (by omega)
  · exact digs_append.2 ⟨hd, fun x hx => by rw [List.mem_singleton.1 hx]; exact hu⟩
  · rw [nv_snoc, hv, hG]
    unfold rest
    rw [hL]
    have e1 : s.size - 9 * (k + 1) = e - 9 := by omega
    have e2 : L.drop (e - 9) = (L.drop (e - 9)).take (e - (e - 9)) ++ L.drop e := by
      conv => lhs; rw [← List.take_append_drop (e - (e - 9)) (L.drop (e - 9))]
      rw [List.drop_drop]
      congr 2; omega
    rw [e1]
    conv => rhs; rw [e2, rd_append]
    have e3 : (L.drop e).length = 9 * k := by rw [List.length_drop]; omega
    rw [e3, Nat.pow_mul, Nat.mul_comm, Nat.add_comm]
end Go.Proofs.YteiadigkbhbolaaDoor
