/- Plain: what a scan tells of what stands behind its place: bytes, digits, escapes, names. Of no program. -/
import Derived.Test.YtnedbeomflllcaaYb
namespace Go.Proofs.Ytnedbeomflllcaa
open Go.RowKit Tnd

/-- is a number one of a text's bytes? -/
def amg (p : Int) (s : List UInt8) : Bool := s.any fun x => p == (x.toNat : Int)
/-- do a text's bytes stand next? -/
def pre : List UInt8 → List Int → Bool
  | [], _ => true
  | _ :: _, [] => false
  | x :: s, p :: r => p == (x.toNat : Int) && pre s r
/-- what a number counts as a digit; 16: it is none. -/
def wth (p : Int) : Int := if 48 ≤ p ∧ p ≤ 57 then p - 48 else if 97 ≤ p ∧ p ≤ 102 then p - 97 + 10 else if 65 ≤ p ∧ p ≤ 70 then p - 65 + 10 else 16
theorem wth_range (p : Int) : 0 ≤ wth p ∧ wth p ≤ 16 := by unfold wth; split <;> (try split) <;> (try split) <;> omega
/-- one digit more; the greatest number in place of a greater one. -/
def stp (base gr n d : Int) : Int := if (gr - d) / base < n then gr else n * base + d
def numR (base gr : Int) : Nat → Int → List Int → Int × Nat
  | 0, n, _ => (n, 0)
  | _ + 1, n, [] => (n, 0)
  | m + 1, n, p :: t => if wth p < base then ((numR base gr m (stp base gr n (wth p)) t).1, (numR base gr m (stp base gr n (wth p)) t).2 + 1) else (n, 0)
theorem numR_le (base gr : Int) : ∀ (m : Nat) (n : Int) (r : List Int), (numR base gr m n r).2 ≤ m ∧ (numR base gr m n r).2 ≤ r.length := by
  intro m
  induction m with
  | zero => intro n r; simp [numR]
  | succ m ih =>
    intro n r
    match r with
    | [] => simp [numR]
    | p :: t =>
      simp only [numR]
      split
      · have := ih (stp base gr n (wth p)) t; simp; omega
      · simp
theorem numR_more (base gr : Int) : ∀ (m m' : Nat) (n : Int) (r : List Int), r.length ≤ m → r.length ≤ m' → numR base gr m n r = numR base gr m' n r := by
  intro m
  induction m with
  | zero =>
    intro m' n r h1 h2
    have : r = [] := List.eq_nil_of_length_eq_zero (by omega)
    subst this
    cases m' <;> rfl
  | succ m ih =>
    intro m' n r h1 h2
    match r with
    | [] => cases m' <;> rfl
    | p :: t =>
      cases m' with
      | zero => simp at h2
      | succ m' =>
        simp only [numR]
        rw [ih m' _ t (by simp at h1; omega) (by simp at h2; omega)]
theorem stp_range {base gr n d : Int} (hb : 2 ≤ base) (hd : 0 ≤ d) (hdb : d ≤ gr) (hn : 0 ≤ n) : 0 ≤ stp base gr n d ∧ stp base gr n d ≤ gr := by
  unfold stp
  split
  · omega
  · rename_i h
    have h1 : n ≤ (gr - d) / base := by omega
    have h2 : n * base ≤ gr - d := (Int.le_ediv_iff_mul_le (by omega)).1 h1
    have h3 : 0 ≤ n * base := Int.mul_nonneg hn (by omega)
    omega
theorem stp_min {base gr n d : Int} (hb : 2 ≤ base) : stp base gr n d = min (n * base + d) gr := by
  unfold stp
  by_cases h : (gr - d) / base < n
  · rw [if_pos h]
    have h2 : gr - d < n * base := (Int.ediv_lt_iff_lt_mul (by omega)).1 h
    omega
  · rw [if_neg h]
    have h1 : n ≤ (gr - d) / base := by omega
    have h2 : n * base ≤ gr - d := (Int.le_ediv_iff_mul_le (by omega)).1 h1
    omega
/-- so many hexadecimal digits. -/
def hexR (m : Nat) (r : List Int) : Option Int := if (numR 16 1114112 m 0 r).2 = m then some (numR 16 1114112 m 0 r).1 else none
def ownS : List UInt8 := [94, 36, 92, 46, 42, 43, 63, 40, 41, 91, 93, 123, 125, 124, 47]
def plainR (c : Int) : Option Int :=
  if c = 102 then some 12 else if c = 110 then some 10 else if c = 114 then some 13 else if c = 116 then some 9 else if c = 118 then some 11 else if amg c ownS then some c else none
def letS : List UInt8 := [65, 66, 67, 68, 69, 70, 71, 72, 73, 74, 75, 76, 77, 78, 79, 80, 81, 82, 83, 84, 85, 86, 87, 88, 89, 90, 97, 98, 99, 100, 101, 102, 103, 104, 105, 106, 107, 108, 109, 110, 111, 112, 113, 114, 115, 116, 117, 118, 119, 120, 121, 122]
def digS : List UInt8 := [48, 49, 50, 51, 52, 53, 54, 55, 56, 57]
def nmS : List UInt8 := letS ++ digS ++ [95, 36]
def ctlR : List Int → Option (Int × Nat)
  | d :: _ => if amg d letS then some (d % 32, 1) else none
  | [] => none
def zerR : List Int → Option (Int × Nat)
  | d :: _ => if amg d digS then none else some (0, 0)
  | [] => some (0, 0)
/-- in braces, behind the first one. -/
def brcR (r : List Int) : Option (Int × Nat) :=
  if (numR 16 1114112 r.length 0 r).2 = 0 ∨ 1114111 < (numR 16 1114112 r.length 0 r).1 then none
  else if pre [125] (r.drop (numR 16 1114112 r.length 0 r).2) then some ((numR 16 1114112 r.length 0 r).1, (numR 16 1114112 r.length 0 r).2 + 1) else none
/-- a lower half behind an upper one. -/
def lowR (hi : Int) (r : List Int) : Option Int :=
  if pre [92, 117] r then match hexR 4 (r.drop 2) with
    | some lo => if (55296 ≤ hi ∧ hi < 56320) ∧ 56320 ≤ lo ∧ lo ≤ 57343 then some (pairV hi lo) else none
    | none => none
  else none
def lngR (r : List Int) : Option (Int × Nat) :=
  if pre [123] r then (brcR (r.drop 1)).map fun x => (x.1, x.2 + 1)
  else match hexR 4 r with
    | none => none
    | some hi => match lowR hi (r.drop 4) with
      | some p => some (p, 10)
      | none => some (hi, 4)
/-- behind an escape's first sign: the code point, and how many are read. -/
def escT (c : Int) (t : List Int) : Option (Int × Nat) :=
  match plainR c with
  | some v => some (v, 0)
  | none => if c = 99 then ctlR t else if c = 48 then zerR t else if c = 120 then (hexR 2 t).map fun x => (x, 2) else if c = 117 then lngR t else none
def escR : List Int → Option (Int × Nat)
  | [] => none
  | c :: t => (escT c t).map fun x => (x.1, x.2 + 1)
/-- the signs of names that stand next, so many at most. -/
def sgnR : Nat → List Int → List UInt8
  | 0, _ => []
  | _ + 1, [] => []
  | m + 1, p :: t => if amg p nmS then UInt8.ofNat p.toNat :: sgnR m t else []
def namR (r : List Int) : Option (List UInt8) :=
  match sgnR 40 r with
  | [] => none
  | x :: s => if amg (x.toNat : Int) digS then none else if pre [62] (r.drop (s.length + 1)) then some (x :: s) else none

theorem drop_cons {l : List Int} {k : Nat} (h : k < l.length) : l.drop k = gi l k :: l.drop (k + 1) := by
  rw [List.drop_eq_getElem_cons h]
  unfold gi
  rw [List.getD_eq_getElem?_getD, List.getElem?_eq_getElem h]; rfl
theorem sgnR_le : ∀ (m : Nat) (r : List Int), (sgnR m r).length ≤ m ∧ (sgnR m r).length ≤ r.length := by
  intro m
  induction m with
  | zero => intro r; simp [sgnR]
  | succ m ih =>
    intro r
    match r with
    | [] => simp [sgnR]
    | p :: t =>
      simp only [sgnR]
      split
      · have := ih t; simp; omega
      · simp
theorem pre_le : ∀ {s : List UInt8} {r : List Int}, pre s r = true → s.length ≤ r.length := by
  intro s
  induction s with
  | nil => intro r _; simp
  | cons x s ih =>
    intro r h
    match r with
    | [] => simp [pre] at h
    | p :: r =>
      simp only [pre, Bool.and_eq_true] at h
      have := ih h.2
      simp; omega
theorem pre_iff : ∀ {s : List UInt8} {r : List Int}, s.length ≤ r.length → (pre s r = true ↔ ∀ i, (h : i < s.length) → gi r i = ((s[i]).toNat : Int)) := by
  intro s
  induction s with
  | nil => intro r _; simp [pre]
  | cons x s ih =>
    intro r hl
    match r with
    | [] => simp at hl
    | p :: r =>
      simp only [pre, Bool.and_eq_true, beq_iff_eq]
      rw [ih (by simp at hl; omega)]
      constructor
      · rintro ⟨h1, h2⟩ i hi
        cases i with
        | zero => simpa [gi] using h1
        | succ i => have := h2 i (by simpa using hi); simpa [gi] using this
      · intro h
        refine ⟨by have := h 0 (by simp); simpa [gi] using this, fun i hi => ?_⟩
        have := h (i + 1) (by simpa using hi)
        simpa [gi] using this
theorem amg_of {p : Int} {s : List UInt8} {k : Nat} (h : k < s.length) (e : p = (s[k].toNat : Int)) : amg p s = true := by
  unfold amg
  rw [List.any_eq_true]
  exact ⟨s[k], List.getElem_mem h, by rw [e]; simp⟩
theorem amg_no {p : Int} {s : List UInt8} (h : ∀ k, (hk : k < s.length) → p ≠ (s[k].toNat : Int)) : amg p s = false := by
  unfold amg
  rw [List.any_eq_false]
  intro x hx
  obtain ⟨k, hk, rfl⟩ := List.getElem_of_mem hx
  have := h k hk
  simp only [beq_iff_eq]
  exact this
theorem amg_byte {p : Int} {s : List UInt8} (h : amg p s = true) : 0 ≤ p ∧ p < 256 := by
  unfold amg at h
  rw [List.any_eq_true] at h
  obtain ⟨x, _, e⟩ := h
  have e2 : p = (x.toNat : Int) := by simpa using e
  have := x.toNat_lt
  omega
end Go.Proofs.Ytnedbeomflllcaa
