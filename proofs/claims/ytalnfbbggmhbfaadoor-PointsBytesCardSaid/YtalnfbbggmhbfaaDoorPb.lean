/- Plain lemmas on code points' bytes, as the document's answer goes about them: what begins a code point's bytes, and how many bytes of a text do. Of no program. -/
import Derived.Test.YtalnfbbggmhbfaaDoorPa
namespace Tnd

theorem fol_take : ∀ (k low high c : Nat) (s : List UInt8) (j : Nat), j ≤ s.length → ((fol k low high c (s.take j)).2 = [] ↔ j ≤ s.length - (fol k low high c s).2.length) := by
  intro k
  induction k with
  | zero =>
    intro low high c s j hj
    dsimp only [fol]
    rw [Nat.sub_self]
    constructor
    · intro h
      have := congrArg List.length h
      rw [List.length_take, List.length_nil] at this
      omega
    · intro h
      obtain rfl : j = 0 := by omega
      rfl
  | succ k ih =>
    intro low high c s j hj
    match s, j, hj with
    | [], j, hj => simp at hj; subst hj; simp [fol]
    | b :: s, 0, _ => simp [fol]
    | b :: s, j + 1, hj =>
      rw [List.take_succ_cons]
      simp only [fol]
      split
      · rename_i hb
        have h := ih 128 191 (c * 64 + (b.toNat - 128)) s j (by simpa using hj)
        rw [h]
        have hl := fol_len k 128 191 (c * 64 + (b.toNat - 128)) s _ _ rfl
        simp only [List.length_cons]
        omega
      · simp
theorem tries_len2 : ∀ (ls : List Lead) (b : UInt8) (s : List UInt8), (tries ls b s).2.length ≤ s.length + 1 := by
  intro ls
  induction ls with
  | nil => intro b s; simp [tries]
  | cons l ls ih =>
    intro b s
    simp only [tries]
    split
    · have := fol_len l.behind l.next l.last (b.toNat - l.mark) s _ _ rfl
      omega
    · exact ih b s
theorem tries_take : ∀ (ls : List Lead) (b : UInt8) (s : List UInt8) (j : Nat), j ≤ s.length → ((tries ls b (s.take j)).2 = [] ↔ j + 1 ≤ s.length + 1 - (tries ls b s).2.length) := by
  intro ls
  induction ls with
  | nil => intro b s j hj; simp [tries]
  | cons l ls ih =>
    intro b s j hj
    simp only [tries]
    split
    · rw [fol_take _ _ _ _ _ _ hj]
      have := fol_len l.behind l.next l.last (b.toNat - l.mark) s _ _ rfl
      omega
    · exact ih b s j hj
/-- how many bytes begin a code point's. -/
def con (s : List UInt8) : Nat := s.length - (pt s).2.length
theorem pt_take (s : List UInt8) (j : Nat) (hj : j ≤ s.length) : (pt (s.take j)).2 = [] ↔ j ≤ con s := by
  match s, j, hj with
  | [], j, hj => simp at hj; subst hj; simp [pt]
  | b :: s, 0, _ => simp [pt]
  | b :: s, j + 1, hj =>
    rw [List.take_succ_cons]
    simp only [pt, con]
    rw [tries_take _ _ _ _ (by simpa using hj)]
    simp

def lng (b : Nat) : Nat := if b < 128 then 1 else if 192 ≤ b ∧ b < 224 then 2 else if 224 ≤ b ∧ b < 240 then 3 else if 240 ≤ b ∧ b < 248 then 4 else 0
theorem leads_lng : ∀ l ∈ leads, ∀ b : Nat, l.low ≤ b → b ≤ l.high → lng b = l.behind + 1 := by
  intro l hl b h1 h2
  simp only [leads, List.mem_cons, List.not_mem_nil, or_false] at hl
  rcases hl with rfl | rfl | rfl | rfl | rfl | rfl | rfl | rfl | rfl <;> simp only at h1 h2 <;> unfold lng <;> repeat (first | rw [if_pos (by omega)] | rw [if_neg (by omega)])
theorem fol_some_len : ∀ (k low high c : Nat) (s t : List UInt8) (x : Nat), fol k low high c s = (some x, t) → s.length = k + t.length := by
  intro k
  induction k with
  | zero => intro low high c s t x h; simp only [fol, Prod.mk.injEq] at h; rw [h.2]; omega
  | succ k ih =>
    intro low high c s t x h
    match s with
    | [] => simp [fol] at h
    | b :: s =>
      simp only [fol] at h
      split at h
      · have := ih _ _ _ _ _ _ h; simp; omega
      · simp at h
theorem tries_some_len : ∀ (ls : List Lead), (∀ l ∈ ls, ∀ b : Nat, l.low ≤ b → b ≤ l.high → lng b = l.behind + 1) → ∀ (b : UInt8) (s t : List UInt8) (x : Nat), tries ls b s = (some x, t) → s.length + 1 = lng b.toNat + t.length := by
  intro ls
  induction ls with
  | nil => intro _ b s t x h; simp [tries] at h
  | cons l ls ih =>
    intro hok b s t x h
    simp only [tries] at h
    split at h
    · rename_i hb
      have := fol_some_len _ _ _ _ _ _ _ h
      rw [hok l (by simp) _ hb.1 hb.2]; omega
    · exact ih (fun l hl => hok l (by simp [hl])) b s t x h
theorem tries_none_len : ∀ (ls : List Lead), (∀ l ∈ ls, ∀ b : Nat, l.low ≤ b → b ≤ l.high → lng b = l.behind + 1) → ∀ (b : UInt8) (s r : List UInt8), tries ls b s = (none, r) → s.length + 1 = r.length ∨ s.length + 1 < lng b.toNat + r.length := by
  intro ls
  induction ls with
  | nil => intro _ b s r h; simp only [tries, Prod.mk.injEq, true_and] at h; left; rw [← h]; simp
  | cons l ls ih =>
    intro hok b s r h
    simp only [tries] at h
    split at h
    · rename_i hb
      obtain ⟨p, rfl, hp, _⟩ := fol_none _ _ _ _ _ _ h
      right
      rw [hok l (by simp) _ hb.1 hb.2]
      simp; omega
    · exact ih (fun l hl => hok l (by simp [hl])) b s r h
theorem con_some {b : UInt8} {s t : List UInt8} {c : Nat} (h : pt (b :: s) = (some c, t)) : con (b :: s) = lng b.toNat := by
  have := tries_some_len leads leads_lng b s t c h
  simp only [con, h, List.length_cons]; omega
theorem con_none {b : UInt8} {s r : List UInt8} (h : pt (b :: s) = (none, r)) : con (b :: s) < max (lng b.toNat) 1 := by
  have := tries_none_len leads leads_lng b s r h
  simp only [con, h, List.length_cons]; omega

/-- what a row of bytes is worth. -/
def fst (s : List UInt8) : Nat := match s with
  | [] => 0
  | b :: t => t.foldl (fun c x => c * 64 + x.toNat % 64) (if t.length = 0 then b.toNat else b.toNat % 2 ^ (6 - t.length))
def wholeB (c : Nat) : Bool := decide (c ≤ 1114111) && !(decide (55296 ≤ c) && decide (c ≤ 57343))
theorem wholeB_iff {c : Nat} : wholeB c = true ↔ Whole c := by
  simp only [wholeB, Whole, Bool.and_eq_true, Bool.not_eq_true', Bool.and_eq_false_iff, decide_eq_true_eq, decide_eq_false_iff_not]; omega
def fstOk (s : List UInt8) : Bool := match s with
  | [] => false
  | b :: t => decide (lng b.toNat = t.length + 1) && (wholeB (fst (b :: t)) && decide (enc (fst (b :: t)) = b :: t))
theorem fst_enc {c : Nat} (hw : Whole c) : fst (enc c) = c := by
  obtain ⟨w1, w2⟩ := hw
  by_cases h1 : c < 128
  · rw [enc1 h1]; simp only [fst, List.foldl, List.length_nil, if_true, u8_of c (by omega)]
  · by_cases h2 : c < 2048
    · rw [enc2 h1 h2]
      simp only [fst, List.foldl, List.length_cons, List.length_nil, u8_of (192 + c / 64) (by omega), u8_of (128 + c % 64) (by omega)]
      rw [if_neg (by omega)]
      show (192 + c / 64) % 32 * 64 + (128 + c % 64) % 64 = c
      omega
    · by_cases h3 : c < 65536
      · rw [enc3 h2 h3]
        simp only [fst, List.foldl, List.length_cons, List.length_nil, u8_of (224 + c / 4096) (by omega), u8_of (128 + c / 64 % 64) (by omega), u8_of (128 + c % 64) (by omega)]
        rw [if_neg (by omega)]
        show ((224 + c / 4096) % 16 * 64 + (128 + c / 64 % 64) % 64) * 64 + (128 + c % 64) % 64 = c
        omega
      · rw [enc4 h3]
        simp only [fst, List.foldl, List.length_cons, List.length_nil, u8_of (240 + c / 262144) (by omega), u8_of (128 + c / 4096 % 64) (by omega), u8_of (128 + c / 64 % 64) (by omega), u8_of (128 + c % 64) (by omega)]
        rw [if_neg (by omega)]
        show (((240 + c / 262144) % 8 * 64 + (128 + c / 4096 % 64) % 64) * 64 + (128 + c / 64 % 64) % 64) * 64 + (128 + c % 64) % 64 = c
        omega
/-- as many bytes as the first one announces. -/
theorem full_ok {b : UInt8} {s : List UInt8} (h : lng b.toNat = s.length + 1) : fstOk (b :: s) = (pt (b :: s)).2.isEmpty := by
  rw [Bool.eq_iff_iff, List.isEmpty_iff]
  simp only [fstOk, Bool.and_eq_true, decide_eq_true_eq, wholeB_iff]
  constructor
  · rintro ⟨_, hw, he⟩
    have := pt_enc hw []
    rw [he, List.append_nil] at this
    rw [this]
  · intro hr
    refine ⟨h, ?_⟩
    rcases hp : pt (b :: s) with ⟨_ | c, t⟩
    · rw [hp] at hr
      have := con_none hp
      simp only [con, hp] at this
      simp only at hr
      rw [hr] at this
      simp at this; omega
    · rw [hp] at hr
      simp only at hr
      subst hr
      obtain ⟨hw, he⟩ := pt_some hp
      rw [List.append_nil] at he
      rw [he, fst_enc hw]
      exact ⟨hw, rfl⟩
/-- more bytes than the first one announces. -/
theorem over_no {b : UInt8} {s : List UInt8} (h : lng b.toNat < s.length + 1) : (pt (b :: s)).2.isEmpty = false := by
  rw [Bool.eq_false_iff]
  intro hr
  rw [List.isEmpty_iff] at hr
  have hc : con (b :: s) = s.length + 1 := by simp [con, hr]
  rcases hp : pt (b :: s) with ⟨_ | c, t⟩
  · have := con_none hp; omega
  · have := con_some hp; omega
/-- fewer bytes than the first one announces. -/
theorem less_or {b : UInt8} {s : List UInt8} (h : s.length + 1 < lng b.toNat) : (pt (b :: s)).2.isEmpty = ((pt (b :: s ++ [128])).2.isEmpty || (pt (b :: s ++ [191])).2.isEmpty) := by
  rw [Bool.eq_iff_iff, Bool.or_eq_true, List.isEmpty_iff, List.isEmpty_iff, List.isEmpty_iff]
  have hto : ∀ x, (pt (b :: s ++ [x])).2 = [] → (pt (b :: s)).2 = [] := by
    intro x hx
    have h1 := pt_take (b :: s ++ [x]) (s.length + 1) (by simp)
    have h2 : (b :: s ++ [x]).take (s.length + 1) = b :: s := by simp
    rw [h2] at h1
    refine h1.2 ?_
    simp only [con, hx]
    simp
  constructor
  · intro hr
    rcases hp : pt (b :: s) with ⟨_ | c, t⟩
    · rw [hp] at hr
      simp only at hr
      subst hr
      obtain ⟨p, e1, _, h3⟩ := pt_none hp
      rw [List.append_nil] at e1
      subst e1
      rcases h3 with h3 | ⟨e, he, x, hx⟩
      · simp at h3
      · have key : ∀ y e', e = y :: e' → (pt (b :: s ++ [y])).2 = [] := by
          intro y e' ee
          subst ee
          have h1 := pt_take (b :: s ++ y :: e') (s.length + 2) (by simp)
          have h2 : (b :: s ++ y :: e').take (s.length + 2) = b :: s ++ [y] := by
            rw [List.take_append]
            simp [List.take_of_length_le]
          rw [h2] at h1
          refine h1.2 ?_
          simp only [con, hx]
          simp
        simp only [ends, List.mem_cons, List.not_mem_nil, or_false] at he
        rcases he with rfl | rfl | rfl | rfl | rfl | rfl | rfl
        · rw [List.append_nil, hp] at hx; simp at hx
        · exact .inl (key _ _ rfl)
        · exact .inr (key _ _ rfl)
        · exact .inl (key _ _ rfl)
        · exact .inr (key _ _ rfl)
        · exact .inl (key _ _ rfl)
        · exact .inr (key _ _ rfl)
    · rw [hp] at hr
      simp only at hr
      subst hr
      have h1 := con_some hp
      simp only [con, hp] at h1
      simp at h1; omega
  · rintro (h1 | h1)
    · exact hto _ h1
    · exact hto _ h1
end Tnd
