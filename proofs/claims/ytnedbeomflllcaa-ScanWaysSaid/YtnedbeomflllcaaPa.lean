/- Plain lemmas on code points and their bytes: what is read of bytes, one code point after the other; what is written of them; that both are one another's. Of no program. -/
namespace Tnd

structure Lead where
  low : Nat
  high : Nat
  mark : Nat
  behind : Nat
  next : Nat
  last : Nat
def leads : List Lead := [⟨0, 127, 0, 0, 0, 0⟩, ⟨194, 223, 192, 1, 128, 191⟩, ⟨224, 224, 224, 2, 160, 191⟩, ⟨225, 236, 224, 2, 128, 191⟩, ⟨237, 237, 224, 2, 128, 159⟩, ⟨238, 239, 224, 2, 128, 191⟩, ⟨240, 240, 240, 3, 144, 191⟩, ⟨241, 243, 240, 3, 128, 191⟩, ⟨244, 244, 240, 3, 128, 143⟩]

/-- bytes behind a first one: the next from low to high, the others from 128 to 191. -/
def fol : Nat → Nat → Nat → Nat → List UInt8 → Option Nat × List UInt8
  | 0, _, _, c, s => (some c, s)
  | _ + 1, _, _, _, [] => (none, [])
  | k + 1, low, high, c, b :: s => if low ≤ b.toNat ∧ b.toNat ≤ high then fol k 128 191 (c * 64 + (b.toNat - 128)) s else (none, b :: s)
def tries : List Lead → UInt8 → List UInt8 → Option Nat × List UInt8
  | [], b, s => (none, b :: s)
  | l :: ls, b, s => if l.low ≤ b.toNat ∧ b.toNat ≤ l.high then fol l.behind l.next l.last (b.toNat - l.mark) s else tries ls b s
/-- one code point's bytes. -/
def pt : List UInt8 → Option Nat × List UInt8
  | [] => (none, [])
  | b :: s => tries leads b s
/-- a text: its code points as far as it is right; what is left where it is not. -/
def ofn : Nat → List UInt8 → List Nat × Option (List UInt8)
  | 0, _ => ([], none)
  | n + 1, s => if s.isEmpty then ([], none) else match pt s with
    | (some c, t) => (c :: (ofn n t).1, (ofn n t).2)
    | (none, r) => ([], some r)
def ofm (s : List UInt8) : List Nat × Option (List UInt8) := ofn s.length s

def Whole (c : Nat) : Prop := c ≤ 1114111 ∧ ¬ (55296 ≤ c ∧ c ≤ 57343)
def encN (c : Nat) : List Nat :=
  if c < 128 then [c] else if c < 2048 then [192 + c / 64, 128 + c % 64]
  else if c < 65536 then [224 + c / 4096, 128 + c / 64 % 64, 128 + c % 64]
  else [240 + c / 262144, 128 + c / 4096 % 64, 128 + c / 64 % 64, 128 + c % 64]
def enc (c : Nat) : List UInt8 := (encN c).map UInt8.ofNat
def encs (l : List Nat) : List UInt8 := (l.map enc).flatten

theorem u8_of (n : Nat) (h : n < 256) : (UInt8.ofNat n).toNat = n := by simp; omega
theorem u8_eq {b : UInt8} {n : Nat} (h : b.toNat = n) : b = UInt8.ofNat n := by
  apply UInt8.toNat_inj.1
  have := b.toNat_lt
  rw [u8_of n (by omega)]; exact h

theorem fol_len : ∀ (k low high c : Nat) (s : List UInt8) (x : Option Nat) (t : List UInt8), fol k low high c s = (x, t) → t.length ≤ s.length := by
  intro k
  induction k with
  | zero => intro low high c s x t h; simp only [fol, Prod.mk.injEq] at h; rw [h.2]; omega
  | succ k ih =>
    intro low high c s x t h
    match s with
    | [] => simp only [fol, Prod.mk.injEq] at h; rw [← h.2]; simp
    | b :: s =>
      simp only [fol] at h
      split at h
      · have := ih _ _ _ _ _ _ h; simp; omega
      · simp only [Prod.mk.injEq] at h; rw [← h.2]; simp
/-- what is not read goes on as it was, whatever stands behind. -/
theorem fol_none : ∀ (k low high c : Nat) (s r : List UInt8), fol k low high c s = (none, r) →
    ∃ p, s = p ++ r ∧ p.length < k ∧ (∀ b r', r = b :: r' → ∀ more, fol k low high c (p ++ b :: more) = (none, b :: more)) ∧
      (∀ n, 128 ≤ n → n ≤ 191 → low ≤ n → n ≤ high → ∃ x, fol k low high c (p ++ (if p.length = 0 then UInt8.ofNat n :: List.replicate (k - 1) 128 else List.replicate (k - p.length) 128)) = (some x, [])) := by
  have hrep : ∀ (k c : Nat), ∃ x, fol k 128 191 c (List.replicate k 128) = (some x, []) := by
    intro k
    induction k with
    | zero => intro c; exact ⟨c, rfl⟩
    | succ k ih =>
      intro c
      rw [List.replicate_succ]
      simp only [fol]
      rw [if_pos (by decide)]
      exact ih _
  intro k
  induction k with
  | zero => intro low high c s r h; simp [fol] at h
  | succ k ih =>
    intro low high c s r h
    match s with
    | [] =>
      simp only [fol, Prod.mk.injEq, true_and] at h
      subst h
      refine ⟨[], rfl, by simp, fun b r' e => by simp at e, fun n h1 h2 h3 h4 => ?_⟩
      simp only [List.length_nil, if_true, List.nil_append, fol, u8_of n (show n < 256 by omega)]
      rw [if_pos ⟨h3, h4⟩]
      exact hrep _ _
    | b :: s =>
      simp only [fol] at h
      split at h
      · rename_i hb
        obtain ⟨p, hs, hp, h1, h2⟩ := ih _ _ _ _ _ h
        refine ⟨b :: p, by rw [hs]; rfl, by simp; omega, fun b' r' e more => ?_, fun n g1 g2 g3 g4 => ?_⟩
        · simp only [List.cons_append, fol]
          rw [if_pos hb]
          exact h1 b' r' e more
        · simp only [List.length_cons, Nat.add_one_ne_zero, if_false, List.cons_append, fol]
          rw [if_pos hb]
          obtain ⟨x, hx⟩ := h2 128 (by omega) (by omega) (by omega) (by omega)
          refine ⟨x, ?_⟩
          rw [← hx]
          congr 1
          split
          · rename_i h0
            have h0' : p.length = 0 := h0
            have hk : k + 1 - (p.length + 1) = (k - 1) + 1 := by omega
            rw [hk, List.replicate_succ]
            rfl
          · have hk : k + 1 - (p.length + 1) = k - p.length := by omega
            rw [hk]
      · rename_i hb
        simp only [Prod.mk.injEq, true_and] at h
        subst h
        refine ⟨[], rfl, by simp, fun b' r' e more => ?_, fun n h1 h2 h3 h4 => ?_⟩
        · simp only [List.cons.injEq] at e
          obtain ⟨rfl, rfl⟩ := e
          simp only [List.nil_append, fol]
          rw [if_neg hb]
        · simp only [List.length_nil, if_true, List.nil_append, fol, u8_of n (show n < 256 by omega)]
          rw [if_pos ⟨h3, h4⟩]
          exact hrep _ _

/-- the bytes that may stand at the end of what is right so far. -/
def ends : List (List UInt8) := [[], [128], [191], [128, 128], [191, 128], [128, 128, 128], [191, 128, 128]]

def LeadOk (l : Lead) : Prop := l.behind ≤ 3 ∧ (l.behind = 0 ∨ (l.next = 128 ∧ 128 ≤ l.last ∧ l.last ≤ 191) ∨ (l.last = 191 ∧ 128 ≤ l.next ∧ l.next ≤ 191))
theorem leads_ok : ∀ l ∈ leads, LeadOk l := by
  intro l hl
  simp only [leads, List.mem_cons, List.not_mem_nil, or_false] at hl
  rcases hl with rfl | rfl | rfl | rfl | rfl | rfl | rfl | rfl | rfl <;> simp [LeadOk]
theorem ends_rep (k : Nat) (h : k ≤ 3) : List.replicate k (128 : UInt8) ∈ ends := by
  have : k = 0 ∨ k = 1 ∨ k = 2 ∨ k = 3 := by omega
  rcases this with rfl | rfl | rfl | rfl <;> decide
theorem ends_rep2 (k : Nat) (h : k ≤ 2) : (191 : UInt8) :: List.replicate k (128 : UInt8) ∈ ends := by
  have : k = 0 ∨ k = 1 ∨ k = 2 := by omega
  rcases this with rfl | rfl | rfl <;> decide

theorem tries_none : ∀ (ls : List Lead), (∀ l ∈ ls, LeadOk l) → ∀ (b : UInt8) (s r : List UInt8), tries ls b s = (none, r) →
    ∃ p, b :: s = p ++ r ∧ (∀ b' r', r = b' :: r' → ∀ b2 s2 more, p ++ b' :: more = b2 :: s2 → tries ls b2 s2 = (none, b' :: more)) ∧
      (p = [] ∨ ∃ e ∈ ends, ∀ b2 s2, p ++ e = b2 :: s2 → ∃ x, tries ls b2 s2 = (some x, [])) := by
  intro ls
  induction ls with
  | nil =>
    intro _ b s r h
    simp only [tries, Prod.mk.injEq, true_and] at h
    subst h
    refine ⟨[], rfl, fun b' r' e b2 s2 more e2 => ?_, .inl rfl⟩
    simp only [List.nil_append, List.cons.injEq] at e2
    simp only [tries, e2.1, e2.2]
  | cons l ls ih =>
    intro hok b s r h
    simp only [tries] at h
    split at h
    · rename_i hb
      obtain ⟨p, hs, hp, h1, h2⟩ := fol_none _ _ _ _ _ _ h
      obtain ⟨k3, hk⟩ := hok l (by simp)
      refine ⟨b :: p, by rw [hs]; rfl, fun b' r' e b2 s2 more e2 => ?_, .inr ?_⟩
      · simp only [List.cons_append, List.cons.injEq] at e2
        obtain ⟨rfl, rfl⟩ := e2
        simp only [tries]
        rw [if_pos hb]
        exact h1 b' r' e more
      · by_cases hp0 : p.length = 0
        · rcases hk with hk | ⟨k1, k2, k4⟩ | ⟨k1, k2, k4⟩
          · omega
          · refine ⟨List.replicate l.behind 128, ends_rep _ k3, fun b2 s2 e2 => ?_⟩
            simp only [List.cons_append, List.cons.injEq] at e2
            obtain ⟨rfl, rfl⟩ := e2
            simp only [tries]
            rw [if_pos hb]
            obtain ⟨x, hx⟩ := h2 128 (by omega) (by omega) (by omega) (by omega)
            refine ⟨x, ?_⟩
            rw [← hx, if_pos hp0]
            obtain ⟨j, hj⟩ : ∃ j, l.behind = j + 1 := ⟨l.behind - 1, by omega⟩
            rw [hj, List.replicate_succ]
            rfl
          · refine ⟨191 :: List.replicate (l.behind - 1) 128, ends_rep2 _ (by omega), fun b2 s2 e2 => ?_⟩
            simp only [List.cons_append, List.cons.injEq] at e2
            obtain ⟨rfl, rfl⟩ := e2
            simp only [tries]
            rw [if_pos hb]
            obtain ⟨x, hx⟩ := h2 191 (by omega) (by omega) (by omega) (by omega)
            refine ⟨x, ?_⟩
            rw [← hx, if_pos hp0]
            rfl
        · refine ⟨List.replicate (l.behind - p.length) 128, ends_rep _ (by omega), fun b2 s2 e2 => ?_⟩
          simp only [List.cons_append, List.cons.injEq] at e2
          obtain ⟨rfl, rfl⟩ := e2
          simp only [tries]
          rw [if_pos hb]
          have hex : ∃ n, 128 ≤ n ∧ n ≤ 191 ∧ l.next ≤ n ∧ n ≤ l.last := by
            rcases hk with hk | ⟨k1, k2, k4⟩ | ⟨k1, k2, k4⟩
            · omega
            · exact ⟨128, by omega, by omega, by omega, by omega⟩
            · exact ⟨191, by omega, by omega, by omega, by omega⟩
          obtain ⟨n, n1, n2, n3, n4⟩ := hex
          obtain ⟨x, hx⟩ := h2 n n1 n2 n3 n4
          refine ⟨x, ?_⟩
          rw [← hx, if_neg hp0]
    · rename_i hb
      obtain ⟨p, hs, h1, h2⟩ := ih (fun l hl => hok l (by simp [hl])) b s r h
      refine ⟨p, hs, fun b' r' e b2 s2 more e2 => ?_, ?_⟩
      · have hb2 : b2 = b := by
          match p, hs, e2 with
          | [], hs, e2 =>
            rw [e] at hs
            simp only [List.nil_append, List.cons.injEq] at hs e2
            rw [hs.1, e2.1]
          | x :: p, hs, e2 =>
            simp only [List.cons_append, List.cons.injEq] at hs e2
            rw [hs.1, e2.1]
        subst hb2
        simp only [tries]
        rw [if_neg hb]
        exact h1 b' r' e b2 s2 more e2
      · rcases h2 with h2 | ⟨e, he, h2⟩
        · exact .inl h2
        · match p, hs with
          | [], _ => exact .inl rfl
          | x :: p, hs =>
            refine .inr ⟨e, he, fun b2 s2 e2 => ?_⟩
            have hb2 : b2 = b := by
              simp only [List.cons_append, List.cons.injEq] at hs e2
              rw [hs.1, e2.1]
            subst hb2
            simp only [tries]
            rw [if_neg hb]
            exact h2 b2 s2 e2

theorem pt_none {s r : List UInt8} (h : pt s = (none, r)) : ∃ p, s = p ++ r ∧ (∀ b r', r = b :: r' → ∀ more, pt (p ++ b :: more) = (none, b :: more)) ∧
    (p = [] ∨ ∃ e ∈ ends, ∃ x, pt (p ++ e) = (some x, [])) := by
  match s with
  | [] =>
    simp only [pt, Prod.mk.injEq, true_and] at h
    subst h
    exact ⟨[], rfl, fun b r' e => by simp at e, .inl rfl⟩
  | b :: s =>
    obtain ⟨p, hs, h1, h2⟩ := tries_none leads leads_ok b s r h
    refine ⟨p, hs, fun b' r' e more => ?_, ?_⟩
    · obtain ⟨b2, s2, e2⟩ : ∃ b2 s2, p ++ b' :: more = b2 :: s2 := by
        match p with
        | [] => exact ⟨_, _, rfl⟩
        | x :: p => exact ⟨_, _, rfl⟩
      rw [e2]
      exact h1 b' r' e b2 s2 more e2
    · match p, h2 with
      | [], _ => exact .inl rfl
      | x :: p, .inl h2 => exact .inl h2
      | x :: p, .inr ⟨e, he, h2⟩ => exact .inr ⟨e, he, h2 x (p ++ e) rfl⟩

theorem tries_len : ∀ (ls : List Lead) (b : UInt8) (s : List UInt8) (c : Nat) (t : List UInt8), tries ls b s = (some c, t) → t.length ≤ s.length := by
  intro ls
  induction ls with
  | nil => intro b s c t h; simp [tries] at h
  | cons l ls ih =>
    intro b s c t h
    simp only [tries] at h
    split at h
    · exact fol_len _ _ _ _ _ _ _ h
    · exact ih _ _ _ _ h
theorem pt_len {s t : List UInt8} {c : Nat} (h : pt s = (some c, t)) : t.length < s.length := by
  match s with
  | [] => simp [pt] at h
  | b :: s => have := tries_len _ _ _ _ _ h; simp; omega

theorem enc1 {c : Nat} (h : c < 128) : enc c = [UInt8.ofNat c] := by simp [enc, encN, h]
theorem enc2 {c : Nat} (h : ¬ c < 128) (h2 : c < 2048) : enc c = [UInt8.ofNat (192 + c / 64), UInt8.ofNat (128 + c % 64)] := by simp [enc, encN, h, h2]
theorem enc3 {c : Nat} (h : ¬ c < 2048) (h2 : c < 65536) : enc c = [UInt8.ofNat (224 + c / 4096), UInt8.ofNat (128 + c / 64 % 64), UInt8.ofNat (128 + c % 64)] := by
  have h0 : ¬ c < 128 := by omega
  simp [enc, encN, h, h2, h0]
theorem enc4 {c : Nat} (h : ¬ c < 65536) : enc c = [UInt8.ofNat (240 + c / 262144), UInt8.ofNat (128 + c / 4096 % 64), UInt8.ofNat (128 + c / 64 % 64), UInt8.ofNat (128 + c % 64)] := by
  have h0 : ¬ c < 128 := by omega
  have h1 : ¬ c < 2048 := by omega
  simp [enc, encN, h, h0, h1]
theorem pt_enc {c : Nat} (hw : Whole c) (t : List UInt8) : pt (enc c ++ t) = (some c, t) := by
  obtain ⟨w1, w2⟩ := hw
  by_cases h1 : c < 128
  · rw [enc1 h1]
    simp only [List.cons_append, List.nil_append, pt, tries, leads, fol, u8_of c (by omega)]
    rw [if_pos (by omega)]
    rfl
  · by_cases h2 : c < 2048
    · rw [enc2 h1 h2]
      simp only [List.cons_append, List.nil_append, pt, tries, leads, fol, u8_of (192 + c / 64) (by omega), u8_of (128 + c % 64) (by omega)]
      repeat (first | rw [if_neg (by omega)] | rw [if_pos (by omega)])
      simp only [Prod.mk.injEq, Option.some.injEq, and_true]; omega
    · by_cases h3 : c < 65536
      · rw [enc3 h2 h3]
        simp only [List.cons_append, List.nil_append, pt, tries, leads, fol, u8_of (224 + c / 4096) (by omega), u8_of (128 + c / 64 % 64) (by omega), u8_of (128 + c % 64) (by omega)]
        by_cases k1 : c < 4096
        · repeat (first | rw [if_neg (by omega)] | rw [if_pos (by omega)])
          simp only [Prod.mk.injEq, Option.some.injEq, and_true]; omega
        by_cases k2 : c < 53248
        · repeat (first | rw [if_neg (by omega)] | rw [if_pos (by omega)])
          simp only [Prod.mk.injEq, Option.some.injEq, and_true]; omega
        by_cases k3 : c < 57344
        · repeat (first | rw [if_neg (by omega)] | rw [if_pos (by omega)])
          simp only [Prod.mk.injEq, Option.some.injEq, and_true]; omega
        · repeat (first | rw [if_neg (by omega)] | rw [if_pos (by omega)])
          simp only [Prod.mk.injEq, Option.some.injEq, and_true]; omega
      · rw [enc4 h3]
        simp only [List.cons_append, List.nil_append, pt, tries, leads, fol, u8_of (240 + c / 262144) (by omega), u8_of (128 + c / 4096 % 64) (by omega), u8_of (128 + c / 64 % 64) (by omega), u8_of (128 + c % 64) (by omega)]
        by_cases k1 : c < 262144
        · repeat (first | rw [if_neg (by omega)] | rw [if_pos (by omega)])
          simp only [Prod.mk.injEq, Option.some.injEq, and_true]; omega
        by_cases k2 : c < 1048576
        · repeat (first | rw [if_neg (by omega)] | rw [if_pos (by omega)])
          simp only [Prod.mk.injEq, Option.some.injEq, and_true]; omega
        · repeat (first | rw [if_neg (by omega)] | rw [if_pos (by omega)])
          simp only [Prod.mk.injEq, Option.some.injEq, and_true]; omega

theorem fol1 {low high c : Nat} {s t : List UInt8} {x : Nat} (h : fol 1 low high c s = (some x, t)) : ∃ b, s = b :: t ∧ low ≤ b.toNat ∧ b.toNat ≤ high ∧ x = c * 64 + (b.toNat - 128) := by
  match s with
  | [] => simp [fol] at h
  | b :: s =>
    simp only [fol] at h
    split at h
    · rename_i hb
      simp only [Prod.mk.injEq, Option.some.injEq] at h
      exact ⟨b, by rw [h.2], hb.1, hb.2, h.1.symm⟩
    · simp at h
theorem fol2 {low high c : Nat} {s t : List UInt8} {x : Nat} (h : fol 2 low high c s = (some x, t)) : ∃ b d, s = b :: d :: t ∧ low ≤ b.toNat ∧ b.toNat ≤ high ∧ 128 ≤ d.toNat ∧ d.toNat ≤ 191 ∧ x = (c * 64 + (b.toNat - 128)) * 64 + (d.toNat - 128) := by
  match s with
  | [] => simp [fol] at h
  | b :: s =>
    rw [fol] at h
    split at h
    · rename_i hb
      obtain ⟨d, e, h1, h2, h3⟩ := fol1 h
      exact ⟨b, d, by rw [e], hb.1, hb.2, h1, h2, h3⟩
    · simp at h
theorem fol3 {low high c : Nat} {s t : List UInt8} {x : Nat} (h : fol 3 low high c s = (some x, t)) : ∃ b d f, s = b :: d :: f :: t ∧ low ≤ b.toNat ∧ b.toNat ≤ high ∧ 128 ≤ d.toNat ∧ d.toNat ≤ 191 ∧ 128 ≤ f.toNat ∧ f.toNat ≤ 191 ∧ x = ((c * 64 + (b.toNat - 128)) * 64 + (d.toNat - 128)) * 64 + (f.toNat - 128) := by
  match s with
  | [] => simp [fol] at h
  | b :: s =>
    rw [fol] at h
    split at h
    · rename_i hb
      obtain ⟨d, f, e, h1, h2, h3, h4, h5⟩ := fol2 h
      exact ⟨b, d, f, by rw [e], hb.1, hb.2, h1, h2, h3, h4, h5⟩
    · simp at h
theorem pt_some {s t : List UInt8} {c : Nat} (h : pt s = (some c, t)) : Whole c ∧ s = enc c ++ t := by
  match s with
  | [] => simp [pt] at h
  | b :: s =>
    simp only [pt, tries, leads] at h
    have hbl := b.toNat_lt
    have two : ∀ lo hi m, 128 ≤ lo → hi ≤ 191 → 194 ≤ b.toNat → b.toNat ≤ 223 → m = b.toNat - 192 → fol 1 lo hi m s = (some c, t) → Whole c ∧ b :: s = enc c ++ t := by
      intro lo hi m g1 g2 g3 g4 g5 h
      obtain ⟨d, e, h1, h2, h3⟩ := fol1 h
      rw [e]
      refine ⟨⟨by omega, by omega⟩, ?_⟩
      rw [enc2 (by omega) (by omega), ← u8_eq (b := b) (n := 192 + c / 64) (by omega), ← u8_eq (b := d) (n := 128 + c % 64) (by omega), List.cons_append, List.cons_append, List.nil_append]
    have three : ∀ lo hi m, 128 ≤ lo → hi ≤ 191 → m = b.toNat - 224 → 224 ≤ b.toNat → b.toNat ≤ 239 → (b.toNat = 224 → 160 ≤ lo) → (b.toNat = 237 → hi ≤ 159) → fol 2 lo hi m s = (some c, t) → Whole c ∧ b :: s = enc c ++ t := by
      intro lo hi m g1 g2 g3 g4 g5 g6 g7 h
      obtain ⟨d, f, e, h1, h2, h3, h4, h5⟩ := fol2 h
      rw [e]
      refine ⟨⟨by omega, by omega⟩, ?_⟩
      rw [enc3 (by omega) (by omega), ← u8_eq (b := b) (n := 224 + c / 4096) (by omega), ← u8_eq (b := d) (n := 128 + c / 64 % 64) (by omega), ← u8_eq (b := f) (n := 128 + c % 64) (by omega), List.cons_append, List.cons_append, List.cons_append, List.nil_append]
    have four : ∀ lo hi m, 128 ≤ lo → hi ≤ 191 → m = b.toNat - 240 → 240 ≤ b.toNat → b.toNat ≤ 244 → (b.toNat = 240 → 144 ≤ lo) → (b.toNat = 244 → hi ≤ 143) → fol 3 lo hi m s = (some c, t) → Whole c ∧ b :: s = enc c ++ t := by
      intro lo hi m g1 g2 g3 g4 g5 g6 g7 h
      obtain ⟨d, f, g, e, h1, h2, h3, h4, h5, h6, h7⟩ := fol3 h
      rw [e]
      refine ⟨⟨by omega, by omega⟩, ?_⟩
      rw [enc4 (by omega), ← u8_eq (b := b) (n := 240 + c / 262144) (by omega), ← u8_eq (b := d) (n := 128 + c / 4096 % 64) (by omega), ← u8_eq (b := f) (n := 128 + c / 64 % 64) (by omega), ← u8_eq (b := g) (n := 128 + c % 64) (by omega), List.cons_append, List.cons_append, List.cons_append, List.cons_append, List.nil_append]
    by_cases k1 : 0 ≤ b.toNat ∧ b.toNat ≤ 127
    · rw [if_pos k1] at h
      simp only [fol, Prod.mk.injEq, Option.some.injEq, Nat.sub_zero] at h
      obtain ⟨e, rfl⟩ := h
      refine ⟨⟨by omega, by omega⟩, ?_⟩
      rw [enc1 (by omega), u8_eq (b := b) (n := c) e]
      rfl
    rw [if_neg k1] at h
    by_cases k2 : 194 ≤ b.toNat ∧ b.toNat ≤ 223
    · rw [if_pos k2] at h; exact two _ _ _ (by omega) (by omega) k2.1 k2.2 rfl h
    rw [if_neg k2] at h
    by_cases k3 : 224 ≤ b.toNat ∧ b.toNat ≤ 224
    · rw [if_pos k3] at h; exact three _ _ _ (by omega) (by omega) rfl (by omega) (by omega) (by omega) (by omega) h
    rw [if_neg k3] at h
    by_cases k4 : 225 ≤ b.toNat ∧ b.toNat ≤ 236
    · rw [if_pos k4] at h; exact three _ _ _ (by omega) (by omega) rfl (by omega) (by omega) (by omega) (by omega) h
    rw [if_neg k4] at h
    by_cases k5 : 237 ≤ b.toNat ∧ b.toNat ≤ 237
    · rw [if_pos k5] at h; exact three _ _ _ (by omega) (by omega) rfl (by omega) (by omega) (by omega) (by omega) h
    rw [if_neg k5] at h
    by_cases k6 : 238 ≤ b.toNat ∧ b.toNat ≤ 239
    · rw [if_pos k6] at h; exact three _ _ _ (by omega) (by omega) rfl (by omega) (by omega) (by omega) (by omega) h
    rw [if_neg k6] at h
    by_cases k7 : 240 ≤ b.toNat ∧ b.toNat ≤ 240
    · rw [if_pos k7] at h; exact four _ _ _ (by omega) (by omega) rfl (by omega) (by omega) (by omega) (by omega) h
    rw [if_neg k7] at h
    by_cases k8 : 241 ≤ b.toNat ∧ b.toNat ≤ 243
    · rw [if_pos k8] at h; exact four _ _ _ (by omega) (by omega) rfl (by omega) (by omega) (by omega) (by omega) h
    rw [if_neg k8] at h
    by_cases k9 : 244 ≤ b.toNat ∧ b.toNat ≤ 244
    · rw [if_pos k9] at h; exact four _ _ _ (by omega) (by omega) rfl (by omega) (by omega) (by omega) (by omega) h
    rw [if_neg k9] at h
    simp at h

theorem ofn_more : ∀ (n : Nat) (s : List UInt8), s.length ≤ n → ofn n s = ofm s := by
  have key : ∀ (n m : Nat) (s : List UInt8), s.length ≤ n → s.length ≤ m → ofn n s = ofn m s := by
    intro n
    induction n with
    | zero =>
      intro m s h1 h2
      obtain rfl := List.eq_nil_of_length_eq_zero (by omega : s.length = 0)
      cases m <;> simp [ofn]
    | succ n ih =>
      intro m s h1 h2
      match m with
      | 0 =>
        obtain rfl := List.eq_nil_of_length_eq_zero (by omega : s.length = 0)
        simp [ofn]
      | m + 1 =>
        simp only [ofn]
        split
        · rfl
        · rcases hp : pt s with ⟨_ | c, t⟩
          · rfl
          · have := pt_len hp
            simp only [ih m t (by omega) (by omega)]
  intro n s h
  exact key n s.length s h (Nat.le_refl _)
theorem ofm_nil : ofm [] = ([], none) := rfl
theorem ofm_ok {s t : List UInt8} {c : Nat} (h : pt s = (some c, t)) : ofm s = (c :: (ofm t).1, (ofm t).2) := by
  match s with
  | [] => simp [pt] at h
  | b :: s =>
    have hl := pt_len h
    unfold ofm
    simp only [List.length_cons, ofn, List.isEmpty_cons, h]
    rw [ofn_more s.length t (by simp at hl; omega)]
    rfl
theorem ofm_bad {s r : List UInt8} (hs : s ≠ []) (h : pt s = (none, r)) : ofm s = ([], some r) := by
  match s with
  | [] => exact absurd rfl hs
  | b :: s =>
    unfold ofm
    simp only [List.length_cons, ofn, List.isEmpty_cons, h]
    rfl

theorem ofm_append : ∀ (n : Nat) (s t : List UInt8) (l : List Nat), s.length ≤ n → ofm s = (l, none) → ofm (s ++ t) = (l ++ (ofm t).1, (ofm t).2) := by
  intro n
  induction n with
  | zero =>
    intro s t l hn h
    obtain rfl := List.eq_nil_of_length_eq_zero (by omega : s.length = 0)
    rw [ofm_nil] at h
    simp only [Prod.mk.injEq] at h
    rw [← h.1]; rfl
  | succ n ih =>
    intro s t l hn h
    by_cases hs : s = []
    · subst hs
      rw [ofm_nil] at h
      simp only [Prod.mk.injEq] at h
      rw [← h.1]; rfl
    · rcases hp : pt s with ⟨_ | c, u⟩
      · rw [ofm_bad hs hp] at h; simp at h
      · have hl := pt_len hp
        rw [ofm_ok hp] at h
        obtain ⟨hw, hse⟩ := pt_some hp
        simp only [Prod.mk.injEq] at h
        have h2 := ih u t (ofm u).1 (by omega) (by rw [← h.2])
        rw [hse, List.append_assoc, ofm_ok (pt_enc hw (u ++ t)), h2, ← h.1]
        rfl
theorem ofm_encs : ∀ (l : List Nat), (∀ c ∈ l, Whole c) → ofm (encs l) = (l, none) := by
  intro l
  induction l with
  | nil => intro _; rfl
  | cons c l ih =>
    intro h
    have e : encs (c :: l) = enc c ++ encs l := by simp [encs]
    rw [e, ofm_ok (pt_enc (h c (by simp)) _), ih (fun d hd => h d (by simp [hd]))]
theorem ofm_text : ∀ (n : Nat) (s : List UInt8) (l : List Nat), s.length ≤ n → ofm s = (l, none) → s = encs l ∧ ∀ c ∈ l, Whole c := by
  intro n
  induction n with
  | zero =>
    intro s l hn h
    obtain rfl := List.eq_nil_of_length_eq_zero (by omega : s.length = 0)
    rw [ofm_nil] at h
    simp only [Prod.mk.injEq] at h
    rw [← h.1]; exact ⟨rfl, by simp⟩
  | succ n ih =>
    intro s l hn h
    by_cases hs : s = []
    · subst hs
      rw [ofm_nil] at h
      simp only [Prod.mk.injEq] at h
      rw [← h.1]; exact ⟨rfl, by simp⟩
    · rcases hp : pt s with ⟨_ | c, u⟩
      · rw [ofm_bad hs hp] at h; simp at h
      · have hl := pt_len hp
        rw [ofm_ok hp] at h
        obtain ⟨hw, hse⟩ := pt_some hp
        simp only [Prod.mk.injEq] at h
        obtain ⟨h3, h4⟩ := ih u (ofm u).1 (by omega) (by rw [← h.2])
        rw [← h.1]
        refine ⟨?_, ?_⟩
        · have e : encs (c :: (ofm u).1) = enc c ++ encs (ofm u).1 := by simp [encs]
          rw [e, ← h3]; exact hse
        · intro d hd
          rcases List.mem_cons.1 hd with rfl | hd
          · exact hw
          · exact h4 d hd
/-- where a text is not right: what is right ahead, and what is read of one more code point. -/
theorem ofm_err : ∀ (n : Nat) (s : List UInt8) (l : List Nat) (r : List UInt8), s.length ≤ n → ofm s = (l, some r) →
    ∃ q u, s = q ++ u ∧ ofm q = (l, none) ∧ u ≠ [] ∧ pt u = (none, r) := by
  intro n
  induction n with
  | zero =>
    intro s l r hn h
    obtain rfl := List.eq_nil_of_length_eq_zero (by omega : s.length = 0)
    rw [ofm_nil] at h
    simp at h
  | succ n ih =>
    intro s l r hn h
    by_cases hs : s = []
    · subst hs
      rw [ofm_nil] at h
      simp at h
    · rcases hp : pt s with ⟨_ | c, u⟩
      · rw [ofm_bad hs hp] at h
        simp only [Prod.mk.injEq, Option.some.injEq] at h
        obtain ⟨rfl, rfl⟩ := h
        exact ⟨[], s, rfl, rfl, hs, hp⟩
      · have hl := pt_len hp
        rw [ofm_ok hp] at h
        obtain ⟨hw, hse⟩ := pt_some hp
        simp only [Prod.mk.injEq] at h
        obtain ⟨q, v, e1, e2, e3, e4⟩ := ih u (ofm u).1 r (by omega) (by rw [← h.2])
        refine ⟨enc c ++ q, v, by rw [hse, List.append_assoc, ← e1], ?_, e3, e4⟩
        rw [ofm_ok (pt_enc hw q), e2, ← h.1]
theorem ofm_len (s : List UInt8) : (ofm s).1.length ≤ s.length := by
  have h : ∀ (n : Nat) (s : List UInt8), s.length ≤ n → (ofm s).1.length ≤ s.length := by
    intro n
    induction n with
    | zero =>
      intro s hn
      obtain rfl := List.eq_nil_of_length_eq_zero (by omega : s.length = 0)
      simp [ofm_nil]
    | succ n ih =>
      intro s hn
      by_cases hs : s = []
      · subst hs; simp [ofm_nil]
      · rcases hp : pt s with ⟨_ | c, u⟩
        · rw [ofm_bad hs hp]; simp
        · have hl := pt_len hp
          rw [ofm_ok hp]
          have := ih u (by omega)
          simp; omega
  exact h _ s (Nat.le_refl _)
theorem ofm_left {s r : List UInt8} {l : List Nat} (h : ofm s = (l, some r)) : r.length ≤ s.length := by
  obtain ⟨q, u, rfl, _, _, hp⟩ := ofm_err s.length s l r (Nat.le_refl _) h
  obtain ⟨p, rfl, _⟩ := pt_none hp
  simp; omega
end Tnd
