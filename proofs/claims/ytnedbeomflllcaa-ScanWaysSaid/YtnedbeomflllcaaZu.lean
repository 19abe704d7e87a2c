/- Plain: a number's hexadecimal digits; that each way to write a code point as an escape is read as it. -/
import Derived.Test.YtnedbeomflllcaaZr
namespace Go.Proofs.Ytnedbeomflllcaa
open Go.RowKit Tnd

def dgt (d : Nat) : Int := if d < 10 then 48 + (d : Int) else 87 + (d : Int)
theorem wth_dgt {d : Nat} (h : d < 16) : wth (dgt d) = d := by
  unfold dgt wth
  split
  · rw [if_pos (by omega)]; omega
  · rw [if_neg (by omega), if_pos (by omega)]; omega
/-- a number's hexadecimal digits, so many at least. -/
def hxs (n l : Nat) : List Int := if h : n = 0 ∧ l = 0 then [] else hxs (n / 16) (l - 1) ++ [dgt (n % 16)]
termination_by n + l
decreasing_by omega
theorem hxs_nil : hxs 0 0 = [] := by unfold hxs; simp
theorem hxs_step {n l : Nat} (h : ¬ (n = 0 ∧ l = 0)) : hxs n l = hxs (n / 16) (l - 1) ++ [dgt (n % 16)] := by
  rw [hxs, dif_neg h]
def vlD (a : Int) (L : List Int) : Int := L.foldl (fun a c => a * 16 + wth c) a
theorem vlD_append (a : Int) (L : List Int) (c : Int) : vlD a (L ++ [c]) = vlD a L * 16 + wth c := by simp [vlD, List.foldl_append]
theorem hxs_prop : ∀ (m n l : Nat), n + l ≤ m → (∀ c ∈ hxs n l, wth c < 16) ∧ vlD 0 (hxs n l) = n ∧ l ≤ (hxs n l).length := by
  intro m
  induction m with
  | zero =>
    intro n l h
    have e1 : n = 0 := by omega
    have e2 : l = 0 := by omega
    subst e1 e2
    rw [hxs_nil]; simp [vlD]
  | succ m ih =>
    intro n l h
    by_cases h0 : n = 0 ∧ l = 0
    · obtain ⟨rfl, rfl⟩ := h0
      rw [hxs_nil]; simp [vlD]
    · rw [hxs_step h0]
      obtain ⟨i1, i2, i3⟩ := ih (n / 16) (l - 1) (by omega)
      have hd : n % 16 < 16 := Nat.mod_lt _ (by decide)
      refine ⟨fun c hc => ?_, ?_, ?_⟩
      · rw [List.mem_append] at hc
        rcases hc with hc | hc
        · exact i1 c hc
        · rw [List.mem_singleton] at hc
          rw [hc, wth_dgt hd]; omega
      · rw [vlD_append, i2, wth_dgt hd]; omega
      · rw [List.length_append]; simp only [List.length_cons, List.length_nil]; omega
theorem hxs_len : ∀ (m n l : Nat), n < 16 ^ m → l ≤ m → (hxs n l).length ≤ m := by
  intro m
  induction m with
  | zero =>
    intro n l h h2
    have e1 : n = 0 := by simpa using h
    have e2 : l = 0 := by omega
    subst e1 e2
    rw [hxs_nil]; simp
  | succ m ih =>
    intro n l h h2
    by_cases h0 : n = 0 ∧ l = 0
    · obtain ⟨rfl, rfl⟩ := h0
      rw [hxs_nil]; simp
    · rw [hxs_step h0, List.length_append]
      have := ih (n / 16) (l - 1) (by rw [Nat.pow_succ] at h; omega) (by omega)
      simp only [List.length_cons, List.length_nil]; omega
theorem hxs_at {m n : Nat} (h : n < 16 ^ m) : (hxs n m).length = m := Nat.le_antisymm (hxs_len m n m h (Nat.le_refl _)) (hxs_prop _ n m (Nat.le_refl _)).2.2
theorem vlD_ge : ∀ (L : List Int) (a : Int), 0 ≤ a → a ≤ vlD a L
  | [], a, _ => Int.le_refl _
  | c :: L, a, h => by
    have h1 := (wth_range c).1
    have := vlD_ge L (a * 16 + wth c) (by omega)
    have e : vlD a (c :: L) = vlD (a * 16 + wth c) L := rfl
    rw [e]; omega
theorem numR_app (gr : Int) (r : List Int) : ∀ (L : List Int) (m : Nat) (a : Int), (∀ c ∈ L, wth c < 16) → L.length ≤ m → 0 ≤ a → vlD a L ≤ gr →
    numR 16 gr m a (L ++ r) = ((numR 16 gr (m - L.length) (vlD a L) r).1, (numR 16 gr (m - L.length) (vlD a L) r).2 + L.length)
  | [], m, a, _, _, _, _ => by simp [vlD]
  | c :: L, 0, a, _, h, _, _ => by simp at h
  | c :: L, m + 1, a, h1, h2, h3, h4 => by
    have hr := wth_range c
    have hc := h1 c (by simp)
    have e : vlD a (c :: L) = vlD (a * 16 + wth c) L := rfl
    rw [e] at h4 ⊢
    have hge := vlD_ge L (a * 16 + wth c) (by omega)
    have hs : stp 16 gr a (wth c) = a * 16 + wth c := by unfold stp; rw [if_neg (by omega)]
    have ih := numR_app gr r L m (a * 16 + wth c) (fun x hx => h1 x (by simp [hx])) (by simpa using h2) (by omega) h4
    simp only [List.cons_append, numR]
    rw [if_pos hc, hs, ih]
    simp only [List.length_cons]
    rw [show m + 1 - (L.length + 1) = m - L.length by omega]
    rfl
theorem numR_stop (gr a : Int) (r : List Int) : ∀ m, numR 16 gr m a (125 :: r) = (a, 0)
  | 0 => rfl
  | m + 1 => by simp only [numR]; rw [if_neg (by decide)]
theorem hexR_app {m n : Nat} (h : n < 16 ^ m) (hg : n ≤ 1114112) (r : List Int) : hexR m (hxs n m ++ r) = some (n : Int) := by
  obtain ⟨h1, h2, h3⟩ := hxs_prop _ n m (Nat.le_refl _)
  have hl := hxs_at h
  have := numR_app 1114112 r (hxs n m) m 0 h1 (by omega) (by omega) (by rw [h2]; omega)
  unfold hexR
  rw [this, hl, Nat.sub_self, h2]
  simp [numR]
theorem hxs_dig {n l : Nat} {c : Int} {t : List Int} (h : hxs n l = c :: t) : wth c < 16 := (hxs_prop _ n l (Nat.le_refl _)).1 c (by rw [h]; simp)
theorem hxs_pre {n l : Nat} (hl : 0 < l) (r : List Int) : pre [123] (hxs n l ++ r) = false := by
  have h3 := (hxs_prop _ n l (Nat.le_refl _)).2.2
  match hL : hxs n l with
  | [] => rw [hL] at h3; simp at h3; omega
  | c :: t =>
    have := hxs_dig hL
    have hne : c ≠ 123 := by rintro rfl; exact absurd this (by decide)
    simp [pre, hne]
theorem plain_u : plainR 117 = none := by decide
theorem plain_x : plainR 120 = none := by decide
theorem plain_c : plainR 99 = none := by decide

/-- a way to write a code point: with whatever stands behind it is read as that, whole. -/
def Way (p : Nat) (r : List Int) (W : List Int) : Prop := escR (W ++ r) = some ((p : Int), W.length) ∧ W.length ≤ 20

theorem way_brace (p l : Nat) (r : List Int) (hp : p ≤ 1114111) (h0 : 0 < l) (hl : l ≤ 9) : Way p r ([117, 123] ++ hxs p l ++ [125]) := by
  obtain ⟨h1, h2, h3⟩ := hxs_prop _ p l (Nat.le_refl _)
  have hle := hxs_len 9 p l (by omega) (by omega)
  refine ⟨?_, by simp only [List.length_append, List.length_cons, List.length_nil]; omega⟩
  have e : [117, 123] ++ hxs p l ++ [125] ++ r = 117 :: 123 :: (hxs p l ++ 125 :: r) := by simp
  rw [e]
  have hn := numR_app 1114112 (125 :: r) (hxs p l) (hxs p l ++ 125 :: r).length 0 h1 (by simp) (by omega) (by rw [h2]; omega)
  rw [h2, numR_stop] at hn
  simp only [Nat.zero_add] at hn
  have hb : brcR (hxs p l ++ 125 :: r) = some ((p : Int), (hxs p l).length + 1) := by
    unfold brcR
    rw [hn]
    simp only
    rw [if_neg (by omega), List.drop_left]
    simp [pre]
  simp only [escR, escT, plain_u, lngR]
  rw [if_neg (by decide), if_neg (by decide), if_neg (by decide), if_pos trivial, if_pos (by simp [pre])]
  rw [show (123 :: (hxs p l ++ 125 :: r)).drop 1 = hxs p l ++ 125 :: r from rfl, hb]
  simp [Nat.add_comm, Nat.add_left_comm]
theorem way_two (p : Nat) (r : List Int) (hp : p < 256) : Way p r ([120] ++ hxs p 2) := by
  have hl := hxs_at (m := 2) (n := p) (by omega)
  refine ⟨?_, by simp only [List.length_append, List.length_cons, List.length_nil]; omega⟩
  have e : [120] ++ hxs p 2 ++ r = 120 :: (hxs p 2 ++ r) := by simp
  rw [e]
  simp only [escR, escT, plain_x]
  rw [if_neg (by decide), if_neg (by decide), if_pos trivial, hexR_app (by omega) (by omega)]
  simp [hl]
theorem way_four (p : Nat) (r : List Int) (hp : p < 65536) (hr : p < 55296 ∨ 56319 < p ∨ r = [] ∨ gi r 0 ≠ 92) : Way p r ([117] ++ hxs p 4) := by
  have hl := hxs_at (m := 4) (n := p) (by omega)
  refine ⟨?_, by simp only [List.length_append, List.length_cons, List.length_nil]; omega⟩
  have e : [117] ++ hxs p 4 ++ r = 117 :: (hxs p 4 ++ r) := by simp
  rw [e]
  have hlow : lowR p r = none := by
    unfold lowR
    split
    · rename_i hpre
      split
      · rename_i lo _
        rw [if_neg ?_]
        intro h
        rcases hr with h1 | h1 | h1 | h1
        · omega
        · omega
        · rw [h1] at hpre; simp [pre] at hpre
        · match r, hpre, h1 with
          | c :: t, hpre, h1 =>
            simp [pre] at hpre
            exact h1 (by simpa [gi] using hpre.1)
      · rfl
    · rfl
  have hd : (hxs p 4 ++ r).drop 4 = r := by
    have := List.drop_left (l₁ := hxs p 4) (l₂ := r)
    rw [hl] at this; exact this
  simp only [escR, escT, plain_u, lngR]
  rw [if_neg (by decide), if_neg (by decide), if_neg (by decide), if_pos trivial, hxs_pre (by decide), if_neg (by decide), hexR_app (by omega) (by omega), hd]
  simp only [hlow]
  simp [hl]
theorem way_pair (p : Nat) (r : List Int) (hp : p ≤ 1114111) (h2 : 65535 < p) : Way p r ([117] ++ hxs (55296 + (p - 65536) / 1024) 4 ++ [92, 117] ++ hxs (56320 + (p - 65536) % 1024) 4) := by
  obtain ⟨hi, hhi⟩ : ∃ x, x = 55296 + (p - 65536) / 1024 := ⟨_, rfl⟩
  obtain ⟨lo, hlo⟩ : ∃ x, x = 56320 + (p - 65536) % 1024 := ⟨_, rfl⟩
  rw [← hhi, ← hlo]
  have b1 : hi < 56320 := by omega
  have b2 : lo ≤ 57343 := by omega
  have hl := hxs_at (m := 4) (n := hi) (by omega)
  have hl2 := hxs_at (m := 4) (n := lo) (by omega)
  refine ⟨?_, by simp only [List.length_append, List.length_cons, List.length_nil]; omega⟩
  have e : [117] ++ hxs hi 4 ++ [92, 117] ++ hxs lo 4 ++ r = 117 :: (hxs hi 4 ++ 92 :: 117 :: (hxs lo 4 ++ r)) := by simp
  rw [e]
  have hd : (hxs hi 4 ++ 92 :: 117 :: (hxs lo 4 ++ r)).drop 4 = 92 :: 117 :: (hxs lo 4 ++ r) := by
    have := List.drop_left (l₁ := hxs hi 4) (l₂ := 92 :: 117 :: (hxs lo 4 ++ r))
    rw [hl] at this; exact this
  have hlow : lowR hi (92 :: 117 :: (hxs lo 4 ++ r)) = some (p : Int) := by
    unfold lowR
    rw [if_pos (by simp [pre]), show (92 :: 117 :: (hxs lo 4 ++ r)).drop 2 = hxs lo 4 ++ r from rfl, hexR_app (by omega) (by omega)]
    simp only
    rw [if_pos (by omega)]
    unfold pairV
    congr 1
    omega
  simp only [escR, escT, plain_u, lngR]
  rw [if_neg (by decide), if_neg (by decide), if_neg (by decide), if_pos trivial, hxs_pre (by decide), if_neg (by decide), hexR_app (by omega) (by omega), hd]
  simp only [hlow]
  simp [hl, hl2]
theorem ctl_upper : ∀ p : Fin 26, amg ((64 : Int) + ((p.1 + 1 : Nat) : Int)) letS = true ∧ ((64 : Int) + ((p.1 + 1 : Nat) : Int)) % 32 = ((p.1 + 1 : Nat) : Int) ∧ amg ((96 : Int) + ((p.1 + 1 : Nat) : Int)) letS = true ∧ ((96 : Int) + ((p.1 + 1 : Nat) : Int)) % 32 = ((p.1 + 1 : Nat) : Int) := by decide
theorem way_ctl (p : Nat) (r : List Int) (h0 : 0 < p) (h1 : p < 27) : Way p r [99, 64 + (p : Int)] ∧ Way p r [99, 96 + (p : Int)] := by
  obtain ⟨a1, a2, a3, a4⟩ := ctl_upper ⟨p - 1, by omega⟩
  simp only [show p - 1 + 1 = p by omega] at a1 a2 a3 a4
  refine ⟨⟨?_, by simp⟩, ⟨?_, by simp⟩⟩
  · simp only [List.cons_append, List.nil_append, escR, escT, plain_c, ctlR, a1, a2]; rfl
  · simp only [List.cons_append, List.nil_append, escR, escT, plain_c, ctlR, a3, a4]; rfl
theorem own_plain : ∀ c ∈ ownS, plainR (c.toNat : Int) = some (c.toNat : Int) := by decide
theorem way_own (p : Nat) (r : List Int) (i : Nat) (hi : i < 15) (h : gi (sg ownS) i = (p : Int)) : Way p r [(p : Int)] := by
  have hm : ∃ c ∈ ownS, (p : Int) = (c.toNat : Int) := by
    have hl : ownS.length = 15 := rfl
    refine ⟨ownS[i]'(by omega), List.getElem_mem _, ?_⟩
    rw [← h]
    unfold gi sg
    rw [List.getD_eq_getElem?_getD, List.getElem?_map, List.getElem?_eq_getElem (by omega)]; rfl
  obtain ⟨c, hc, e⟩ := hm
  refine ⟨?_, by simp⟩
  simp only [List.cons_append, List.nil_append, escR, escT]
  rw [e, own_plain c hc]; rfl
end Go.Proofs.Ytnedbeomflllcaa
