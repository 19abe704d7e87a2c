/- Plain: how many classes there are, told by a key; the classes of single code points, of halves, of two sets within each other. Of no program. -/
import Derived.Test.YtildfjlaieaadaaGreatQh

namespace Tnr

/-- one list of different numbers below m is no longer than m. -/
theorem few_below : ∀ (m : Nat) (l : List Nat), l.Nodup → (∀ x ∈ l, x < m) → l.length ≤ m
  | 0, l, _, h => by
    match l with
    | [] => simp
    | x :: _ => exact absurd (h x (by simp)) (by omega)
  | m + 1, l, hn, h => by
    have h2 : (l.filter (· ≠ m)).length ≤ m := few_below m _ (hn.filter _) (fun x hx => by
      rw [List.mem_filter] at hx
      have := h x hx.1
      have := of_decide_eq_true hx.2
      omega)
    have h3 : l.length ≤ (l.filter (· ≠ m)).length + 1 := by
      by_cases hm : m ∈ l
      · have e1 := hn.erase_eq_filter m
        have e2 := List.length_erase_of_mem hm
        have e3 : (l.filter (· ≠ m)).length = (l.erase m).length := by
          rw [e1]; congr 1; apply List.filter_congr; intro x _; by_cases e : x = m <;> simp [e]
        have := List.length_pos_of_mem hm
        omega
      · have : l.filter (· ≠ m) = l := by
          rw [List.filter_eq_self]
          intro x hx
          simp only [ne_eq, decide_not, Bool.not_eq_eq_eq_not, Bool.not_true, decide_eq_false_iff_not]
          rintro rfl; exact hm hx
        rw [this]; omega
    omega
/-- a key tells apart what the sets tell apart. -/
structure Key (S : List (List R)) (key : Int → Nat) (m : Nat) : Prop where
  lt : ∀ c, Pt c → key c < m
  tell : ∀ a b, Pt a → Pt b → (key a = key b ↔ alike S a b)
  all : ∀ i, i < m → ∃ c, Pt c ∧ key c = i
theorem Key.few {S : List (List R)} {key : Int → Nat} {m : Nat} (h : Key S key m) (P : List Int) (hp : ∀ c ∈ P, Pt c) (hd : P.Pairwise fun a b => ¬ alike S a b) : P.length ≤ m := by
  have h1 : (P.map key).Nodup := by
    rw [List.Nodup, List.pairwise_map]
    refine hd.imp_of_mem ?_
    intro a b ha hb hn e
    exact hn ((h.tell a b (hp a ha) (hp b hb)).1 e)
  have := few_below m (P.map key) h1 (fun x hx => by
    rw [List.mem_map] at hx
    obtain ⟨c, hc, rfl⟩ := hx
    exact h.lt c (hp c hc))
  simpa using this
theorem Key.more {S : List (List R)} {key : Int → Nat} {m : Nat} (h : Key S key m) (hm : More S) : 61 ≤ m := by
  obtain ⟨P, h1, h2, h3⟩ := hm
  have := h.few P h2 h3
  omega
/-- some points with keys in order. -/
theorem reps (f : Int → Nat) : ∀ (m : Nat), (∀ i, i < m → ∃ c, Pt c ∧ f c = i) → ∃ P : List Int, P.length = m ∧ (∀ c ∈ P, Pt c) ∧ (∀ c ∈ P, f c < m) ∧ P.Pairwise fun a b => f a ≠ f b
  | 0, _ => ⟨[], rfl, by simp, by simp, List.Pairwise.nil⟩
  | m + 1, h => by
    obtain ⟨P, h1, h2, h3, h4⟩ := reps f m (fun i hi => h i (by omega))
    obtain ⟨c, hc, e⟩ := h m (by omega)
    refine ⟨c :: P, by simp [h1], fun x hx => ?_, fun x hx => ?_, List.Pairwise.cons (fun x hx => ?_) h4⟩
    · rcases List.mem_cons.1 hx with rfl | hx
      · exact hc
      · exact h2 x hx
    · rcases List.mem_cons.1 hx with rfl | hx
      · omega
      · have := h3 x hx; omega
    · have := h3 x hx; omega
theorem Key.parts {S L : List (List R)} {key : Int → Nat} {m : Nat} (h : Key S key m) (hp : Parts S L) : L.length = m := by
  obtain ⟨num, hn, hr⟩ := hp
  apply Nat.le_antisymm
  · obtain ⟨P, h1, h2, _, h4⟩ := reps num L.length hr.all
    have := h.few P h2 (h4.imp_of_mem fun {a b} ha hb hne ha2 => hne ((hn.tell a b (h2 a ha) (h2 b hb)).2 ha2))
    omega
  · obtain ⟨P, h1, h2, _, h4⟩ := reps key m h.all
    have hk : Key S num L.length := ⟨hr.lt, hn.tell, hr.all⟩
    have := hk.few P h2 (h4.imp_of_mem fun {a b} ha hb hne ha2 => hne ((h.tell a b (h2 a ha) (h2 b hb)).2 ha2))
    omega

/-! ### single code points -/
def ones (n : Nat) : List (List R) := (List.range n).map fun (k : Nat) => [(5 * (k : Int) + 3, 5 * (k : Int) + 3)]
theorem ones_succ (n : Nat) : ones (n + 1) = ones n ++ [[(5 * (n : Int) + 3, 5 * (n : Int) + 3)]] := by unfold ones; rw [List.range_succ, List.map_append]; rfl
theorem ones_length (n : Nat) : (ones n).length = n := by simp [ones]
theorem ones_flat : ∀ n, (ones n).flatten.length = n
  | 0 => rfl
  | n + 1 => by rw [ones_succ, List.flatten_append, List.length_append, ones_flat n]; rfl
theorem ones_one {n : Nat} {l : List R} (h : l ∈ ones n) : l.length = 1 := by
  obtain ⟨k, _, rfl⟩ := List.mem_map.1 h
  rfl
def oneKey (n : Nat) (c : Int) : Nat := if c % 5 = 3 ∧ c / 5 < n then (c / 5).toNat else n
theorem has_one (a c : Int) : Has [(a, a)] c ↔ Pt c ∧ c = a := by
  unfold Has Pt
  rw [cov_cons]
  simp only [cov_nil, or_false]
  constructor
  · rintro ⟨h1, h2, h3, h4⟩; exact ⟨⟨h1, h2⟩, by omega⟩
  · rintro ⟨⟨h1, h2⟩, rfl⟩; exact ⟨h1, h2, by omega, by omega⟩
theorem ones_key (n : Nat) (hn : n ≤ 100) : Key (ones n) (oneKey n) (n + 1) := by
  refine ⟨fun c hc => ?_, fun a b ha hb => ?_, fun i hi => ?_⟩
  · unfold oneKey; have := hc.1; split <;> omega
  · have hal : alike (ones n) a b ↔ ∀ k, k < n → (a = 5 * (k : Int) + 3 ↔ b = 5 * (k : Int) + 3) := by
      unfold alike ones
      constructor
      · intro h k hk
        have := h [(5 * (k : Int) + 3, 5 * (k : Int) + 3)] (List.mem_map.2 ⟨k, List.mem_range.2 hk, rfl⟩)
        rw [has_one, has_one] at this
        constructor
        · intro e; exact (this.1 ⟨ha, e⟩).2
        · intro e; exact (this.2 ⟨hb, e⟩).2
      · intro h s hs
        obtain ⟨k, hk, rfl⟩ := List.mem_map.1 hs
        rw [List.mem_range] at hk
        rw [has_one, has_one]
        have := h k hk
        constructor
        · rintro ⟨_, e⟩; exact ⟨hb, this.1 e⟩
        · rintro ⟨_, e⟩; exact ⟨ha, this.2 e⟩
    rw [hal]
    have ha1 := ha.1
    have hb1 := hb.1
    unfold oneKey
    constructor
    · intro h k hk
      split at h <;> split at h <;> constructor <;> intro e <;> omega
    · intro h
      by_cases h1 : a % 5 = 3 ∧ a / 5 < n
      · have e := (h (a / 5).toNat (by omega)).1 (by omega)
        rw [if_pos h1, if_pos (by omega)]; omega
      · by_cases h2 : b % 5 = 3 ∧ b / 5 < n
        · have e := (h (b / 5).toNat (by omega)).2 (by omega)
          exact absurd ⟨by omega, by omega⟩ h1
        · rw [if_neg h1, if_neg h2]
  · by_cases h : i < n
    · refine ⟨5 * (i : Int) + 3, ⟨by omega, by omega⟩, ?_⟩
      unfold oneKey
      rw [if_pos (by omega)]; omega
    · refine ⟨0, ⟨by omega, by omega⟩, ?_⟩
      unfold oneKey
      rw [if_neg (by omega)]; omega

/-! ### halves of what others leave -/
def half (k : Nat) : List R := (List.range (256 / 2 ^ (k + 1))).map fun (j : Nat) => (((j * 2 ^ (k + 1) : Nat) : Int), ((j * 2 ^ (k + 1) + 2 ^ k - 1 : Nat) : Int))
def halves (n : Nat) : List (List R) := (List.range n).map half
theorem halves_succ (n : Nat) : halves (n + 1) = halves n ++ [half n] := by unfold halves; rw [List.range_succ, List.map_append]; rfl
theorem halves_length (n : Nat) : (halves n).length = n := by simp [halves]
theorem half_length (k : Nat) : (half k).length = 256 / 2 ^ (k + 1) := by simp [half]
theorem half_take {k j : Nat} (h : j < 256 / 2 ^ (k + 1)) : (half k).take (j + 1) = (half k).take j ++ [(((j * 2 ^ (k + 1) : Nat) : Int), ((j * 2 ^ (k + 1) + 2 ^ k - 1 : Nat) : Int))] := by
  rw [List.take_add_one, List.getElem?_eq_getElem (by rw [half_length]; exact h)]
  simp [half]
theorem half_all {k j : Nat} (h : 256 / 2 ^ (k + 1) ≤ j) : (half k).take j = half k := List.take_of_length_le (by rw [half_length]; exact h)
theorem half_more {k j : Nat} {a b : Int} {l : List R} (hl : l = (half k).take j) (h : j < 256 / 2 ^ (k + 1)) (ha : a = ((j * 2 ^ (k + 1) : Nat) : Int)) (hb : b = ((j * 2 ^ (k + 1) + 2 ^ k - 1 : Nat) : Int)) : l ++ [(a, b)] = (half k).take (j + 1) := by
  rw [half_take h, hl, ha, hb]
theorem halves_flat : ∀ n : Fin 8, (halves n.1).flatten.length ≤ 10000 := by decide +kernel
def halfKey (n : Nat) (c : Int) : Nat := if c < 256 then c.toNat % 2 ^ n else 2 ^ n - 1
theorem has_half (k : Nat) (hk : k < 7) (c : Int) (hc : Pt c) : Has (half k) c ↔ c < 256 ∧ c.toNat.testBit k = false := by
  obtain ⟨n, rfl⟩ : ∃ n : Nat, c = (n : Int) := ⟨c.toNat, by have := hc.1; omega⟩
  have hh : Has (half k) (n : Int) ↔ ∃ j : Nat, j < 256 / 2 ^ (k + 1) ∧ j * 2 ^ (k + 1) ≤ n ∧ n ≤ j * 2 ^ (k + 1) + 2 ^ k - 1 := by
    unfold Has Cov half
    constructor
    · rintro ⟨_, _, r, hr, h⟩
      obtain ⟨j, hj, rfl⟩ := List.mem_map.1 hr
      simp only [Int.ofNat_le] at h
      exact ⟨j, List.mem_range.1 hj, h⟩
    · rintro ⟨j, hj, h⟩
      exact ⟨hc.1, hc.2, _, List.mem_map.2 ⟨j, List.mem_range.2 hj, rfl⟩, Int.ofNat_le.2 h.1, Int.ofNat_le.2 h.2⟩
  rw [hh, Int.toNat_natCast, Nat.testBit_eq_decide_div_mod_eq, decide_eq_false_iff_not]
  have hk' : k = 0 ∨ k = 1 ∨ k = 2 ∨ k = 3 ∨ k = 4 ∨ k = 5 ∨ k = 6 := by omega
  rcases hk' with rfl | rfl | rfl | rfl | rfl | rfl | rfl
  · simp only [Nat.reduceAdd, Nat.reducePow, Nat.reduceDiv]
    constructor
    · rintro ⟨j, h1, h2, h3⟩; omega
    · rintro ⟨h1, h2⟩; exact ⟨n / 2, by omega⟩
  · simp only [Nat.reduceAdd, Nat.reducePow, Nat.reduceDiv]
    constructor
    · rintro ⟨j, h1, h2, h3⟩; omega
    · rintro ⟨h1, h2⟩; exact ⟨n / 4, by omega⟩
  · simp only [Nat.reduceAdd, Nat.reducePow, Nat.reduceDiv]
    constructor
    · rintro ⟨j, h1, h2, h3⟩; omega
    · rintro ⟨h1, h2⟩; exact ⟨n / 8, by omega⟩
  · simp only [Nat.reduceAdd, Nat.reducePow, Nat.reduceDiv]
    constructor
    · rintro ⟨j, h1, h2, h3⟩; omega
    · rintro ⟨h1, h2⟩; exact ⟨n / 16, by omega⟩
  · simp only [Nat.reduceAdd, Nat.reducePow, Nat.reduceDiv]
    constructor
    · rintro ⟨j, h1, h2, h3⟩; omega
    · rintro ⟨h1, h2⟩; exact ⟨n / 32, by omega⟩
  · simp only [Nat.reduceAdd, Nat.reducePow, Nat.reduceDiv]
    constructor
    · rintro ⟨j, h1, h2, h3⟩; omega
    · rintro ⟨h1, h2⟩; exact ⟨n / 64, by omega⟩
  · simp only [Nat.reduceAdd, Nat.reducePow, Nat.reduceDiv]
    constructor
    · rintro ⟨j, h1, h2, h3⟩; omega
    · rintro ⟨h1, h2⟩; exact ⟨n / 128, by omega⟩
theorem halves_key (n : Nat) (hn : n ≤ 7) : Key (halves n) (halfKey n) (2 ^ n) := by
  have hpos : 0 < 2 ^ n := Nat.two_pow_pos n
  have hbit : ∀ c : Int, Pt c → ∀ k, k < n → ((halfKey n c).testBit k = false ↔ (c < 256 ∧ c.toNat.testBit k = false)) := by
    intro c hc k hk
    unfold halfKey
    split
    · rename_i h
      rw [Nat.testBit_mod_two_pow]
      simp [hk, h]
    · rename_i h
      rw [Nat.testBit_two_pow_sub_one]
      simp [hk, h]
  have hlt : ∀ c : Int, halfKey n c < 2 ^ n := by
    intro c
    unfold halfKey
    split
    · exact Nat.mod_lt _ hpos
    · omega
  refine ⟨fun c _ => hlt c, fun a b ha hb => ?_, fun i hi => ?_⟩
  · have hal : alike (halves n) a b ↔ ∀ k, k < n → ((halfKey n a).testBit k = (halfKey n b).testBit k) := by
      unfold alike halves
      have hx : ∀ k, k < n → ((Has (half k) a ↔ Has (half k) b) ↔ ((halfKey n a).testBit k = (halfKey n b).testBit k)) := by
        intro k hk
        rw [has_half k (by omega) a ha, has_half k (by omega) b hb, ← hbit a ha k hk, ← hbit b hb k hk]
        cases (halfKey n a).testBit k <;> cases (halfKey n b).testBit k <;> simp
      constructor
      · intro h k hk
        exact (hx k hk).1 (h _ (List.mem_map.2 ⟨k, List.mem_range.2 hk, rfl⟩))
      · intro h s hs
        obtain ⟨k, hk, rfl⟩ := List.mem_map.1 hs
        rw [List.mem_range] at hk
        exact (hx k hk).2 (h k hk)
    rw [hal]
    constructor
    · intro h k _; rw [h]
    · intro h
      apply Nat.eq_of_testBit_eq
      intro k
      by_cases hk : k < n
      · exact h k hk
      · have hle : 2 ^ n ≤ 2 ^ k := Nat.pow_le_pow_right (by decide) (by omega)
        rw [Nat.testBit_lt_two_pow (Nat.lt_of_lt_of_le (hlt a) hle), Nat.testBit_lt_two_pow (Nat.lt_of_lt_of_le (hlt b) hle)]
  · have h2 : 2 ^ n ≤ 2 ^ 7 := Nat.pow_le_pow_right (by decide) hn
    refine ⟨(i : Int), ⟨by omega, by omega⟩, ?_⟩
    unfold halfKey
    rw [if_pos (by omega), Int.toNat_natCast, Nat.mod_eq_of_lt hi]

/-! ### many sets that are one, and one within -/
def mnyS (n at_ : Nat) : List (List R) := (List.range n).map fun (k : Nat) => if k = at_ then [(109, 112)] else [(97, 122)]
def mnySL : List (List R) := [[(0, 96), (123, 1114111)], [(97, 108), (113, 122)], [(109, 112)]]
def mnySKey (c : Int) : Nat := if 109 ≤ c ∧ c ≤ 112 then 2 else if 97 ≤ c ∧ c ≤ 122 then 1 else 0
theorem has_two (x y c : Int) : Has [(x, y)] c ↔ Pt c ∧ x ≤ c ∧ c ≤ y := by
  unfold Has Pt
  rw [cov_cons]
  simp only [cov_nil, or_false, and_assoc]
theorem mnyS_alike (n at_ : Nat) (h : at_ < n) (hn : 2 ≤ n) (a b : Int) (ha : Pt a) (hb : Pt b) : alike (mnyS n at_) a b ↔ ((109 ≤ a ∧ a ≤ 112 ↔ 109 ≤ b ∧ b ≤ 112) ∧ (97 ≤ a ∧ a ≤ 122 ↔ 97 ≤ b ∧ b ≤ 122)) := by
  unfold alike mnyS
  constructor
  · intro hh
    have h1 := hh [(109, 112)] (List.mem_map.2 ⟨at_, List.mem_range.2 h, by simp⟩)
    obtain ⟨j, hj, hne⟩ : ∃ j, j < n ∧ j ≠ at_ := by
      by_cases e : at_ = 0
      · exact ⟨1, by omega, by omega⟩
      · exact ⟨0, by omega, by omega⟩
    have h2 := hh [(97, 122)] (List.mem_map.2 ⟨j, List.mem_range.2 hj, by simp [hne]⟩)
    rw [has_two, has_two] at h1 h2
    exact ⟨⟨fun e => (h1.1 ⟨ha, e⟩).2, fun e => (h1.2 ⟨hb, e⟩).2⟩, ⟨fun e => (h2.1 ⟨ha, e⟩).2, fun e => (h2.2 ⟨hb, e⟩).2⟩⟩
  · rintro ⟨h1, h2⟩ s hs
    obtain ⟨k, _, rfl⟩ := List.mem_map.1 hs
    split
    · rw [has_two, has_two]
      exact ⟨fun e => ⟨hb, h1.1 e.2⟩, fun e => ⟨ha, h1.2 e.2⟩⟩
    · rw [has_two, has_two]
      exact ⟨fun e => ⟨hb, h2.1 e.2⟩, fun e => ⟨ha, h2.2 e.2⟩⟩
theorem mnyS_tell (n at_ : Nat) (h : at_ < n) (hn : 2 ≤ n) (a b : Int) (ha : Pt a) (hb : Pt b) : mnySKey a = mnySKey b ↔ alike (mnyS n at_) a b := by
  rw [mnyS_alike n at_ h hn a b ha hb]
  unfold mnySKey
  constructor
  · intro e
    split at e <;> split at e <;> (try split at e) <;> (try split at e) <;> omega
  · intro e
    split <;> split <;> (try split) <;> (try split) <;> omega
theorem flat_ones : ∀ (S : List (List R)), (∀ l ∈ S, l.length = 1) → S.flatten.length = S.length
  | [], _ => rfl
  | l :: S, h => by
    rw [List.flatten_cons, List.length_append, h l (by simp), flat_ones S (fun x hx => h x (by simp [hx])), List.length_cons]; omega
theorem mnyS_flat (n at_ : Nat) : (mnyS n at_).flatten.length = n := by
  rw [flat_ones]
  · simp [mnyS]
  · intro l hl
    obtain ⟨k, _, rfl⟩ := List.mem_map.1 hl
    split <;> rfl
theorem mnyS_set (n at_ : Nat) : (List.replicate n ([(97, 122)] : List R)).set at_ [(109, 112)] = mnyS n at_ := by
  unfold mnyS
  apply List.ext_getElem
  · simp
  · intro i h1 h2
    rw [List.getElem_set, List.getElem_map, List.getElem_range, List.getElem_replicate]
    by_cases h : at_ = i
    · rw [if_pos h, if_pos h.symm]
    · rw [if_neg h, if_neg (fun e => h e.symm)]
theorem mnyS_parts (n at_ : Nat) (h : at_ < n) (hn : 2 ≤ n) : Parts (mnyS n at_) mnySL := by
  refine ⟨mnySKey, ⟨mnyS_tell n at_ h hn, fun c hc k hk => ?_⟩, ⟨fun c _ => ?_, fun i hi => ?_, fun i hi => ?_, fun i hi c => ?_⟩⟩
  · unfold mnySKey at hk ⊢
    split at hk
    · have : k = 0 ∨ k = 1 := by omega
      rcases this with rfl | rfl
      · exact ⟨0, ⟨by omega, by omega⟩, by omega, by decide⟩
      · exact ⟨97, ⟨by omega, by omega⟩, by omega, by decide⟩
    · split at hk
      · obtain rfl : k = 0 := by omega
        exact ⟨0, ⟨by omega, by omega⟩, by omega, by decide⟩
      · omega
  · show _ < 3
    unfold mnySKey; split <;> (try split) <;> omega
  · have : i = 0 ∨ i = 1 ∨ i = 2 := by simp only [mnySL, List.length_cons, List.length_nil] at hi; omega
    rcases this with rfl | rfl | rfl
    · exact ⟨0, ⟨by omega, by omega⟩, by decide⟩
    · exact ⟨97, ⟨by omega, by omega⟩, by decide⟩
    · exact ⟨109, ⟨by omega, by omega⟩, by decide⟩
  · have : i = 0 ∨ i = 1 ∨ i = 2 := by simp only [mnySL, List.length_cons, List.length_nil] at hi; omega
    rcases this with rfl | rfl | rfl <;> (unfold Rt gl mnySL; simp [RF])
  · have : i = 0 ∨ i = 1 ∨ i = 2 := by simp only [mnySL, List.length_cons, List.length_nil] at hi; omega
    rcases this with rfl | rfl | rfl
    · have e : gl mnySL 0 = [(0, 96), (123, 1114111)] := rfl
      rw [e]; unfold Has Pt mnySKey; rw [cov_cons, cov_cons]; simp only [cov_nil, or_false]
      constructor
      · rintro ⟨h1, h2, h3⟩; refine ⟨⟨h1, h2⟩, ?_⟩; split <;> (try split) <;> omega
      · rintro ⟨⟨h1, h2⟩, h3⟩; refine ⟨h1, h2, ?_⟩; split at h3 <;> (try split at h3) <;> omega
    · have e : gl mnySL 1 = [(97, 108), (113, 122)] := rfl
      rw [e]; unfold Has Pt mnySKey; rw [cov_cons, cov_cons]; simp only [cov_nil, or_false]
      constructor
      · rintro ⟨h1, h2, h3⟩; refine ⟨⟨h1, h2⟩, ?_⟩; split <;> (try split) <;> omega
      · rintro ⟨⟨h1, h2⟩, h3⟩; refine ⟨h1, h2, ?_⟩; split at h3 <;> (try split at h3) <;> omega
    · have e : gl mnySL 2 = [(109, 112)] := rfl
      rw [e, has_two]; unfold mnySKey
      constructor
      · rintro ⟨h1, h2⟩; refine ⟨h1, ?_⟩; rw [if_pos h2]
      · rintro ⟨h1, h3⟩; refine ⟨h1, ?_⟩; split at h3 <;> (try split at h3) <;> omega
theorem mnyS_key (n at_ : Nat) (h : at_ < n) (hn : 2 ≤ n) : Key (mnyS n at_) mnySKey 3 := by
  obtain ⟨_, hr⟩ : Parts (mnyS n at_) mnySL ∧ True := ⟨mnyS_parts n at_ h hn, trivial⟩
  refine ⟨fun c _ => ?_, mnyS_tell n at_ h hn, fun i hi => ?_⟩
  · unfold mnySKey; split <;> (try split) <;> omega
  · have : i = 0 ∨ i = 1 ∨ i = 2 := by omega
    rcases this with rfl | rfl | rfl
    · exact ⟨0, ⟨by omega, by omega⟩, by decide⟩
    · exact ⟨97, ⟨by omega, by omega⟩, by decide⟩
    · exact ⟨109, ⟨by omega, by omega⟩, by decide⟩
end Tnr
