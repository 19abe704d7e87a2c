/- The walk of the document's alike. -/
import Derived.Test.YtildfjlaieaadaaGreatSzb2

namespace Go.Proofs.YtildfjlaieaadaaGreat
open Go.RowKit Tnr

/-- up to B the rows O are the classes, F their least ones. -/
structure RefAt (S : List (List R)) (F : List Int) (O : List (List R)) (B : Int) : Prop where
  len : O.length = F.length
  few : F.length ≤ 60
  pt : ∀ k, k < F.length → Pt (gq F k)
  apart : ∀ j k, j < k → k < F.length → ¬ alike S (gq F j) (gq F k)
  first : ∀ k, k < F.length → ∀ c, 0 ≤ c → c < gq F k → ∃ j, j < k ∧ alike S (gq F j) c
  right : ∀ k, k < F.length → Rt (gl O k)
  has : ∀ k, k < F.length → ∀ c, Has (gl O k) c ↔ 0 ≤ c ∧ c < B ∧ alike S (gq F k) c
  all : ∀ c, 0 ≤ c → c < B → ∃ k, k < F.length ∧ alike S (gq F k) c
theorem refAt_nil (S : List (List R)) : RefAt S [] [] 0 := by
  refine ⟨rfl, by simp, ?_, ?_, ?_, ?_, ?_, ?_⟩ <;> intros <;> simp_all <;> omega
theorem gq_snocU_lt {l : List Int} {x : Int} {i : Nat} (h : i < l.length) : gq (l ++ [x]) i = gq l i := by
  rw [gq_get (by rw [List.length_append]; omega), gq_get h, List.getElem_append_left h]
theorem gq_snocU_eq {l : List Int} {x : Int} : gq (l ++ [x]) l.length = x := by
  rw [gq_get (by rw [List.length_append]; simp)]; simp
theorem gl_snocU_lt {l : List (List R)} {x : List R} {i : Nat} (h : i < l.length) : gl (l ++ [x]) i = gl l i := by
  rw [gl_get (by rw [List.length_append]; omega), gl_get h, List.getElem_append_left h]
theorem gl_snocU_eq {l : List (List R)} {x : List R} : gl (l ++ [x]) l.length = x := by
  rw [gl_get (by rw [List.length_append]; simp)]; simp
theorem gl_setU {l : List (List R)} {x : List R} {i k : Nat} (h : k < l.length) : gl (l.set i x) k = if i = k then x else gl l k := by
  rw [gl_get (by rw [List.length_set]; exact h), gl_get h, List.getElem_set]
theorem RefAt.old {S : List (List R)} {F : List Int} {O : List (List R)} {B B' : Int} {k : Nat} {r : List R} (h : RefAt S F O B) (hk : k < F.length) (ha : alike S (gq F k) B) (h0 : 0 ≤ B) (hb : B ≤ B')
    (hcut : ∀ c, B ≤ c → c < B' → alike S B c) (hr : Rt r) (hh : ∀ c, Has r c ↔ Has (gl O k) c ∨ (B ≤ c ∧ c < B')) : RefAt S F (O.set k r) B' := by
  have hu : ∀ j, j < F.length → ∀ c, alike S (gq F j) c → alike S (gq F k) c → j = k := by
    intro j hj c h1 h2
    rcases Nat.lt_trichotomy j k with h3 | h3 | h3
    · exact absurd (h1.trans h2.symm) (h.apart j k h3 hk)
    · exact h3
    · exact absurd (h2.trans h1.symm) (h.apart k j h3 hj)
  refine ⟨by rw [List.length_set]; exact h.len, h.few, h.pt, h.apart, h.first, ?_, ?_, ?_⟩
  · intro j hj
    rw [gl_setU (by rw [h.len]; exact hj)]
    split
    · exact hr
    · exact h.right j hj
  · intro j hj c
    rw [gl_setU (by rw [h.len]; exact hj)]
    split
    · rename_i e; subst e
      rw [hh, h.has k hk]
      constructor
      · rintro (⟨a, b, d⟩ | ⟨a, b⟩)
        · exact ⟨a, by omega, d⟩
        · exact ⟨by omega, b, ha.trans (hcut c a b)⟩
      · rintro ⟨a, b, d⟩
        by_cases hc : c < B
        · exact .inl ⟨a, hc, d⟩
        · exact .inr ⟨by omega, b⟩
    · rename_i e
      rw [h.has j hj]
      constructor
      · rintro ⟨a, b, d⟩; exact ⟨a, by omega, d⟩
      · rintro ⟨a, b, d⟩
        refine ⟨a, ?_, d⟩
        by_cases hc : c < B
        · exact hc
        · exact absurd (hu j hj c d (ha.trans (hcut c (by omega) b))).symm e
  · intro c h1 h2
    by_cases hc : c < B
    · exact h.all c h1 hc
    · exact ⟨k, hk, ha.trans (hcut c (by omega) h2)⟩
theorem RefAt.new {S : List (List R)} {F : List Int} {O : List (List R)} {B : Int} (h : RefAt S F O B) (hB : Pt B) (hf : F.length < 60) (ha : ∀ k, k < F.length → ¬ alike S (gq F k) B) : RefAt S (F ++ [B]) (O ++ [[]]) B := by
  have hl : (F ++ [B]).length = F.length + 1 := by simp
  have hm : (O ++ [[]]).length = O.length + 1 := by simp
  have old : ∀ k, k < F.length → gq (F ++ [B]) k = gq F k := fun k hk => gq_snocU_lt hk
  have oldl : ∀ k, k < F.length → gl (O ++ [[]]) k = gl O k := fun k hk => gl_snocU_lt (by rw [h.len]; exact hk)
  have newl : gl (O ++ [[]]) F.length = [] := by rw [← h.len]; exact gl_snocU_eq
  have cases : ∀ k, k < (F ++ [B]).length → k < F.length ∨ k = F.length := fun k hk => by omega
  refine ⟨by have := h.len; omega, by omega, ?_, ?_, ?_, ?_, ?_, ?_⟩
  · intro k hk
    rcases cases k hk with h1 | rfl
    · rw [old k h1]; exact h.pt k h1
    · rw [gq_snocU_eq]; exact hB
  · intro j k hjk hk
    rcases cases k hk with h1 | rfl
    · rw [old k h1, old j (by omega)]; exact h.apart j k hjk h1
    · rw [gq_snocU_eq, old j hjk]; exact ha j hjk
  · intro k hk c h0 h1
    rcases cases k hk with h2 | rfl
    · rw [old k h2] at h1
      obtain ⟨j, h3, h4⟩ := h.first k h2 c h0 h1
      exact ⟨j, h3, by rw [old j (by omega)]; exact h4⟩
    · rw [gq_snocU_eq] at h1
      obtain ⟨j, h3, h4⟩ := h.all c h0 h1
      exact ⟨j, h3, by rw [old j h3]; exact h4⟩
  · intro k hk
    rcases cases k hk with h2 | rfl
    · rw [oldl k h2]; exact h.right k h2
    · rw [newl]; trivial
  · intro k hk c
    rcases cases k hk with h2 | rfl
    · rw [oldl k h2, old k h2]; exact h.has k h2 c
    · rw [newl, gq_snocU_eq]
      constructor
      · rintro ⟨_, _, h3⟩; exact absurd h3 (cov_nil c)
      · rintro ⟨h3, h4, h5⟩
        obtain ⟨j, h6, h7⟩ := h.all c h3 h4
        exact absurd (h7.trans h5.symm) (ha j h6)
  · intro c h0 h1
    obtain ⟨j, h3, h4⟩ := h.all c h0 h1
    exact ⟨j, by omega, by rw [old j h3]; exact h4⟩
theorem RefAt.over {S : List (List R)} {F : List Int} {O : List (List R)} {B : Int} (h : RefAt S F O B) (hB : Pt B) (hf : F.length = 60) (ha : ∀ k, k < F.length → ¬ alike S (gq F k) B) : More S := by
  refine ⟨F ++ [B], by simp [hf], ?_, ?_⟩
  · intro c hc
    rcases List.mem_append.1 hc with h1 | h1
    · obtain ⟨k, hk, rfl⟩ := List.mem_iff_getElem.1 h1
      rw [← gq_get hk]; exact h.pt k hk
    · simp only [List.mem_singleton] at h1; subst h1; exact hB
  · rw [List.pairwise_append]
    refine ⟨?_, by simp, ?_⟩
    · rw [List.pairwise_iff_getElem]
      intro i j hi hj hij
      rw [← gq_get hi, ← gq_get hj]; exact h.apart i j hij hj
    · intro a h1 b h2
      simp only [List.mem_singleton] at h2; subst h2
      obtain ⟨k, hk, rfl⟩ := List.mem_iff_getElem.1 h1
      rw [← gq_get hk]; exact ha k hk
theorem RefAt.done {S : List (List R)} {F : List Int} {O : List (List R)} (h : RefAt S F O 1114112) : Parts S O := by
  have hu : ∀ j k, j < F.length → k < F.length → ∀ c, alike S (gq F j) c → alike S (gq F k) c → j = k := by
    intro j k hj hk c h1 h2
    rcases Nat.lt_trichotomy j k with h3 | h3 | h3
    · exact absurd (h1.trans h2.symm) (h.apart j k h3 hk)
    · exact h3
    · exact absurd (h2.trans h1.symm) (h.apart k j h3 hj)
  have hall : ∀ c, ∃ k, Pt c → k < F.length ∧ alike S (gq F k) c := by
    intro c
    by_cases hc : Pt c
    · obtain ⟨k, h1, h2⟩ := h.all c hc.1 (by have := hc.2; omega)
      exact ⟨k, fun _ => ⟨h1, h2⟩⟩
    · exact ⟨0, fun h => absurd h hc⟩
  obtain ⟨num, hn⟩ := Classical.axiomOfChoice hall
  have ex : ∀ k, k < F.length → num (gq F k) = k := fun k hk => hu _ _ (hn _ (h.pt k hk)).1 hk _ (hn _ (h.pt k hk)).2 (alike.refl _ _)
  have le : ∀ k, k < F.length → ∀ c, Pt c → alike S (gq F k) c → gq F k ≤ c := by
    intro k hk c hc ha
    by_cases hlt : c < gq F k
    · obtain ⟨j, h1, h2⟩ := h.first k hk c hc.1 hlt
      have := hu j k (by omega) hk c h2 ha; omega
    · omega
  have up : ∀ j k, j < k → k < F.length → gq F j < gq F k := by
    intro j k hjk hk
    rcases Int.lt_trichotomy (gq F j) (gq F k) with h1 | h1 | h1
    · exact h1
    · exact absurd (by rw [h1]; exact alike.refl _ _) (h.apart j k hjk hk)
    · obtain ⟨i, h2, h3⟩ := h.first j (by omega) _ (h.pt k hk).1 h1
      exact absurd h3 (h.apart i k (by omega) hk)
  refine ⟨num, ⟨?_, ?_⟩, ⟨?_, ?_, ?_, ?_⟩⟩
  · intro a b ha hb
    constructor
    · intro e
      have h1 := (hn a ha).2
      have h2 := (hn b hb).2
      rw [e] at h1
      exact h1.symm.trans h2
    · intro e
      exact hu _ _ (hn a ha).1 (hn b hb).1 b ((hn a ha).2.trans e) (hn b hb).2
  · intro c hc k hk
    have h1 := hn c hc
    refine ⟨gq F k, h.pt k (by omega), ?_, ex k (by omega)⟩
    have := up k _ hk h1.1
    have := le _ h1.1 c hc h1.2
    omega
  · intro c hc; rw [h.len]; exact (hn c hc).1
  · intro i hi; rw [h.len] at hi; exact ⟨_, h.pt i hi, ex i hi⟩
  · intro i hi; rw [h.len] at hi; exact h.right i hi
  · intro i hi c
    rw [h.len] at hi
    rw [h.has i hi]
    constructor
    · rintro ⟨h1, h2, h3⟩
      have hc : Pt c := ⟨h1, by omega⟩
      exact ⟨hc, hu _ _ (hn c hc).1 hi c (hn c hc).2 h3⟩
    · rintro ⟨h1, h2⟩
      have h3 := (hn c h1).2
      rw [h2] at h3
      exact ⟨h1.1, by have := h1.2; omega, h3⟩

/-- something begins or ends there. -/
def IsCut (S : List (List R)) (c : Int) : Prop := c = 0 ∨ ∃ s ∈ S, ∃ r ∈ s, r.1 ≤ r.2 ∧ r.1 ≤ 1114111 ∧ 0 ≤ r.2 ∧ ((c = max r.1 0) ∨ (r.2 < 1114111 ∧ c = r.2 + 1))
theorem noCut {S : List (List R)} {c : Int} (hc : Pt c) (hn : ¬ IsCut S c) : alike S (c - 1) c := by
  have h0 : 1 ≤ c := by
    have := hc.1
    rcases Int.lt_or_le 0 c with h | h
    · omega
    · exact absurd (.inl (by omega)) hn
  have h1 := hc.2
  intro s hs
  constructor
  · rintro ⟨_, _, r, hr, a, b⟩
    refine ⟨by omega, h1, r, hr, by omega, ?_⟩
    by_cases h : c ≤ r.2
    · exact h
    · exact absurd (.inr ⟨s, hs, r, hr, by omega, by omega, by omega, .inr ⟨by omega, by omega⟩⟩) hn
  · rintro ⟨_, _, r, hr, a, b⟩
    refine ⟨by omega, by omega, r, hr, ?_, by omega⟩
    by_cases h : r.1 ≤ c - 1
    · exact h
    · exact absurd (.inr ⟨s, hs, r, hr, by omega, by omega, by omega, .inl (by omega)⟩) hn
theorem noCuts {S : List (List R)} {a : Int} (ha : 0 ≤ a) : ∀ (n : Nat), a + n ≤ 1114111 → (∀ c, a < c → c ≤ a + n → ¬ IsCut S c) → alike S a (a + n)
  | 0, _, _ => by simp only [Int.natCast_zero, Int.add_zero]; exact alike.refl _ _
  | n + 1, h, hn => by
    have h1 := noCuts ha n (by omega) fun c h1 h2 => hn c h1 (by omega)
    have h2 := noCut (S := S) (c := a + ((n + 1 : Nat) : Int)) ⟨by omega, by omega⟩ (hn _ (by omega) (by omega))
    have e : a + ((n + 1 : Nat) : Int) - 1 = a + (n : Int) := by omega
    rw [e] at h2
    exact h1.trans h2
theorem noCuts' {S : List (List R)} {a c : Int} (ha : 0 ≤ a) (hac : a ≤ c) (hc : c ≤ 1114111) (hn : ∀ d, a < d → d ≤ c → ¬ IsCut S d) : alike S a c := by
  have e : c = a + ((c - a).toNat : Int) := by omega
  rw [e]
  exact noCuts ha _ (by omega) fun d h1 h2 => hn d h1 (by omega)
/-- the cuts, rising, each once. -/
structure Cuts (S : List (List R)) (l : List Int) : Prop where
  up : ∀ i j, i < j → j < l.length → gq l i < gq l j
  mem : ∀ c, c ∈ l ↔ Pt c ∧ IsCut S c
theorem gq_memU {l : List Int} {i : Nat} (h : i < l.length) : gq l i ∈ l := by rw [gq_get h]; exact List.getElem_mem h
theorem mem_gqU {l : List Int} {c : Int} (h : c ∈ l) : ∃ i, i < l.length ∧ gq l i = c := by
  obtain ⟨i, hi, e⟩ := List.mem_iff_getElem.1 h
  exact ⟨i, hi, by rw [gq_get hi]; exact e⟩
theorem Cuts.pos {S : List (List R)} {l : List Int} (h : Cuts S l) : 0 < l.length := by
  have := (h.mem 0).2 ⟨⟨by omega, by omega⟩, .inl rfl⟩
  exact List.length_pos_of_mem this
theorem Cuts.zero {S : List (List R)} {l : List Int} (h : Cuts S l) : gq l 0 = 0 := by
  obtain ⟨i, hi, e⟩ := mem_gqU ((h.mem 0).2 ⟨⟨by omega, by omega⟩, .inl rfl⟩)
  have h0 := ((h.mem _).1 (gq_memU h.pos)).1.1
  rcases Nat.eq_zero_or_pos i with h1 | h1
  · rw [h1] at e; exact e
  · have := h.up 0 i h1 hi; omega
/-- where the next cut is, or behind the end. -/
def nextCut (l : List Int) (i : Nat) : Int := if i + 1 < l.length then gq l (i + 1) else 1114112
theorem Cuts.cut {S : List (List R)} {l : List Int} (h : Cuts S l) {i : Nat} (hi : i < l.length) : Pt (gq l i) ∧ gq l i < nextCut l i ∧ nextCut l i ≤ 1114112 ∧ ∀ c, gq l i ≤ c → c < nextCut l i → alike S (gq l i) c := by
  have hp := ((h.mem _).1 (gq_memU hi)).1
  have hp1 := hp.1
  have hp2 := hp.2
  refine ⟨hp, ?_, ?_, ?_⟩
  · unfold nextCut
    split
    · exact h.up i (i + 1) (by omega) (by assumption)
    · omega
  · unfold nextCut
    split
    · rename_i h1
      have := ((h.mem _).1 (gq_memU h1)).1.2; omega
    · omega
  · intro c h1 h2
    have h3 : c ≤ 1114111 := by
      unfold nextCut at h2
      split at h2
      · rename_i h4
        have := ((h.mem _).1 (gq_memU h4)).1.2; omega
      · omega
    refine noCuts' hp.1 h1 h3 fun d h4 h5 hcut => ?_
    obtain ⟨j, hj, e⟩ := mem_gqU ((h.mem d).2 ⟨⟨by omega, by omega⟩, hcut⟩)
    have h6 : i < j := by
      rcases Nat.lt_trichotomy i j with h7 | h7 | h7
      · exact h7
      · subst h7; omega
      · have := h.up j i h7 hi; omega
    unfold nextCut at h2
    rw [if_pos (by omega)] at h2
    rcases Nat.lt_or_ge (i + 1) j with h8 | h8
    · have := h.up (i + 1) j h8 hj; omega
    · have : j = i + 1 := by omega
      rw [this] at e; omega
theorem alike_rows {xs : List SV} {a b : Int} : alike (rowsV xs) a b ↔ ∀ i, i < xs.length → (Has (gs xs i).2.2 a ↔ Has (gs xs i).2.2 b) := by
  unfold alike rowsV
  constructor
  · intro h i hi
    exact h _ (List.mem_map.2 ⟨gs xs i, by rw [gs_get hi]; exact List.getElem_mem hi, rfl⟩)
  · intro h s hs
    obtain ⟨x, hx, rfl⟩ := List.mem_map.1 hs
    obtain ⟨i, hi, rfl⟩ := List.mem_iff_getElem.1 hx
    have := h i hi
    rw [gs_get hi] at this; exact this

set_option maxHeartbeats 1600000 in
set_option maxRecDepth 100000 in
theorem alike_any (p : Option Addr) (c n : Nat) (xs : List SV) (a b : Int) (w : World) (hn : n = xs.length) (hx : SlS w p xs) (hl : ∀ i, i < n → (gs xs i).2.2.length ≤ 100000) (hnm : n ≤ 100000) :
    Calls Tryz.prog 32 #[.slice p n c, .int .i64 a, .int .i64 b] w fun e w' => (∃ r, w' = w.drewN r) ∧ ((e = .returned (.bool false) ∧ ¬ alike (rowsV xs) a b) ∨ (e = .returned (.bool true) ∧ alike (rowsV xs) a b)) := by
  have HX := Lib.hid hx
  have HN := Lib.hid hn
  have HL := Lib.hid hl
  have hnI : (n : Int) ≤ 100000 := by omega
  clear hx hn hl hnm
  go_enter Tryz.func32, Tryz.ntmps32
  go_wp2
  go_loopw [7] (fun iv wr => ∃ (k : Nat), k ≤ n ∧ iv = .int .i64 (k : Nat) ∧ Hid (∀ i, i < k → (Has (gs xs i).2.2 a ↔ Has (gs xs i).2.2 b)) ∧ Hid (∃ r, wr = w.drewN r)) (fun iv _ => n - (intOf iv).toNat)
  case atStart => exact ⟨0, Nat.zero_le _, rfl, (fun i hi => absurd hi (Nat.not_lt_zero _)), 0, rfl⟩
  case round =>
    obtain ⟨k, hk, rfl, HE, HR⟩ := hrel
    rename World => wr
    have HB : Hid (Below w.heap.size w wr) := by obtain ⟨r, h⟩ := HR.out; rw [h]; exact drewN_below w r
    have HQ : Hid (∀ n, ∃ r, wr.drewN n = w.drewN r) := by intro n; obtain ⟨r, h⟩ := HR.out; exact ⟨r + n, by rw [h, World.drewN_drewN]⟩
    by_cases hkn : k < n
    · have hkI : (k : Int) < n := by omega
      have hkx : k < xs.length := by have := HN.out; omega
      obtain ⟨bp, op, rfl, hcp⟩ := sls_at (HX.out.below HB.out) hkx
      have hA := HX.out.1 (gs xs k) (by rw [gs_get hkx]; exact List.getElem_mem hkx)
      have hll := HL.out k hkn
      have HEK : Hid ((Has (gs xs k).2.2 a ↔ Has (gs xs k).2.2 b) → ∀ i, i < k + 1 → (Has (gs xs i).2.2 a ↔ Has (gs xs i).2.2 b)) := by
        intro h i hi
        rcases Nat.lt_or_ge i k with h1 | h1
        · exact HE.out i h1
        · have : i = k := by omega
          rw [this]; exact h
      have HNK : Hid (alike (rowsV xs) a b → (Has (gs xs k).2.2 a ↔ Has (gs xs k).2.2 b)) := fun h => alike_rows.1 h k hkx
      obtain ⟨⟨pa, ca, la⟩, hga⟩ : ∃ x, x = gs xs k := ⟨_, rfl⟩
      rw [← hga] at hcp hA hll HEK HNK
      simp only at hcp hA hll HEK HNK
      obtain ⟨m, hm⟩ : ∃ m, m = la.length := ⟨_, rfl⟩
      rw [← hm] at hcp
      have HA : Hid (SlR wr pa la) := hA.below HB.out
      obtain ⟨x, hx⟩ : ∃ x, x = hasB la a := ⟨_, rfl⟩
      obtain ⟨y, hy⟩ : ∃ y, y = hasB la b := ⟨_, rfl⟩
      have HC : Hid (∀ r, Calls Tryz.prog 37 #[.slice pa m ca, .int .i64 a] (wr.drewN r) fun e w' => e = .returned (.bool x) ∧ w' = wr.drewN r) := fun r => (rhas_any pa ca m la a (wr.drewN r) hm (SlR.below HA.out (drewN_below _ _)) (by omega)).mono fun e w' h => ⟨by rw [h.1, hx], h.2.symm⟩
      have HD : Hid (∀ r, Calls Tryz.prog 37 #[.slice pa m ca, .int .i64 b] (wr.drewN r) fun e w' => e = .returned (.bool y) ∧ w' = wr.drewN r) := fun r => (rhas_any pa ca m la b (wr.drewN r) hm (SlR.below HA.out (drewN_below _ _)) (by omega)).mono fun e w' h => ⟨by rw [h.1, hy], h.2.symm⟩
      have HXX : Hid (x = true ↔ Has la a) := by show _ ↔ _; rw [hx]; unfold hasB; exact decide_eq_true_iff
      have HYY : Hid (y = true ↔ Has la b) := by show _ ↔ _; rw [hy]; unfold hasB; exact decide_eq_true_iff
      have HK := Lib.hid hkn
      clear hga hm hA hll hkn hkx hx hy
      go_wp2
      go_quiet ((go_at_call 37; first | (with_reducible exact (HC.out _).mono fun _ _ h => ⟨h.1, _, h.2⟩) | (with_reducible exact (HD.out _).mono fun _ _ h => ⟨h.1, _, h.2⟩)))
      cases x <;> cases y
      all_goals
        go_wp2
      · go_roundw
        case rel => exact ⟨k + 1, by have := HK.out; omega, by go_num, HEK.out (by rw [← HXX.out, ← HYY.out]), HQ.out nq⟩
        case measure => have := HK.out; simp [intOf]; omega
      · go_ret
        exact ⟨HQ.out nq, .inl ⟨rfl, fun h => absurd ((HXX.out.trans (HNK.out h)).trans HYY.out.symm) (by decide)⟩⟩
      · go_ret
        exact ⟨HQ.out nq, .inl ⟨rfl, fun h => absurd ((HXX.out.trans (HNK.out h)).trans HYY.out.symm) (by decide)⟩⟩
      · go_roundw
        case rel => exact ⟨k + 1, by have := HK.out; omega, by go_num, HEK.out (by rw [← HXX.out, ← HYY.out]), HQ.out nq⟩
        case measure => have := HK.out; simp [intOf]; omega
    · have hkI : (n : Int) ≤ k := by omega
      have HT : Hid (alike (rowsV xs) a b) := alike_rows.2 fun i hi => HE.out i (by have := HN.out; omega)
      go_wp2
      go_ret
      exact ⟨HR.out, .inr ⟨rfl, HT.out⟩⟩
end Go.Proofs.YtildfjlaieaadaaGreat
