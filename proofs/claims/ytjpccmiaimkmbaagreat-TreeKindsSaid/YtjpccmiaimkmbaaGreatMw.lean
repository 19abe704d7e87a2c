/- What a written tree's groups are, plain; what it is to be spread. -/
/- Plain: what a node of a tree in order covers is in order; of a written one, without groups, it is written. -/
/- Plain: a tree in order is its last node above its kids' trees; these are less deep; what its last node covers is the tree. -/
import Derived.Test.YtjpccmiaimkmbaaGreatMq
import Derived.Test.YtjpccmiaimkmbaaGreatLm

namespace Go.Proofs.YtjpccmiaimkmbaaGreat
open Go.RowKit Tnr Tnt

theorem evN_all (P : Nd → Bool) (ks : List Int) : ∀ (L : List Nd) (k : Nat), ((evN ks k L).all fun x => P x.2) = L.all fun d => !(decide (d.kind ∈ ks)) || P d
  | [], _ => rfl
  | d :: L, k => by
    have h := evN_all P ks L (k + 1)
    unfold evN
    by_cases hd : d.kind ∈ ks
    · rw [if_pos hd, List.all_cons, List.all_cons, h, decide_eq_true hd]; rfl
    · rw [if_neg hd, List.all_cons, h, decide_eq_false hd]; rfl
theorem allN_all (P : Nd → Bool) (L : List Nd) (ks : List Int) : allN P L ks = L.all fun d => !(decide (d.kind ∈ ks)) || P d := evN_all P ks L 0
theorem allN_iff (P : Nd → Bool) (L : List Nd) (ks : List Int) : allN P L ks = true ↔ ∀ d ∈ L, d.kind ∈ ks → P d = true := by
  rw [allN_all, List.all_eq_true]
  constructor
  · intro h d hd hk
    have := h d hd
    rw [decide_eq_true hk] at this
    simpa using this
  · intro h d hd
    by_cases hk : d.kind ∈ ks
    · rw [h d hd hk]; simp
    · rw [decide_eq_false hk]; rfl
theorem evN_mem (ks : List Int) : ∀ (L : List Nd) (k : Nat) (x : Nat × Nd), x ∈ evN ks k L ↔ ∃ j, x.1 = k + j ∧ L[j]? = some x.2 ∧ x.2.kind ∈ ks
  | [], k, x => by simp [evN]
  | d :: L, k, x => by
    have h := evN_mem ks L (k + 1) x
    have step : (∃ j, x.1 = k + j ∧ (d :: L)[j]? = some x.2 ∧ x.2.kind ∈ ks) ↔ (x.1 = k ∧ d = x.2 ∧ x.2.kind ∈ ks) ∨ ∃ j, x.1 = k + 1 + j ∧ L[j]? = some x.2 ∧ x.2.kind ∈ ks := by
      constructor
      · rintro ⟨j, h1, h2, h3⟩
        cases j with
        | zero => exact .inl ⟨by omega, by simpa using h2, h3⟩
        | succ j => exact .inr ⟨j, by omega, by simpa using h2, h3⟩
      · rintro (⟨h1, h2, h3⟩ | ⟨j, h1, h2, h3⟩)
        · exact ⟨0, by omega, by simp [h2], h3⟩
        · exact ⟨j + 1, by omega, by simpa using h2, h3⟩
    rw [step, ← h, show evN ks k (d :: L) = if d.kind ∈ ks then (k, d) :: evN ks (k + 1) L else evN ks (k + 1) L from rfl]
    by_cases hd : d.kind ∈ ks
    · rw [if_pos hd, List.mem_cons]
      constructor
      · rintro (rfl | hx)
        · exact .inl ⟨rfl, rfl, hd⟩
        · exact .inr hx
      · rintro (⟨h1, h2, _⟩ | hx)
        · exact .inl (Prod.ext h1 h2.symm)
        · exact .inr hx
    · rw [if_neg hd]
      constructor
      · exact fun hx => .inr hx
      · rintro (⟨_, h2, h3⟩ | hx)
        · rw [← h2] at h3; exact absurd h3 hd
        · exact hx
theorem nN_get {L : List Nd} {j : Nat} {d : Nd} (h : L[j]? = some d) : nN L j = d := by
  unfold nN; rw [List.getD_eq_getElem?_getD, h]; rfl
theorem gr_of_pl (L : List Nd) : grN L = (plN [5] L).map fun p => (nN L p.toNat).group := by
  unfold grN plN
  rw [List.map_map]
  refine List.map_congr_left fun x hx => ?_
  obtain ⟨j, h1, h2, _⟩ := (evN_mem [5] L 0 x).1 hx
  show x.2.group = (nN L ((x.1 : Nat) : Int).toNat).group
  rw [show ((x.1 : Nat) : Int).toNat = j by omega, nN_get h2]
theorem begN_perm (L : List Nd) (fs : List Int) : (begN L fs).Perm (plN [5] L) := begL_perm _ _
theorem cnt_range {L : List Nd} {ps : List Int} (h : cntN L ps = true) : ps.map (fun p => (nN L p.toNat).group) = (List.range ps.length).map fun i => ((i : Nat) : Int) + 1 := by
  unfold cntN at h
  rw [List.all_eq_true] at h
  refine List.ext_getElem (by simp) fun i h1 h2 => ?_
  have hi : i < ps.length := by simpa using h1
  have := h i (List.mem_range.2 hi)
  rw [gz_get hi] at this
  simpa using this
theorem gr_perm {L : List Nd} {fs : List Int} {nm : Nat} (h : countN L fs nm = true) : (grN L).Perm ((List.range nm).map fun i => ((i : Nat) : Int) + 1) := by
  unfold countN at h
  rw [Bool.and_eq_true] at h
  have hl : (begN L fs).length = nm := by simpa using h.2
  rw [gr_of_pl, ← hl, ← cnt_range h.1]
  exact ((begN_perm L fs).map _).symm
theorem grN_mem {L : List Nd} {fs : List Int} {nm : Nat} (h : countN L fs nm = true) (z : Int) : z ∈ grN L ↔ 1 ≤ z ∧ z ≤ (nm : Int) := by
  rw [(gr_perm h).mem_iff, List.mem_map]
  constructor
  · rintro ⟨i, hi, rfl⟩
    have := List.mem_range.1 hi
    omega
  · rintro ⟨h1, h2⟩
    exact ⟨(z - 1).toNat, List.mem_range.2 (by omega), by omega⟩
theorem gr_kind {L : List Nd} {d : Nd} (h : d ∈ L) (hk : d.kind = 5) : d.group ∈ grN L := by
  obtain ⟨j, hj⟩ := List.getElem?_of_mem h
  unfold grN
  exact List.mem_map.2 ⟨(j, d), (evN_mem [5] L 0 (j, d)).2 ⟨j, by simp, hj, by simp [hk]⟩, rfl⟩
end Go.Proofs.YtjpccmiaimkmbaaGreat


namespace Go.Proofs.YtjpccmiaimkmbaaGreat
open Go.RowKit Tnr Tnt

def Lam (F : Nat → Nat × Nat) (k : Nat) : Prop := ∀ j, (F k).1 ≤ j → j ≤ k → (F k).1 ≤ (F j).1 ∧ (F j).2 ≤ (F k).2
theorem rk_ge {F : Nat → Nat × Nat} : ∀ {ks : List Int} {c d a e : Nat}, rk F ks c d = some (a, e) → d ≤ e
  | [], c, d, a, e, h => by
    simp only [rk, Option.some.injEq, Prod.mk.injEq] at h
    omega
  | k :: ks, c, d, a, e, h => by
    rw [rk_cons] at h
    by_cases hc : c = 0 ∨ k ≠ (c : Int) - 1
    · rw [if_pos hc] at h; cases h
    · rw [if_neg hc] at h
      have := rk_ge h
      omega
theorem rk_low {F : Nat → Nat × Nat} : ∀ {ks : List Int} {c d a e : Nat}, (∀ j, j < c → (F j).1 ≤ j) → rk F ks c d = some (a, e) → a ≤ c
  | [], c, d, a, e, _, h => by
    simp only [rk, Option.some.injEq, Prod.mk.injEq] at h
    omega
  | k :: ks, c, d, a, e, hl, h => by
    rw [rk_cons] at h
    by_cases hc : c = 0 ∨ k ≠ (c : Int) - 1
    · rw [if_pos hc] at h; cases h
    · rw [if_neg hc] at h
      have h1 := hl (c - 1) (by omega)
      have := rk_low (fun j hj => hl j (by omega)) h
      omega
theorem rk_lam {F : Nat → Nat × Nat} : ∀ {ks : List Int} {c d a e : Nat}, (∀ j, j < c → (F j).1 ≤ j) → (∀ j, j < c → Lam F j) → rk F ks c d = some (a, e) → ∀ j, a ≤ j → j < c → a ≤ (F j).1 ∧ (F j).2 ≤ e
  | [], c, d, a, e, _, _, h => fun j h1 h2 => by
    simp only [rk, Option.some.injEq, Prod.mk.injEq] at h
    omega
  | k :: ks, c, d, a, e, hl, hL, h => fun j h1 h2 => by
    rw [rk_cons] at h
    by_cases hc : c = 0 ∨ k ≠ (c : Int) - 1
    · rw [if_pos hc] at h; cases h
    · rw [if_neg hc] at h
      have h3 := hl (c - 1) (by omega)
      by_cases hj : (F (c - 1)).1 ≤ j
      · have h4 := hL (c - 1) (by omega) j hj (by omega)
        have h5 := rk_low (fun j hj => hl j (by omega)) h
        have h6 := rk_ge h
        omega
      · exact rk_lam (fun j hj => hl j (by omega)) (fun j hj => hL j (by omega)) h j h1 (by omega)
theorem lam_ok {ns : List Nd} {l : List (Nat × Nat)} (h : OrdOk ns l) : ∀ k, k < ns.length → Lam (gf l) k := by
  intro k
  induction k using Nat.strongRecOn with
  | _ k ih =>
    intro hk j h1 h2
    obtain ⟨d, h3, h4⟩ := h.2.2 k hk
    by_cases hj : j = k
    · subst hj; omega
    · have := rk_lam (fun j hj => (h.2.1 j (by omega)).1) (fun j hj => ih j hj (by omega)) h3 j h1 (by omega)
      omega
theorem cov_mem {L : List Nd} {f k : Nat} {d : Nd} (h : d ∈ covN L f k) : ∃ x ∈ L, d = mv (-(f : Int)) x := by
  unfold covN at h
  obtain ⟨x, hx, rfl⟩ := List.mem_map.1 h
  exact ⟨x, List.mem_of_mem_drop (List.mem_of_mem_take hx), rfl⟩
end Go.Proofs.YtjpccmiaimkmbaaGreat


namespace Go.Proofs.YtjpccmiaimkmbaaGreat
open Go.RowKit Tnr Tnt

theorem joinA_cons (k : List Nd) (ks : List (List Nd)) (m : List Nd) (l : List Int) : joinA (k :: ks) m l = if k.length = 0 then joinA ks m l else joinA ks (m ++ k.map (mv (m.length : Int))) (l ++ [((m.length + k.length : Nat) : Int) - 1]) := rfl
theorem joinA_len : ∀ (a : List (List Nd)) (m : List Nd) (l : List Int), (joinA a m l).1.length = m.length + (a.map List.length).sum
  | [], m, _ => by simp [joinA]
  | k :: a, m, l => by
    rw [joinA_cons]
    by_cases h : k.length = 0
    · rw [if_pos h, joinA_len a m l]; simp [h]
    · rw [if_neg h, joinA_len a _ _]; simp; omega
theorem joinT_len (n : Nd) (ks : List (List Nd)) : (joinT n ks).length = (ks.map List.length).sum + 1 := by
  unfold joinT; rw [List.length_append, joinA_len]; simp
end Go.Proofs.YtjpccmiaimkmbaaGreat

