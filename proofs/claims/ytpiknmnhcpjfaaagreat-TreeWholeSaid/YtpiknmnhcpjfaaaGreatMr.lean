/- What a written tree's groups are, plain; what it is to be spread. -/
import Derived.Test.YtpiknmnhcpjfaaaGreatMq
namespace Go.Proofs.YtpiknmnhcpjfaaaGreat
open Go.RowKit Tnr Tnt

def plainNd (d : Nd) : Bool := !(d.kind == 7) || (d.mn == 0 && (d.mx == -1 && !(d.mode == 3)))
def plainN (L : List Nd) : Bool := L.all plainNd
def cnt5 (L : List Nd) : Nat := (evN [5] 0 L).length
def freeN (L : List Nd) : Bool := L.all fun d => d.group == 0
theorem evN_all (P : Nd → Bool) (ks : List Int) : ∀ (L : List Nd) (k : Nat), ((evN ks k L).all fun x => P x.2) = L.all fun d => !(decide (d.kind ∈ ks)) || P d
  | [], _ => rfl
  | d :: L, k => by
    have h := evN_all P ks L (k + 1)
    unfold evN
    by_cases hd : d.kind ∈ ks
    · rw [if_pos hd, List.all_cons, List.all_cons, h, decide_eq_true hd]; rfl
    · rw [if_neg hd, List.all_cons, h, decide_eq_false hd]; rfl
theorem allN_all (P : Nd → Bool) (L : List Nd) (ks : List Int) : allN P L ks = L.all fun d => !(decide (d.kind ∈ ks)) || P d := evN_all P ks L 0
theorem allN_iff (P : Nd → Bool) (L : List Nd) (ks : List Int) : allN P L ks = true ↔ ∀ d ∈ L, d.kind ∈ ks → P d = true := by
  rw [allN_all, List.all_eq_true]
  constructor
  · intro h d hd hk
    have := h d hd
    rw [decide_eq_true hk] at this
    simpa using this
  · intro h d hd
    by_cases hk : d.kind ∈ ks
    · rw [h d hd hk]; simp
    · rw [decide_eq_false hk]; rfl
theorem evN_mem (ks : List Int) : ∀ (L : List Nd) (k : Nat) (x : Nat × Nd), x ∈ evN ks k L ↔ ∃ j, x.1 = k + j ∧ L[j]? = some x.2 ∧ x.2.kind ∈ ks
  | [], k, x => by simp [evN]
  | d :: L, k, x => by
    have h := evN_mem ks L (k + 1) x
    have step : (∃ j, x.1 = k + j ∧ (d :: L)[j]? = some x.2 ∧ x.2.kind ∈ ks) ↔ (x.1 = k ∧ d = x.2 ∧ x.2.kind ∈ ks) ∨ ∃ j, x.1 = k + 1 + j ∧ L[j]? = some x.2 ∧ x.2.kind ∈ ks := by
      constructor
      · rintro ⟨j, h1, h2, h3⟩
        cases j with
        | zero => exact .inl ⟨by omega, by simpa using h2, h3⟩
        | succ j => exact .inr ⟨j, by omega, by simpa using h2, h3⟩
      · rintro (⟨h1, h2, h3⟩ | ⟨j, h1, h2, h3⟩)
        · exact ⟨0, by omega, by simp [h2], h3⟩
        · exact ⟨j + 1, by omega, by simpa using h2, h3⟩
    rw [step, ← h, show evN ks k (d :: L) = if d.kind ∈ ks then (k, d) :: evN ks (k + 1) L else evN ks (k + 1) L from rfl]
    by_cases hd : d.kind ∈ ks
    · rw [if_pos hd, List.mem_cons]
      constructor
      · rintro (rfl | hx)
        · exact .inl ⟨rfl, rfl, hd⟩
        · exact .inr hx
      · rintro (⟨h1, h2, _⟩ | hx)
        · exact .inl (Prod.ext h1 h2.symm)
        · exact .inr hx
    · rw [if_neg hd]
      constructor
      · exact fun hx => .inr hx
      · rintro (⟨_, h2, h3⟩ | hx)
        · rw [← h2] at h3; exact absurd h3 hd
        · exact hx
theorem nN_get {L : List Nd} {j : Nat} {d : Nd} (h : L[j]? = some d) : nN L j = d := by
  unfold nN; rw [List.getD_eq_getElem?_getD, h]; rfl
theorem gr_of_pl (L : List Nd) : grN L = (plN [5] L).map fun p => (nN L p.toNat).group := by
  unfold grN plN
  rw [List.map_map]
  refine List.map_congr_left fun x hx => ?_
  obtain ⟨j, h1, h2, _⟩ := (evN_mem [5] L 0 x).1 hx
  show x.2.group = (nN L ((x.1 : Nat) : Int).toNat).group
  rw [show ((x.1 : Nat) : Int).toNat = j by omega, nN_get h2]
theorem begN_perm (L : List Nd) (fs : List Int) : (begN L fs).Perm (plN [5] L) := begL_perm _ _
theorem cnt_range {L : List Nd} {ps : List Int} (h : cntN L ps = true) : ps.map (fun p => (nN L p.toNat).group) = (List.range ps.length).map fun i => ((i : Nat) : Int) + 1 := by
  unfold cntN at h
  rw [List.all_eq_true] at h
  refine List.ext_getElem (by simp) fun i h1 h2 => ?_
  have hi : i < ps.length := by simpa using h1
  have := h i (List.mem_range.2 hi)
  rw [gz_get hi] at this
  simpa using this
theorem gr_perm {L : List Nd} {fs : List Int} {nm : Nat} (h : countN L fs nm = true) : (grN L).Perm ((List.range nm).map fun i => ((i : Nat) : Int) + 1) := by
  unfold countN at h
  rw [Bool.and_eq_true] at h
  have hl : (begN L fs).length = nm := by simpa using h.2
  rw [gr_of_pl, ← hl, ← cnt_range h.1]
  exact ((begN_perm L fs).map _).symm
theorem cnt5_eq {L : List Nd} {fs : List Int} {nm : Nat} (h : countN L fs nm = true) : cnt5 L = nm := by
  have := (gr_perm h).length_eq
  unfold grN at this
  unfold cnt5
  simpa using this
theorem grN_mem {L : List Nd} {fs : List Int} {nm : Nat} (h : countN L fs nm = true) (z : Int) : z ∈ grN L ↔ 1 ≤ z ∧ z ≤ (nm : Int) := by
  rw [(gr_perm h).mem_iff, List.mem_map]
  constructor
  · rintro ⟨i, hi, rfl⟩
    have := List.mem_range.1 hi
    omega
  · rintro ⟨h1, h2⟩
    exact ⟨(z - 1).toNat, List.mem_range.2 (by omega), by omega⟩
theorem mx_gr {L : List Nd} {fs : List Int} {nm : Nat} (h : countN L fs nm = true) : mxL (grN L) = (nm : Int) := by
  by_cases h0 : nm = 0
  · have : grN L = [] := by
      have := (gr_perm h).length_eq
      rw [h0] at this
      simpa using this
    rw [this, h0]; rfl
  · have hne : grN L ≠ [] := fun e => by
      have := (grN_mem h 1).2 (by omega)
      rw [e] at this; simp at this
    obtain ⟨h1, h2⟩ := mxL_spec (grN L) hne
    have h3 := (grN_mem h _).1 h1
    have h4 := h2 (nm : Int) ((grN_mem h _).2 (by omega))
    omega
theorem mn_gr {L : List Nd} {fs : List Int} {nm : Nat} (h : countN L fs nm = true) : mnL (grN L) = if nm = 0 then 0 else 1 := by
  by_cases h0 : nm = 0
  · have : grN L = [] := by
      have := (gr_perm h).length_eq
      rw [h0] at this
      simpa using this
    rw [this, if_pos h0]; rfl
  · rw [if_neg h0]
    have hne : grN L ≠ [] := fun e => by
      have := (grN_mem h 1).2 (by omega)
      rw [e] at this; simp at this
    obtain ⟨h1, h2⟩ := mnL_spec (grN L) hne
    have h3 := (grN_mem h _).1 h1
    have h4 := h2 1 ((grN_mem h _).2 (by omega))
    omega
theorem gr_kind {L : List Nd} {d : Nd} (h : d ∈ L) (hk : d.kind = 5) : d.group ∈ grN L := by
  obtain ⟨j, hj⟩ := List.getElem?_of_mem h
  unfold grN
  exact List.mem_map.2 ⟨(j, d), (evN_mem [5] L 0 (j, d)).2 ⟨j, by simp, hj, by simp [hk]⟩, rfl⟩
/-- what is known of a written tree. -/
theorem right_parts {L : List Nd} {nm : List ByteArray} (h : rightN L nm = true) : ∃ l, ordT L = some l ∧ kindsN L = true ∧ namedB nm = true ∧ writtenN L l nm.length = true := by
  unfold rightN soundN at h
  cases ho : ordT L with
  | none => rw [ho] at h; simp at h
  | some l =>
    rw [ho] at h
    simp only [Option.isSome_some, Bool.true_and, Bool.and_eq_true] at h
    exact ⟨l, rfl, h.1.1, h.1.2, h.2⟩
theorem written_parts {L : List Nd} {l : List (Nat × Nat)} {nm : Nat} (h : writtenN L l nm = true) : (gf l (L.length - 1)).2 ≤ 60 ∧ allN neverB L [12, 13] = true ∧ countN L (fsZ l) nm = true ∧ allN (upToB nm) L [8] = true := by
  unfold writtenN at h
  simp only [Bool.and_eq_true, decide_eq_true_eq] at h
  exact ⟨h.1, h.2.1, h.2.2.1, h.2.2.2⟩
theorem right_spread {L : List Nd} {nm : List ByteArray} (h : rightN L nm = true) : spreadTN L nm = plainN L := by
  obtain ⟨l, ho, hk, hn, hw⟩ := right_parts h
  obtain ⟨_, _, hc, hu⟩ := written_parts hw
  unfold spreadTN soundN spreadN
  rw [ho, hk, hn]
  have h1 : allN (upToB nm.length) L [5, 8] = true := by
    rw [allN_iff] at hu ⊢
    intro d hd hk
    simp only [List.mem_cons, List.not_mem_nil, or_false] at hk
    rcases hk with hk | hk
    · have := (grN_mem hc _).1 (gr_kind hd hk)
      unfold upToB
      rw [decide_eq_true this.1, decide_eq_true this.2]; rfl
    · exact hu d hd (by simp [hk])
  rw [h1, allN_all]
  simp only [Option.isSome_some, Bool.true_and]
  unfold plainN
  congr 1
  funext d
  unfold plainNd endlessB
  simp only [List.mem_cons, List.not_mem_nil, or_false]
  by_cases hd : d.kind = 7 <;> simp [hd]
theorem right_groups {L : List Nd} {nm : List ByteArray} (h : rightN L nm = true) : cnt5 L = nm.length ∧ mxL (grN L) = (nm.length : Int) ∧ mnL (grN L) = if nm.length = 0 then 0 else 1 := by
  obtain ⟨l, _, _, _, hw⟩ := right_parts h
  obtain ⟨_, _, hc, _⟩ := written_parts hw
  exact ⟨cnt5_eq hc, mx_gr hc, mn_gr hc⟩
end Go.Proofs.YtpiknmnhcpjfaaaGreat
