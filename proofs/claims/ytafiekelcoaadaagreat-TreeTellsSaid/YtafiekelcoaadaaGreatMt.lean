/- What a written tree's groups are, plain; what it is to be spread. -/
/- Plain: a tree in order with a node above it; what a node of one covers. -/
/- Plain: what a node of a tree in order covers is in order; of a written one, without groups, it is written. -/
import Derived.Test.YtafiekelcoaadaaGreatMq
import Derived.Test.YtafiekelcoaadaaGreatLm

namespace Go.Proofs.YtafiekelcoaadaaGreat
open Go.RowKit Tnr Tnt

def plainNd (d : Nd) : Bool := !(d.kind == 7) || (d.mn == 0 && (d.mx == -1 && !(d.mode == 3)))
def plainN (L : List Nd) : Bool := L.all plainNd
def cnt5 (L : List Nd) : Nat := (evN [5] 0 L).length
def freeN (L : List Nd) : Bool := L.all fun d => d.group == 0
theorem evN_all (P : Nd → Bool) (ks : List Int) : ∀ (L : List Nd) (k : Nat), ((evN ks k L).all fun x => P x.2) = L.all fun d => !(decide (d.kind ∈ ks)) || P d
  | [], _ => rfl
  | d :: L, k => by
    have h := evN_all P ks L (k + 1)
    unfold evN
    by_cases hd : d.kind ∈ ks
    · rw [if_pos hd, List.all_cons, List.all_cons, h, decide_eq_true hd]; rfl
    · rw [if_neg hd, List.all_cons, h, decide_eq_false hd]; rfl
theorem allN_all (P : Nd → Bool) (L : List Nd) (ks : List Int) : allN P L ks = L.all fun d => !(decide (d.kind ∈ ks)) || P d := evN_all P ks L 0
theorem allN_iff (P : Nd → Bool) (L : List Nd) (ks : List Int) : allN P L ks = true ↔ ∀ d ∈ L, d.kind ∈ ks → P d = true := by
  rw [allN_all, List.all_eq_true]
  constructor
  · intro h d hd hk
    have := h d hd
    rw [decide_eq_true hk] at this
    simpa using this
  · intro h d hd
    by_cases hk : d.kind ∈ ks
    · rw [h d hd hk]; simp
    · rw [decide_eq_false hk]; rfl
theorem evN_mem (ks : List Int) : ∀ (L : List Nd) (k : Nat) (x : Nat × Nd), x ∈ evN ks k L ↔ ∃ j, x.1 = k + j ∧ L[j]? = some x.2 ∧ x.2.kind ∈ ks
  | [], k, x => by simp [evN]
  | d :: L, k, x => by
    have h := evN_mem ks L (k + 1) x
    have step : (∃ j, x.1 = k + j ∧ (d :: L)[j]? = some x.2 ∧ x.2.kind ∈ ks) ↔ (x.1 = k ∧ d = x.2 ∧ x.2.kind ∈ ks) ∨ ∃ j, x.1 = k + 1 + j ∧ L[j]? = some x.2 ∧ x.2.kind ∈ ks := by
      constructor
      · rintro ⟨j, h1, h2, h3⟩
        cases j with
        | zero => exact .inl ⟨by omega, by simpa using h2, h3⟩
        | succ j => exact .inr ⟨j, by omega, by simpa using h2, h3⟩
      · rintro (⟨h1, h2, h3⟩ | ⟨j, h1, h2, h3⟩)
        · exact ⟨0, by omega, by simp [h2], h3⟩
        · exact ⟨j + 1, by omega, by simpa using h2, h3⟩
    rw [step, ← h, show evN ks k (d :: L) = if d.kind ∈ ks then (k, d) :: evN ks (k + 1) L else evN ks (k + 1) L from rfl]
    by_cases hd : d.kind ∈ ks
    · rw [if_pos hd, List.mem_cons]
      constructor
      · rintro (rfl | hx)
        · exact .inl ⟨rfl, rfl, hd⟩
        · exact .inr hx
      · rintro (⟨h1, h2, _⟩ | hx)
        · exact .inl (Prod.ext h1 h2.symm)
        · exact .inr hx
    · rw [if_neg hd]
      constructor
      · exact fun hx => .inr hx
      · rintro (⟨_, h2, h3⟩ | hx)
        · rw [← h2] at h3; exact absurd h3 hd
        · exact hx
theorem nN_get {L : List Nd} {j : Nat} {d : Nd} (h : L[j]? = some d) : nN L j = d := by
  unfold nN; rw [List.getD_eq_getElem?_getD, h]; rfl
theorem gr_of_pl (L : List Nd) : grN L = (plN [5] L).map fun p => (nN L p.toNat).group := by
  unfold grN plN
  rw [List.map_map]
  refine List.map_congr_left fun x hx => ?_
  obtain ⟨j, h1, h2, _⟩ := (evN_mem [5] L 0 x).1 hx
  show x.2.group = (nN L ((x.1 : Nat) : Int).toNat).group
  rw [show ((x.1 : Nat) : Int).toNat = j by omega, nN_get h2]
theorem begN_perm (L : List Nd) (fs : List Int) : (begN L fs).Perm (plN [5] L) := begL_perm _ _
theorem cnt_range {L : List Nd} {ps : List Int} (h : cntN L ps = true) : ps.map (fun p => (nN L p.toNat).group) = (List.range ps.length).map fun i => ((i : Nat) : Int) + 1 := by
  unfold cntN at h
  rw [List.all_eq_true] at h
  refine List.ext_getElem (by simp) fun i h1 h2 => ?_
  have hi : i < ps.length := by simpa using h1
  have := h i (List.mem_range.2 hi)
  rw [gz_get hi] at this
  simpa using this
theorem gr_perm {L : List Nd} {fs : List Int} {nm : Nat} (h : countN L fs nm = true) : (grN L).Perm ((List.range nm).map fun i => ((i : Nat) : Int) + 1) := by
  unfold countN at h
  rw [Bool.and_eq_true] at h
  have hl : (begN L fs).length = nm := by simpa using h.2
  rw [gr_of_pl, ← hl, ← cnt_range h.1]
  exact ((begN_perm L fs).map _).symm
theorem cnt5_eq {L : List Nd} {fs : List Int} {nm : Nat} (h : countN L fs nm = true) : cnt5 L = nm := by
  have := (gr_perm h).length_eq
  unfold grN at this
  unfold cnt5
  simpa using this
theorem grN_mem {L : List Nd} {fs : List Int} {nm : Nat} (h : countN L fs nm = true) (z : Int) : z ∈ grN L ↔ 1 ≤ z ∧ z ≤ (nm : Int) := by
  rw [(gr_perm h).mem_iff, List.mem_map]
  constructor
  · rintro ⟨i, hi, rfl⟩
    have := List.mem_range.1 hi
    omega
  · rintro ⟨h1, h2⟩
    exact ⟨(z - 1).toNat, List.mem_range.2 (by omega), by omega⟩
theorem mx_gr {L : List Nd} {fs : List Int} {nm : Nat} (h : countN L fs nm = true) : mxL (grN L) = (nm : Int) := by
  by_cases h0 : nm = 0
  · have : grN L = [] := by
      have := (gr_perm h).length_eq
      rw [h0] at this
      simpa using this
    rw [this, h0]; rfl
  · have hne : grN L ≠ [] := fun e => by
      have := (grN_mem h 1).2 (by omega)
      rw [e] at this; simp at this
    obtain ⟨h1, h2⟩ := mxL_spec (grN L) hne
    have h3 := (grN_mem h _).1 h1
    have h4 := h2 (nm : Int) ((grN_mem h _).2 (by omega))
    omega
theorem mn_gr {L : List Nd} {fs : List Int} {nm : Nat} (h : countN L fs nm = true) : mnL (grN L) = if nm = 0 then 0 else 1 := by
  by_cases h0 : nm = 0
  · have : grN L = [] := by
      have := (gr_perm h).length_eq
      rw [h0] at this
      simpa using this
    rw [this, if_pos h0]; rfl
  · rw [if_neg h0]
    have hne : grN L ≠ [] := fun e => by
      have := (grN_mem h 1).2 (by omega)
      rw [e] at this; simp at this
    obtain ⟨h1, h2⟩ := mnL_spec (grN L) hne
    have h3 := (grN_mem h _).1 h1
    have h4 := h2 1 ((grN_mem h _).2 (by omega))
    omega
theorem gr_kind {L : List Nd} {d : Nd} (h : d ∈ L) (hk : d.kind = 5) : d.group ∈ grN L := by
  obtain ⟨j, hj⟩ := List.getElem?_of_mem h
  unfold grN
  exact List.mem_map.2 ⟨(j, d), (evN_mem [5] L 0 (j, d)).2 ⟨j, by simp, hj, by simp [hk]⟩, rfl⟩
/-- what is known of a written tree. -/
theorem right_parts {L : List Nd} {nm : List ByteArray} (h : rightN L nm = true) : ∃ l, ordT L = some l ∧ kindsN L = true ∧ namedB nm = true ∧ writtenN L l nm.length = true := by
  unfold rightN soundN at h
  cases ho : ordT L with
  | none => rw [ho] at h; simp at h
  | some l =>
    rw [ho] at h
    simp only [Option.isSome_some, Bool.true_and, Bool.and_eq_true] at h
    exact ⟨l, rfl, h.1.1, h.1.2, h.2⟩
theorem written_parts {L : List Nd} {l : List (Nat × Nat)} {nm : Nat} (h : writtenN L l nm = true) : (gf l (L.length - 1)).2 ≤ 60 ∧ allN neverB L [12, 13] = true ∧ countN L (fsZ l) nm = true ∧ allN (upToB nm) L [8] = true := by
  unfold writtenN at h
  simp only [Bool.and_eq_true, decide_eq_true_eq] at h
  exact ⟨h.1, h.2.1, h.2.2.1, h.2.2.2⟩
theorem right_spread {L : List Nd} {nm : List ByteArray} (h : rightN L nm = true) : spreadTN L nm = plainN L := by
  obtain ⟨l, ho, hk, hn, hw⟩ := right_parts h
  obtain ⟨_, _, hc, hu⟩ := written_parts hw
  unfold spreadTN soundN spreadN
  rw [ho, hk, hn]
  have h1 : allN (upToB nm.length) L [5, 8] = true := by
    rw [allN_iff] at hu ⊢
    intro d hd hk
    simp only [List.mem_cons, List.not_mem_nil, or_false] at hk
    rcases hk with hk | hk
    · have := (grN_mem hc _).1 (gr_kind hd hk)
      unfold upToB
      rw [decide_eq_true this.1, decide_eq_true this.2]; rfl
    · exact hu d hd (by simp [hk])
  rw [h1, allN_all]
  simp only [Option.isSome_some, Bool.true_and]
  unfold plainN
  congr 1
  funext d
  unfold plainNd endlessB
  simp only [List.mem_cons, List.not_mem_nil, or_false]
  by_cases hd : d.kind = 7 <;> simp [hd]
theorem right_groups {L : List Nd} {nm : List ByteArray} (h : rightN L nm = true) : cnt5 L = nm.length ∧ mxL (grN L) = (nm.length : Int) ∧ mnL (grN L) = if nm.length = 0 then 0 else 1 := by
  obtain ⟨l, _, _, _, hw⟩ := right_parts h
  obtain ⟨_, _, hc, _⟩ := written_parts hw
  exact ⟨cnt5_eq hc, mx_gr hc, mn_gr hc⟩
end Go.Proofs.YtafiekelcoaadaaGreat


namespace Go.Proofs.YtafiekelcoaadaaGreat
open Go.RowKit Tnr Tnt

theorem ordG_append : ∀ (L M : List Nd) (acc : List (Nat × Nat)), ordG (L ++ M) acc = match ordG L acc with
    | none => none
    | some a => ordG M a
  | [], M, acc => rfl
  | n :: L, M, acc => by
    show ordG (n :: (L ++ M)) acc = _
    cases hr : rk (gf acc) n.kids.reverse acc.length 0 with
    | none => rw [ordG_none hr, ordG_none hr]
    | some x =>
      obtain ⟨f, d⟩ := x
      rw [ordG_cons hr, ordG_cons hr]
      exact ordG_append L M _
theorem ordT_G {L : List Nd} {l : List (Nat × Nat)} (h : ordT L = some l) : ordG L [] = some l := by
  have hlen := ordT_len h
  unfold ordT at h
  rw [if_neg (by omega)] at h
  cases hg : ordG L [] with
  | none => rw [hg] at h; cases h
  | some m =>
    rw [hg] at h
    simp only at h
    by_cases h0 : (gf m (L.length - 1)).1 = 0
    · rw [if_pos h0] at h; exact h
    · rw [if_neg h0] at h; cases h
theorem ordT_of {L : List Nd} {l : List (Nat × Nat)} (h : ordG L [] = some l) (h1 : 1 ≤ L.length) (h4 : L.length ≤ 4000) (h0 : (gf l (L.length - 1)).1 = 0) : ordT L = some l := by
  unfold ordT
  rw [if_neg (by omega), h]
  simp only
  rw [if_pos h0]
def ahNd : Nd := ⟨10, [], [], 0, 0, 0, 0, 0, true⟩
def upNd (n : Nat) : Nd := { ahNd with kids := [(n : Int) - 1] }
theorem w64_id (k : Int) (h : -4611686018427387904 ≤ k ∧ k < 4611686018427387904) : w64 k = k := by unfold w64; omega
theorem mv_zero {d : Nd} (h : ∀ k ∈ d.kids, 0 ≤ k ∧ k < 4611686018427387904) : mv 0 d = d := by
  unfold mv
  have : (d.kids.map fun k => w64 (k + 0)) = d.kids := by
    conv => rhs; rw [← List.map_id d.kids]
    exact List.map_congr_left fun k hk => by have := h k hk; rw [Int.add_zero, w64_id k (by omega)]; rfl
  rw [this]
theorem join_up {L : List Nd} {l : List (Nat × Nat)} (h : ordT L = some l) : joinT ahNd [L] = L ++ [upNd L.length] := by
  obtain ⟨hok, _, h1, h4⟩ := ordT_ok h
  have e : joinA [L] [] [] = (L.map (mv 0), [(L.length : Int) - 1]) := by
    unfold joinA
    rw [if_neg (by omega)]
    unfold joinA
    simp
  unfold joinT
  rw [e]
  have hm : L.map (mv 0) = L := by
    conv => rhs; rw [← List.map_id L]
    refine List.map_congr_left fun d hd => ?_
    obtain ⟨i, hi, rfl⟩ := List.getElem_of_mem hd
    exact mv_zero fun k hk => by have := ordOk_kid hok hi k hk; omega
  show L.map (mv 0) ++ _ = _
  rw [hm]
  rfl
theorem gf_last (l : List (Nat × Nat)) (x : Nat × Nat) : gf (l ++ [x]) l.length = x := by
  unfold gf; rw [List.getD_eq_getElem?_getD]; simp
theorem ord_up {L : List Nd} {l : List (Nat × Nat)} (h : ordT L = some l) (hn : L.length < 4000) : ordT (L ++ [upNd L.length]) = some (l ++ [(0, (gf l (L.length - 1)).2 + 1)]) := by
  obtain ⟨hok, h0, h1, h4⟩ := ordT_ok h
  have hr : rk (gf l) (upNd L.length).kids.reverse l.length 0 = some (0, (gf l (L.length - 1)).2) := by
    show rk (gf l) [(L.length : Int) - 1] l.length 0 = _
    rw [rk_cons, hok.1, if_neg (by omega), h0]
    show some (0, max 0 _) = _
    rw [Nat.zero_max]
  refine ordT_of ?_ (by simp) (by simp; omega) ?_
  · rw [ordG_append, ordT_G h]
    show ordG [upNd L.length] l = _
    rw [ordG_cons hr]; rfl
  · rw [List.length_append, List.length_singleton, Nat.add_sub_cancel, ← hok.1, gf_last]
theorem evN_append (ks : List Int) : ∀ (L M : List Nd) (k : Nat), evN ks k (L ++ M) = evN ks k L ++ evN ks (k + L.length) M
  | [], M, k => by simp [evN]
  | d :: L, M, k => by
    have h := evN_append ks L M (k + 1)
    rw [show k + 1 + L.length = k + (d :: L).length by simp; omega] at h
    show evN ks k (d :: (L ++ M)) = _
    rw [show evN ks k (d :: (L ++ M)) = if d.kind ∈ ks then (k, d) :: evN ks (k + 1) (L ++ M) else evN ks (k + 1) (L ++ M) from rfl, show evN ks k (d :: L) = if d.kind ∈ ks then (k, d) :: evN ks (k + 1) L else evN ks (k + 1) L from rfl, h]
    split <;> rfl
theorem pl_up (L : List Nd) : plN [5] (L ++ [upNd L.length]) = plN [5] L := by
  unfold plN
  rw [evN_append, show evN [5] (0 + L.length) [upNd L.length] = [] from rfl, List.append_nil]
theorem pl_in {L : List Nd} {ks : List Int} {p : Int} (h : p ∈ plN ks L) : 0 ≤ p ∧ p < (L.length : Int) := by
  obtain ⟨x, hx, rfl⟩ := List.mem_map.1 h
  obtain ⟨j, h1, h2, _⟩ := (evN_mem ks L 0 x).1 hx
  have : j < L.length := by
    rcases Nat.lt_or_ge j L.length with h | h
    · exact h
    · rw [List.getElem?_eq_none h] at h2; cases h2
  omega
theorem begL_congr {fs gs ps : List Int} (h : ∀ p ∈ ps, gz fs p.toNat = gz gs p.toNat) : begL fs ps = begL gs ps := by
  unfold begL
  have h2 := List.map_mergeSort (r := fun a b => !ltB fs b a) (s := fun a b => !ltB gs b a) (f := fun x : Int => x) (l := ps) (fun a ha b hb => by
    show (!ltB fs b a) = !ltB gs b a
    unfold ltB
    rw [h a ha, h b hb])
  simpa using h2
theorem gz_append_lt {l m : List Int} {i : Nat} (h : i < l.length) : gz (l ++ m) i = gz l i := by
  unfold gz
  rw [List.getD_eq_getElem?_getD, List.getD_eq_getElem?_getD, List.getElem?_append_left h]
theorem nN_append_lt {L M : List Nd} {i : Nat} (h : i < L.length) : nN (L ++ M) i = nN L i := by
  unfold nN
  rw [List.getD_eq_getElem?_getD, List.getD_eq_getElem?_getD, List.getElem?_append_left h]
theorem count_up {L : List Nd} {l : List (Nat × Nat)} (hl : l.length = L.length) (x : Nat × Nat) (nm : Nat) : countN (L ++ [upNd L.length]) (fsZ (l ++ [x])) nm = countN L (fsZ l) nm := by
  have hb : begN (L ++ [upNd L.length]) (fsZ (l ++ [x])) = begN L (fsZ l) := by
    unfold begN
    rw [pl_up]
    refine begL_congr fun p hp => ?_
    have := pl_in hp
    have e : fsZ (l ++ [x]) = fsZ l ++ fsZ [x] := by unfold fsZ; rw [List.map_append]
    rw [e, gz_append_lt (by rw [fsZ_length, hl]; omega)]
  unfold countN
  rw [hb]
  congr 1
  unfold cntN
  rw [Bool.eq_iff_iff, List.all_eq_true, List.all_eq_true]
  have key : ∀ i ∈ List.range (begN L (fsZ l)).length, nN (L ++ [upNd L.length]) (gz (begN L (fsZ l)) i).toNat = nN L (gz (begN L (fsZ l)) i).toNat := fun i hi => by
    have hi := List.mem_range.1 hi
    refine nN_append_lt ?_
    rw [gz_get hi]
    have := pl_in ((begN_perm L (fsZ l)).subset (List.getElem_mem (l := begN L (fsZ l)) hi))
    omega
  constructor
  · intro h i hi; have := h i hi; rw [key i hi] at this; exact this
  · intro h i hi; have := h i hi; rw [key i hi]; exact this
theorem kind_up (n : Nat) : kindN (upNd n) = true := rfl
theorem right_up {L : List Nd} {nm : List ByteArray} (h : rightN L nm = true) : rightN (joinT ahNd [L]) nm = (decide (L.length < 4000) && decide (deepT L < 60)) := by
  obtain ⟨l, ho, hk, hn, hw⟩ := right_parts h
  obtain ⟨_, hv, hc, hu⟩ := written_parts hw
  obtain ⟨hok, h0, h1, h4⟩ := ordT_ok ho
  rw [join_up ho]
  have hd : deepT L = (gf l (L.length - 1)).2 := by unfold deepT; rw [ho]
  by_cases hn4 : L.length < 4000
  · rw [decide_eq_true hn4, Bool.true_and, hd]
    unfold rightN soundN writtenN
    rw [ord_up ho hn4, hn]
    dsimp only
    rw [count_up hok.1, hc]
    have hkk : kindsN (L ++ [upNd L.length]) = true := by unfold kindsN at *; rw [List.all_append, hk]; rfl
    have hvv : allN neverB (L ++ [upNd L.length]) [12, 13] = true := by rw [allN_all] at *; rw [List.all_append, hv]; rfl
    have huu : allN (upToB nm.length) (L ++ [upNd L.length]) [8] = true := by rw [allN_all] at *; rw [List.all_append, hu]; rfl
    rw [hkk, hvv, huu]
    rw [List.length_append, List.length_singleton, Nat.add_sub_cancel]
    rw [show gf (l ++ [(0, (gf l (L.length - 1)).2 + 1)]) L.length = (0, (gf l (L.length - 1)).2 + 1) by rw [← hok.1]; exact gf_last _ _]
    simp only [Option.isSome_some, Bool.true_and, Bool.and_true]
    by_cases h6 : (gf l (L.length - 1)).2 < 60
    · rw [decide_eq_true h6, decide_eq_true (by omega)]
    · rw [decide_eq_false h6, decide_eq_false (by omega)]
  · rw [decide_eq_false hn4, Bool.false_and]
    unfold rightN soundN
    rw [show ordT (L ++ [upNd L.length]) = none by unfold ordT; rw [if_pos (by simp; omega)]]
    rfl
end Go.Proofs.YtafiekelcoaadaaGreat


namespace Go.Proofs.YtafiekelcoaadaaGreat
open Go.RowKit Tnr Tnt

/-- whatever begins inside ends inside, and is no deeper. -/
def Lam (F : Nat → Nat × Nat) (k : Nat) : Prop := ∀ j, (F k).1 ≤ j → j ≤ k → (F k).1 ≤ (F j).1 ∧ (F j).2 ≤ (F k).2
theorem rk_ge {F : Nat → Nat × Nat} : ∀ {ks : List Int} {c d a e : Nat}, rk F ks c d = some (a, e) → d ≤ e
  | [], c, d, a, e, h => by
    simp only [rk, Option.some.injEq, Prod.mk.injEq] at h
    omega
  | k :: ks, c, d, a, e, h => by
    rw [rk_cons] at h
    by_cases hc : c = 0 ∨ k ≠ (c : Int) - 1
    · rw [if_pos hc] at h; cases h
    · rw [if_neg hc] at h
      have := rk_ge h
      omega
theorem rk_low {F : Nat → Nat × Nat} : ∀ {ks : List Int} {c d a e : Nat}, (∀ j, j < c → (F j).1 ≤ j) → rk F ks c d = some (a, e) → a ≤ c
  | [], c, d, a, e, _, h => by
    simp only [rk, Option.some.injEq, Prod.mk.injEq] at h
    omega
  | k :: ks, c, d, a, e, hl, h => by
    rw [rk_cons] at h
    by_cases hc : c = 0 ∨ k ≠ (c : Int) - 1
    · rw [if_pos hc] at h; cases h
    · rw [if_neg hc] at h
      have h1 := hl (c - 1) (by omega)
      have := rk_low (fun j hj => hl j (by omega)) h
      omega
theorem rk_lam {F : Nat → Nat × Nat} : ∀ {ks : List Int} {c d a e : Nat}, (∀ j, j < c → (F j).1 ≤ j) → (∀ j, j < c → Lam F j) → rk F ks c d = some (a, e) → ∀ j, a ≤ j → j < c → a ≤ (F j).1 ∧ (F j).2 ≤ e
  | [], c, d, a, e, _, _, h => fun j h1 h2 => by
    simp only [rk, Option.some.injEq, Prod.mk.injEq] at h
    omega
  | k :: ks, c, d, a, e, hl, hL, h => fun j h1 h2 => by
    rw [rk_cons] at h
    by_cases hc : c = 0 ∨ k ≠ (c : Int) - 1
    · rw [if_pos hc] at h; cases h
    · rw [if_neg hc] at h
      have h3 := hl (c - 1) (by omega)
      by_cases hj : (F (c - 1)).1 ≤ j
      · have h4 := hL (c - 1) (by omega) j hj (by omega)
        have h5 := rk_low (fun j hj => hl j (by omega)) h
        have h6 := rk_ge h
        omega
      · exact rk_lam (fun j hj => hl j (by omega)) (fun j hj => hL j (by omega)) h j h1 (by omega)
theorem lam_ok {ns : List Nd} {l : List (Nat × Nat)} (h : OrdOk ns l) : ∀ k, k < ns.length → Lam (gf l) k := by
  intro k
  induction k using Nat.strongRecOn with
  | _ k ih =>
    intro hk j h1 h2
    obtain ⟨d, h3, h4⟩ := h.2.2 k hk
    by_cases hj : j = k
    · subst hj; omega
    · have := rk_lam (fun j hj => (h.2.1 j (by omega)).1) (fun j hj => ih j hj (by omega)) h3 j h1 (by omega)
      omega
/-- the same walk, so much further on. -/
theorem rk_shift {F G : Nat → Nat × Nat} {f : Nat} : ∀ {ks : List Int} {c d a e : Nat}, (∀ j, j < c → (F j).1 ≤ j) → (∀ j, f ≤ j → j < c → f ≤ (F j).1 ∧ G (j - f) = ((F j).1 - f, (F j).2)) → f ≤ a → f ≤ c → rk F ks c d = some (a, e) → rk G (ks.map fun k => k - (f : Int)) (c - f) d = some (a - f, e)
  | [], c, d, a, e, _, _, _, _, h => by
    simp only [rk, Option.some.injEq, Prod.mk.injEq] at h
    obtain ⟨rfl, rfl⟩ := h
    rfl
  | k :: ks, c, d, a, e, hl, hG, ha, hf, h => by
    rw [rk_cons] at h
    by_cases hc : c = 0 ∨ k ≠ (c : Int) - 1
    · rw [if_pos hc] at h; cases h
    · rw [if_neg hc] at h
      have h3 := hl (c - 1) (by omega)
      have h4 := rk_low (fun j hj => hl j (by omega)) h
      have hcf : f ≤ c - 1 := by omega
      obtain ⟨h5, h6⟩ := hG (c - 1) hcf (by omega)
      have ih := rk_shift (ks := ks) (fun j hj => hl j (by omega)) (fun j h1 h2 => hG j h1 (by omega)) ha h5 h
      rw [List.map_cons, rk_cons, if_neg (by omega), show c - f - 1 = c - 1 - f by omega, h6]
      exact ih
/-- what tells firsts and deeps. -/
theorem ordG_of : ∀ (ns : List Nd) (acc tl : List (Nat × Nat)), tl.length = ns.length → (∀ j, j < acc.length + ns.length → (gf (acc ++ tl) j).1 ≤ j) →
    (∀ i (h : i < ns.length), ∃ d, rk (gf (acc ++ tl)) ns[i].kids.reverse (acc.length + i) 0 = some ((gf (acc ++ tl) (acc.length + i)).1, d) ∧ (gf (acc ++ tl) (acc.length + i)).2 = d + 1) → ordG ns acc = some (acc ++ tl)
  | [], acc, tl, hl, _, _ => by
    have : tl = [] := List.eq_nil_of_length_eq_zero hl
    rw [this, List.append_nil]; rfl
  | n :: ns, acc, [], hl, _, _ => by simp at hl
  | n :: ns, acc, x :: tl, hl, hlow, hall => by
    obtain ⟨d, h1, h2⟩ := hall 0 (by simp)
    rw [Nat.add_zero] at h1 h2
    have hx : gf (acc ++ x :: tl) acc.length = x := by
      unfold gf; rw [List.getD_eq_getElem?_getD]; simp
    rw [hx] at h1 h2
    have h3 : rk (gf acc) n.kids.reverse acc.length 0 = some (x.1, d) := by
      rw [← h1]
      refine rk_congr (fun j hj => ?_) (fun j hj => ?_)
      · exact (gf_append_lt hj).symm
      · have := hlow j (by omega)
        rw [gf_append_lt hj] at this
        exact this
    rw [ordG_cons h3, show (x.1, d + 1) = x from Prod.ext rfl h2.symm]
    have ih := ordG_of ns (acc ++ [x]) tl (by simpa using hl) (fun j hj => by
      rw [List.append_assoc]; exact hlow j (by rw [List.length_append] at hj; simp at hj ⊢; omega)) (fun i hi => by
      have := hall (i + 1) (by simp; omega)
      rw [List.append_assoc, List.length_append, show acc.length + [x].length + i = acc.length + (i + 1) by simp; omega]
      exact this)
    rw [ih, List.append_assoc]; rfl
/-- firsts and deeps of what a node covers. -/
def covL (l : List (Nat × Nat)) (f k : Nat) : List (Nat × Nat) := (List.range (k + 1 - f)).map fun j => ((gf l (f + j)).1 - f, (gf l (f + j)).2)
theorem gf_cov (l : List (Nat × Nat)) (f k j : Nat) (h : j < k + 1 - f) : gf (covL l f k) j = ((gf l (f + j)).1 - f, (gf l (f + j)).2) := by
  show (covL l f k).getD j (0, 0) = _
  unfold covL
  rw [List.getD_eq_getElem?_getD, List.getElem?_map, List.getElem?_range h]; rfl
theorem cov_len {L : List Nd} {f k : Nat} (hk : k < L.length) (hf : f ≤ k) : (covN L f k).length = k + 1 - f := by
  unfold covN; simp; omega
theorem cov_get {L : List Nd} {f k i : Nat} (hk : k < L.length) (hf : f ≤ k) (hi : i < (covN L f k).length) : (covN L f k)[i] = mv (-(f : Int)) (L[f + i]'(by rw [cov_len hk hf] at hi; omega)) := by
  unfold covN; simp
theorem ord_cov {L : List Nd} {l : List (Nat × Nat)} (h : ordT L = some l) {k : Nat} (hk : k < L.length) : ordT (covN L (gf l k).1 k) = some (covL l (gf l k).1 k) ∧ (gf (covL l (gf l k).1 k) ((covN L (gf l k).1 k).length - 1)).2 = (gf l k).2 := by
  obtain ⟨hok, h0, h1, h4⟩ := ordT_ok h
  obtain ⟨f, hf⟩ : ∃ f, f = (gf l k).1 := ⟨_, rfl⟩
  rw [← hf]
  have hfk : f ≤ k := by rw [hf]; exact (hok.2.1 k hk).1
  have hlen := cov_len (L := L) hk hfk
  have hlam := lam_ok hok k hk
  rw [Lam, ← hf] at hlam
  have hcl : (covL l f k).length = k + 1 - f := by unfold covL; simp
  refine ⟨ordT_of ?_ (by rw [hlen]; omega) (by rw [hlen]; omega) ?_, ?_⟩
  · have := ordG_of (covN L f k) [] (covL l f k) (by rw [hcl, hlen]) (fun j hj => by
      rw [List.nil_append]
      rw [List.length_nil, Nat.zero_add, hlen] at hj
      rw [gf_cov l f k j hj]
      have := (hok.2.1 (f + j) (by omega)).1
      show (gf l (f + j)).1 - f ≤ j
      omega) (fun i hi => by
      rw [List.nil_append, List.length_nil, Nat.zero_add]
      have hi2 : i < k + 1 - f := by rw [hlen] at hi; exact hi
      obtain ⟨d, h5, h6⟩ := hok.2.2 (f + i) (by omega)
      refine ⟨d, ?_, by rw [gf_cov l f k i hi2]; exact h6⟩
      rw [gf_cov l f k i hi2, cov_get hk hfk hi]
      have hs := rk_shift (G := gf (covL l f k)) (f := f) (fun j hj => (hok.2.1 j (by omega)).1) (fun j hj1 hj2 => ⟨(hlam j hj1 (by omega)).1, by rw [gf_cov l f k (j - f) (by omega), show f + (j - f) = j by omega]⟩) (hlam (f + i) (by omega) (by omega)).1 (by omega) h5
      rw [show f + i - f = i by omega] at hs
      show rk (gf (covL l f k)) ((L[f + i]'(by omega)).kids.map fun x => w64 (x + -(f : Int))).reverse i 0 = _
      rw [← List.map_reverse, ← hs]
      congr 1
      refine List.map_congr_left fun x hx => ?_
      have := ordOk_kid hok (show f + i < L.length by omega) x (by simpa using hx)
      rw [w64_id _ (by omega)]; omega)
    rw [List.nil_append] at this
    exact this
  · rw [hlen, gf_cov l f k _ (by omega), show f + (k + 1 - f - 1) = k by omega, ← hf]
    show f - f = 0
    omega
  · rw [hlen, gf_cov l f k _ (by omega), show f + (k + 1 - f - 1) = k by omega]
theorem cov_mem {L : List Nd} {f k : Nat} {d : Nd} (h : d ∈ covN L f k) : ∃ x ∈ L, d = mv (-(f : Int)) x := by
  unfold covN at h
  obtain ⟨x, hx, rfl⟩ := List.mem_map.1 h
  exact ⟨x, List.mem_of_mem_drop (List.mem_of_mem_take hx), rfl⟩
theorem kind_mv (d : Int) (x : Nd) : kindN (mv d x) = kindN x := by
  have hl : (mv d x).kids.length = x.kids.length := by simp [mv]
  have e : ∀ (lo hi : Int) (P : Nd → Bool) (T : NV → NV), P (mv d x) = P x → bareB (T (mkN (mv d x))).nd = bareB (T (mkN x)).nd → fitsB lo hi P T (mkN (mv d x)) = fitsB lo hi P T (mkN x) := by
    intro lo hi P T h1 h2
    show (decide (lo ≤ ((mv d x).kids.length : Int)) && (decide (((mv d x).kids.length : Int) ≤ hi) && (P (mv d x) && bareB (T (mkN (mv d x))).nd))) = _
    rw [hl, h1, h2]; rfl
  unfold kindN kindB
  rw [e 0 0 bareB id rfl rfl, e 0 0 setB noSet rfl rfl, e 2 4000 bareB id rfl rfl, e 1 1 (fun _ => true) noGroup rfl rfl, e 1 1 bareB id rfl rfl, e 1 1 repeatB noTimes rfl rfl, e 0 0 (fun _ => true) noGroup rfl rfl, e 0 0 spotB noSpot rfl rfl, e 1 1 (fun _ => true) noNot rfl rfl, e 1 2 tryB noMode rfl rfl]
  rfl
theorem right_cov {L : List Nd} {nm : List ByteArray} (h : rightN L nm = true) {k : Nat} (hk : k < L.length) (hfree : freeN (ofT L (k : Int)) = true) : rightN (ofT L (k : Int)) [] = true := by
  obtain ⟨l, ho, hkk, _, hw⟩ := right_parts h
  obtain ⟨h60, hv, hc, hu⟩ := written_parts hw
  obtain ⟨hok, h0, h1, h4⟩ := ordT_ok ho
  have e : ofT L (k : Int) = covN L (gf l k).1 k := by
    unfold ofT
    rw [ho]
    simp only
    rw [if_pos (by omega), Int.toNat_natCast]
  rw [e] at hfree ⊢
  obtain ⟨hoc, hdc⟩ := ord_cov ho hk
  unfold freeN at hfree
  rw [List.all_eq_true] at hfree
  have hg : ∀ d ∈ covN L (gf l k).1 k, d.kind ≠ 5 ∧ d.kind ≠ 8 := fun d hd => by
    obtain ⟨x, hx, rfl⟩ := cov_mem hd
    have hz : x.group = 0 := by simpa [mv] using hfree _ hd
    refine ⟨fun h5 => ?_, fun h8 => ?_⟩
    · have := (grN_mem hc _).1 (gr_kind hx h5)
      omega
    · have := (allN_iff _ _ _).1 hu x hx (by simp [show x.kind = 8 from h8])
      unfold upToB at this
      simp only [Bool.and_eq_true, decide_eq_true_eq] at this
      omega
  have hpl : plN [5] (covN L (gf l k).1 k) = [] := by
    refine List.eq_nil_iff_forall_not_mem.2 fun p hp => ?_
    obtain ⟨x, hx, _⟩ := List.mem_map.1 hp
    obtain ⟨j, _, h2, h3⟩ := (evN_mem [5] _ 0 x).1 hx
    have := (hg x.2 (List.mem_of_getElem? h2)).1
    simp only [List.mem_cons, List.not_mem_nil, or_false] at h3
    exact this h3
  have hdeep : (gf l k).2 ≤ (gf l (L.length - 1)).2 := (lam_ok hok (L.length - 1) (by omega) k (by omega) (by omega)).2
  have hk' : kindsN (covN L (gf l k).1 k) = true := by
    unfold kindsN at *
    rw [List.all_eq_true] at *
    intro d hd
    obtain ⟨x, hx, rfl⟩ := cov_mem hd
    rw [kind_mv]; exact hkk x hx
  have hv' : allN neverB (covN L (gf l k).1 k) [12, 13] = true := by
    rw [allN_iff] at *
    intro d hd hdk
    obtain ⟨x, hx, rfl⟩ := cov_mem hd
    exact hv x hx hdk
  have hu' : allN (upToB 0) (covN L (gf l k).1 k) [8] = true := by
    rw [allN_iff]
    intro d hd hdk
    exact absurd (by simpa using hdk) (hg d hd).2
  unfold rightN soundN writtenN countN begN begL
  rw [hoc, hk']
  dsimp only
  rw [hpl, hdc, List.length_nil, hv', hu', decide_eq_true (show (gf l k).2 ≤ 60 by omega)]
  simp [namedB, cntN]
end Go.Proofs.YtafiekelcoaadaaGreat

