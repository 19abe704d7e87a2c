/- Plain: a tree in order with a node above it; what a node of one covers. -/
import Derived.Test.YtpiknmnhcpjfaaaGreatMr
import Derived.Test.YtpiknmnhcpjfaaaGreatLm
namespace Go.Proofs.YtpiknmnhcpjfaaaGreat
open Go.RowKit Tnr Tnt

theorem ordG_append : ∀ (L M : List Nd) (acc : List (Nat × Nat)), ordG (L ++ M) acc = match ordG L acc with
    | none => none
    | some a => ordG M a
  | [], M, acc => rfl
  | n :: L, M, acc => by
    show ordG (n :: (L ++ M)) acc = _
    cases hr : rk (gf acc) n.kids.reverse acc.length 0 with
    | none => rw [ordG_none hr, ordG_none hr]
    | some x =>
      obtain ⟨f, d⟩ := x
      rw [ordG_cons hr, ordG_cons hr]
      exact ordG_append L M _
theorem ordT_G {L : List Nd} {l : List (Nat × Nat)} (h : ordT L = some l) : ordG L [] = some l := by
  have hlen := ordT_len h
  unfold ordT at h
  rw [if_neg (by omega)] at h
  cases hg : ordG L [] with
  | none => rw [hg] at h; cases h
  | some m =>
    rw [hg] at h
    simp only at h
    by_cases h0 : (gf m (L.length - 1)).1 = 0
    · rw [if_pos h0] at h; exact h
    · rw [if_neg h0] at h; cases h
theorem ordT_of {L : List Nd} {l : List (Nat × Nat)} (h : ordG L [] = some l) (h1 : 1 ≤ L.length) (h4 : L.length ≤ 4000) (h0 : (gf l (L.length - 1)).1 = 0) : ordT L = some l := by
  unfold ordT
  rw [if_neg (by omega), h]
  simp only
  rw [if_pos h0]
def ahNd : Nd := ⟨10, [], [], 0, 0, 0, 0, 0, true⟩
def upNd (n : Nat) : Nd := { ahNd with kids := [(n : Int) - 1] }
theorem w64_id (k : Int) (h : -4611686018427387904 ≤ k ∧ k < 4611686018427387904) : w64 k = k := by unfold w64; omega
theorem mv_zero {d : Nd} (h : ∀ k ∈ d.kids, 0 ≤ k ∧ k < 4611686018427387904) : mv 0 d = d := by
  unfold mv
  have : (d.kids.map fun k => w64 (k + 0)) = d.kids := by
    conv => rhs; rw [← List.map_id d.kids]
    exact List.map_congr_left fun k hk => by have := h k hk; rw [Int.add_zero, w64_id k (by omega)]; rfl
  rw [this]
theorem join_up {L : List Nd} {l : List (Nat × Nat)} (h : ordT L = some l) : joinT ahNd [L] = L ++ [upNd L.length] := by
  obtain ⟨hok, _, h1, h4⟩ := ordT_ok h
  have e : joinA [L] [] [] = (L.map (mv 0), [(L.length : Int) - 1]) := by
    unfold joinA
    rw [if_neg (by omega)]
    unfold joinA
    simp
  unfold joinT
  rw [e]
  have hm : L.map (mv 0) = L := by
    conv => rhs; rw [← List.map_id L]
    refine List.map_congr_left fun d hd => ?_
    obtain ⟨i, hi, rfl⟩ := List.getElem_of_mem hd
    exact mv_zero fun k hk => by have := ordOk_kid hok hi k hk; omega
  show L.map (mv 0) ++ _ = _
  rw [hm]
  rfl
theorem gf_last (l : List (Nat × Nat)) (x : Nat × Nat) : gf (l ++ [x]) l.length = x := by
  unfold gf; rw [List.getD_eq_getElem?_getD]; simp
theorem ord_up {L : List Nd} {l : List (Nat × Nat)} (h : ordT L = some l) (hn : L.length < 4000) : ordT (L ++ [upNd L.length]) = some (l ++ [(0, (gf l (L.length - 1)).2 + 1)]) := by
  obtain ⟨hok, h0, h1, h4⟩ := ordT_ok h
  have hr : rk (gf l) (upNd L.length).kids.reverse l.length 0 = some (0, (gf l (L.length - 1)).2) := by
    show rk (gf l) [(L.length : Int) - 1] l.length 0 = _
    rw [rk_cons, hok.1, if_neg (by omega), h0]
    show some (0, max 0 _) = _
    rw [Nat.zero_max]
  refine ordT_of ?_ (by simp) (by simp; omega) ?_
  · rw [ordG_append, ordT_G h]
    show ordG [upNd L.length] l = _
    rw [ordG_cons hr]; rfl
  · rw [List.length_append, List.length_singleton, Nat.add_sub_cancel, ← hok.1, gf_last]
theorem evN_append (ks : List Int) : ∀ (L M : List Nd) (k : Nat), evN ks k (L ++ M) = evN ks k L ++ evN ks (k + L.length) M
  | [], M, k => by simp [evN]
  | d :: L, M, k => by
    have h := evN_append ks L M (k + 1)
    rw [show k + 1 + L.length = k + (d :: L).length by simp; omega] at h
    show evN ks k (d :: (L ++ M)) = _
    rw [show evN ks k (d :: (L ++ M)) = if d.kind ∈ ks then (k, d) :: evN ks (k + 1) (L ++ M) else evN ks (k + 1) (L ++ M) from rfl, show evN ks k (d :: L) = if d.kind ∈ ks then (k, d) :: evN ks (k + 1) L else evN ks (k + 1) L from rfl, h]
    split <;> rfl
theorem pl_up (L : List Nd) : plN [5] (L ++ [upNd L.length]) = plN [5] L := by
  unfold plN
  rw [evN_append, show evN [5] (0 + L.length) [upNd L.length] = [] from rfl, List.append_nil]
theorem pl_in {L : List Nd} {ks : List Int} {p : Int} (h : p ∈ plN ks L) : 0 ≤ p ∧ p < (L.length : Int) := by
  obtain ⟨x, hx, rfl⟩ := List.mem_map.1 h
  obtain ⟨j, h1, h2, _⟩ := (evN_mem ks L 0 x).1 hx
  have : j < L.length := by
    rcases Nat.lt_or_ge j L.length with h | h
    · exact h
    · rw [List.getElem?_eq_none h] at h2; cases h2
  omega
theorem begL_congr {fs gs ps : List Int} (h : ∀ p ∈ ps, gz fs p.toNat = gz gs p.toNat) : begL fs ps = begL gs ps := by
  unfold begL
  have h2 := List.map_mergeSort (r := fun a b => !ltB fs b a) (s := fun a b => !ltB gs b a) (f := fun x : Int => x) (l := ps) (fun a ha b hb => by
    show (!ltB fs b a) = !ltB gs b a
    unfold ltB
    rw [h a ha, h b hb])
  simpa using h2
theorem gz_append_lt {l m : List Int} {i : Nat} (h : i < l.length) : gz (l ++ m) i = gz l i := by
  unfold gz
  rw [List.getD_eq_getElem?_getD, List.getD_eq_getElem?_getD, List.getElem?_append_left h]
theorem nN_append_lt {L M : List Nd} {i : Nat} (h : i < L.length) : nN (L ++ M) i = nN L i := by
  unfold nN
  rw [List.getD_eq_getElem?_getD, List.getD_eq_getElem?_getD, List.getElem?_append_left h]
theorem count_up {L : List Nd} {l : List (Nat × Nat)} (hl : l.length = L.length) (x : Nat × Nat) (nm : Nat) : countN (L ++ [upNd L.length]) (fsZ (l ++ [x])) nm = countN L (fsZ l) nm := by
  have hb : begN (L ++ [upNd L.length]) (fsZ (l ++ [x])) = begN L (fsZ l) := by
    unfold begN
    rw [pl_up]
    refine begL_congr fun p hp => ?_
    have := pl_in hp
    have e : fsZ (l ++ [x]) = fsZ l ++ fsZ [x] := by unfold fsZ; rw [List.map_append]
    rw [e, gz_append_lt (by rw [fsZ_length, hl]; omega)]
  unfold countN
  rw [hb]
  congr 1
  unfold cntN
  rw [Bool.eq_iff_iff, List.all_eq_true, List.all_eq_true]
  have key : ∀ i ∈ List.range (begN L (fsZ l)).length, nN (L ++ [upNd L.length]) (gz (begN L (fsZ l)) i).toNat = nN L (gz (begN L (fsZ l)) i).toNat := fun i hi => by
    have hi := List.mem_range.1 hi
    refine nN_append_lt ?_
    rw [gz_get hi]
    have := pl_in ((begN_perm L (fsZ l)).subset (List.getElem_mem (l := begN L (fsZ l)) hi))
    omega
  constructor
  · intro h i hi; have := h i hi; rw [key i hi] at this; exact this
  · intro h i hi; have := h i hi; rw [key i hi]; exact this
theorem kind_up (n : Nat) : kindN (upNd n) = true := rfl
theorem right_up {L : List Nd} {nm : List ByteArray} (h : rightN L nm = true) : rightN (joinT ahNd [L]) nm = (decide (L.length < 4000) && decide (deepT L < 60)) := by
  obtain ⟨l, ho, hk, hn, hw⟩ := right_parts h
  obtain ⟨_, hv, hc, hu⟩ := written_parts hw
  obtain ⟨hok, h0, h1, h4⟩ := ordT_ok ho
  rw [join_up ho]
  have hd : deepT L = (gf l (L.length - 1)).2 := by unfold deepT; rw [ho]
  by_cases hn4 : L.length < 4000
  · rw [decide_eq_true hn4, Bool.true_and, hd]
    unfold rightN soundN writtenN
    rw [ord_up ho hn4, hn]
    dsimp only
    rw [count_up hok.1, hc]
    have hkk : kindsN (L ++ [upNd L.length]) = true := by unfold kindsN at *; rw [List.all_append, hk]; rfl
    have hvv : allN neverB (L ++ [upNd L.length]) [12, 13] = true := by rw [allN_all] at *; rw [List.all_append, hv]; rfl
    have huu : allN (upToB nm.length) (L ++ [upNd L.length]) [8] = true := by rw [allN_all] at *; rw [List.all_append, hu]; rfl
    rw [hkk, hvv, huu]
    rw [List.length_append, List.length_singleton, Nat.add_sub_cancel]
    rw [show gf (l ++ [(0, (gf l (L.length - 1)).2 + 1)]) L.length = (0, (gf l (L.length - 1)).2 + 1) by rw [← hok.1]; exact gf_last _ _]
    simp only [Option.isSome_some, Bool.true_and, Bool.and_true]
    by_cases h6 : (gf l (L.length - 1)).2 < 60
    · rw [decide_eq_true h6, decide_eq_true (by omega)]
    · rw [decide_eq_false h6, decide_eq_false (by omega)]
  · rw [decide_eq_false hn4, Bool.false_and]
    unfold rightN soundN
    rw [show ordT (L ++ [upNd L.length]) = none by unfold ordT; rw [if_pos (by simp; omega)]]
    rfl
end Go.Proofs.YtpiknmnhcpjfaaaGreat
