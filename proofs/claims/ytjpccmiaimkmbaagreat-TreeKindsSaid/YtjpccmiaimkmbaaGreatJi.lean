/- Plain: the document's trees are written, spread, just where the program's are. -/
import Derived.Test.YtjpccmiaimkmbaaGreatJh
import Derived.Test.YtjpccmiaimkmbaaGreatJf

namespace Go.Proofs.YtjpccmiaimkmbaaGreat
open Go.RowKit Tnr Tnt

theorem rk_count {F : Nat → Nat × Nat} : ∀ {ks : List Int} {c d a e : Nat}, (∀ j, j < c → (F j).1 ≤ j) → rk F ks c d = some (a, e) → ks.length + a ≤ c
  | [], c, d, a, e, _, h => by
    simp only [rk, Option.some.injEq, Prod.mk.injEq] at h
    simp; omega
  | k :: ks, c, d, a, e, hl, h => by
    rw [rk_cons] at h
    by_cases hc : c = 0 ∨ k ≠ (c : Int) - 1
    · rw [if_pos hc] at h; cases h
    · rw [if_neg hc] at h
      have h3 := hl (c - 1) (by omega)
      have := rk_count (ks := ks) (fun j hj => hl j (by omega)) h
      rw [List.length_cons]; omega
theorem kids_few {L : List Nd} {l : List (Nat × Nat)} (h : ordT L = some l) : ∀ d ∈ L, d.kids.length ≤ 4000 := fun d hd => by
  obtain ⟨hok, _, _, h4⟩ := ordT_ok h
  obtain ⟨i, hi, rfl⟩ := List.getElem_of_mem hd
  obtain ⟨e, h1, _⟩ := hok.2.2 i hi
  have := rk_count (fun j hj => (hok.2.1 j (by omega)).1) h1
  rw [List.length_reverse] at this
  omega
theorem mode3 (d : Nd) : modeB [1, 2, 3] d = (decide (1 ≤ d.mode) && decide (d.mode ≤ 3)) := by
  unfold modeB
  rw [Bool.eq_iff_iff]
  simp only [List.mem_cons, List.not_mem_nil, or_false, Bool.and_eq_true, decide_eq_true_eq]
  omega
theorem mode2 (d : Nd) : modeB [1, 2] d = (decide (d.mode = 1) || decide (d.mode = 2)) := by
  unfold modeB
  rw [Bool.eq_iff_iff]
  simp only [List.mem_cons, List.not_mem_nil, or_false, Bool.or_eq_true, decide_eq_true_eq]
theorem fits_eq (lo hi : Int) (P : Nd → Bool) (T : NV → NV) (d : Nd) (c : Bool) (hc : (decide (lo ≤ (d.kids.length : Int)) && decide ((d.kids.length : Int) ≤ hi)) = c) : fitsB lo hi P T (mkN d) = (c && (bareB (T (mkN d)).nd && P d)) := by
  rw [← hc]
  show (decide (lo ≤ (d.kids.length : Int)) && (decide ((d.kids.length : Int) ≤ hi) && (P d && bareB (T (mkN d)).nd))) = _
  rw [Bool.and_comm (P d), Bool.and_assoc]
theorem kind_eq {d : Nd} (h : d.kids.length ≤ 4000) : kindN d = rkindN d := by
  have z : (decide ((0 : Int) ≤ (d.kids.length : Int)) && decide ((d.kids.length : Int) ≤ 0)) = decide (d.kids.length = 0) := by
    rw [Bool.eq_iff_iff]; simp only [Bool.and_eq_true, decide_eq_true_eq]; omega
  have o : (decide ((1 : Int) ≤ (d.kids.length : Int)) && decide ((d.kids.length : Int) ≤ 1)) = decide (d.kids.length = 1) := by
    rw [Bool.eq_iff_iff]; simp only [Bool.and_eq_true, decide_eq_true_eq]; omega
  have m : (decide ((2 : Int) ≤ (d.kids.length : Int)) && decide ((d.kids.length : Int) ≤ 4000)) = decide (2 ≤ d.kids.length) := by
    rw [Bool.eq_iff_iff]; simp only [Bool.and_eq_true, decide_eq_true_eq]; omega
  have t : (decide ((1 : Int) ≤ (d.kids.length : Int)) && decide ((d.kids.length : Int) ≤ 2)) = (decide (d.kids.length = 1) || decide (d.kids.length = 2)) := by
    rw [Bool.eq_iff_iff]; simp only [Bool.and_eq_true, Bool.or_eq_true, decide_eq_true_eq]; omega
  show kindB (mkN d) = _
  unfold kindB rkindN
  rw [fits_eq 0 0 bareB id d _ z, fits_eq 0 0 setB noSet d _ z, fits_eq 2 4000 bareB id d _ m, fits_eq 1 1 (fun _ => true) noGroup d _ o, fits_eq 1 1 bareB id d _ o, fits_eq 1 1 repeatB noTimes d _ o, fits_eq 0 0 (fun _ => true) noGroup d _ z, fits_eq 0 0 spotB noSpot d _ z, fits_eq 1 1 (fun _ => true) noNot d _ o, fits_eq 1 2 tryB noMode d _ t]
  have e1 : (bareB (id (mkN d)).nd && bareB d) = bareB (id (mkN d)).nd := by show (bareB d && bareB d) = bareB d; rw [Bool.and_self]
  have e2 : repeatB d = (timesB d && (decide (1 ≤ d.mode) && decide (d.mode ≤ 3))) := by unfold repeatB; rw [mode3]
  have e3 : tryB d = (decide (d.mode = 1) || decide (d.mode = 2)) := by unfold tryB; rw [mode2]
  rw [e1, e2, e3]
  simp only [Bool.and_true]
  rfl
theorem begN_pre {L : List Nd} {l : List (Nat × Nat)} (h : ordT L = some l) : begN L (fsZ l) = (preP L (L.length - 1)).map fun p => ((p : Nat) : Int) := by
  obtain ⟨hok, h0, h1, h4⟩ := ordT_ok h
  obtain ⟨p1, p2⟩ := pre_ok hok (L.length - 1) (by omega)
  rw [h0] at p1
  have hfs : ∀ j, j < L.length → gz (fsZ l) j = ((gf l j).1 : Nat) := fun j hj => fsZ_at (by rw [hok.1]; exact hj)
  have lt_iff : ∀ a b : Nat, a < L.length → b < L.length → (ltB (fsZ l) (a : Int) (b : Int) = true ↔ ltP (gf l) a b) := fun a b ha hb => by
    unfold ltB ltP
    rw [decide_eq_true_eq, Int.toNat_natCast, Int.toNat_natCast, hfs a ha, hfs b hb]
    omega
  have irr : ∀ a : Int, ¬ ltB (fsZ l) a a = true := fun a => by unfold ltB; rw [decide_eq_true_eq]; omega
  have tr : ∀ a b c : Int, ltB (fsZ l) a b = true → ltB (fsZ l) b c = true → ltB (fsZ l) a c = true := fun a b c => by
    unfold ltB; rw [decide_eq_true_eq, decide_eq_true_eq, decide_eq_true_eq]; omega
  refine sorted_eq (lt := fun a b => ltB (fsZ l) a b = true) irr tr ?_ ?_ ?_
  · have hperm : (begN L (fsZ l)).Perm (plN [5] L) := begN_perm L (fsZ l)
    have hnd : (begN L (fsZ l)).Pairwise (fun a b => a ≠ b) := (hperm.pairwise_iff (fun {a b} hab => fun e => hab e.symm)).2 (ev_nodup [5] L 0)
    have hso : (begN L (fsZ l)).Pairwise (fun a b => (!ltB (fsZ l) b a) = true) := by
      unfold begN begL
      refine List.pairwise_mergeSort ?_ ?_ _
      · intro a b c hab hbc
        simp only [Bool.not_eq_true', Bool.eq_false_iff] at hab hbc ⊢
        unfold ltB at *
        simp only [ne_eq, decide_eq_true_eq] at *
        omega
      · intro a b
        cases hq : ltB (fsZ l) b a with
        | false => rfl
        | true =>
          cases hq2 : ltB (fsZ l) a b with
          | false => rfl
          | true => exact absurd (tr a b a hq2 hq) (irr a)
    refine (hnd.and hso).imp ?_
    rintro a b ⟨hne, hle⟩
    simp only [Bool.not_eq_true', Bool.eq_false_iff] at hle
    unfold ltB at *
    simp only [ne_eq, decide_eq_true_eq] at *
    omega
  · rw [List.pairwise_map]
    refine p2.imp_of_mem fun {a b} ha hb hab => ?_
    have ha2 := (p1 a).1 ha
    have hb2 := (p1 b).1 hb
    exact (lt_iff a b (by omega) (by omega)).2 hab
  · intro x
    rw [(begN_perm L (fsZ l)).mem_iff, pl_mem, List.mem_map]
    constructor
    · rintro ⟨j, rfl, hj, h5⟩
      exact ⟨j, (p1 j).2 ⟨Nat.zero_le _, by omega, h5⟩, rfl⟩
    · rintro ⟨j, hj, rfl⟩
      have := (p1 j).1 hj
      exact ⟨j, rfl, by omega, this.2.2⟩
theorem count_eq {L : List Nd} {l : List (Nat × Nat)} (h : ordT L = some l) (nm : Nat) : countN L (fsZ l) nm = ((begB L (L.length - 1)).length == nm && upB (begB L (L.length - 1))) := by
  unfold countN
  rw [begN_pre h, Bool.and_comm]
  have hlen : ((preP L (L.length - 1)).map fun p => ((p : Nat) : Int)).length = (begB L (L.length - 1)).length := by unfold begB; simp
  rw [hlen]
  congr 1
  unfold cntN upB
  rw [hlen]
  have : ∀ i ∈ List.range (begB L (L.length - 1)).length, ((nN L (gz ((preP L (L.length - 1)).map fun p => ((p : Nat) : Int)) i).toNat).group == (i : Int) + 1) = (gz (begB L (L.length - 1)) i == (i : Int) + 1) := fun i hi => by
    have hi2 := List.mem_range.1 hi
    rw [gz_get (by rw [hlen]; exact hi2), gz_get hi2]
    simp only [begB, List.getElem_map, Int.toNat_natCast]
  rw [Bool.eq_iff_iff, List.all_eq_true, List.all_eq_true]
  exact ⟨fun g i hi => by rw [← this i hi]; exact g i hi, fun g i hi => by rw [this i hi]; exact g i hi⟩
theorem ok_iff {nm : Nat} {L : List Nd} : L.all (okNd nm) = (L.all rkindN && L.all fun d => !(decide (d.kind ∈ [5, 8])) || upToB nm d) := by
  rw [Bool.eq_iff_iff, Bool.and_eq_true, List.all_eq_true, List.all_eq_true, List.all_eq_true]
  have e : ∀ d, okNd nm d = (rkindN d && (!(decide (d.kind ∈ [5, 8])) || upToB nm d)) := fun d => by
    unfold okNd upToB
    congr 2
    rw [Bool.eq_iff_iff]
    simp
  constructor
  · intro h
    exact ⟨fun d hd => by have := h d hd; rw [e, Bool.and_eq_true] at this; exact this.1, fun d hd => by have := h d hd; rw [e, Bool.and_eq_true] at this; exact this.2⟩
  · rintro ⟨h1, h2⟩ d hd
    rw [e, h1 d hd, h2 d hd]; rfl
theorem all_congr6 {L : List Nd} {P Q : Nd → Bool} (h : ∀ d ∈ L, P d = Q d) : L.all P = L.all Q := by
  rw [Bool.eq_iff_iff, List.all_eq_true, List.all_eq_true]
  exact ⟨fun g d hd => by rw [← h d hd]; exact g d hd, fun g d hd => by rw [h d hd]; exact g d hd⟩
theorem sound_eq {L : List Nd} {l : List (Nat × Nat)} (h : ordT L = some l) (nm : List ByteArray) : rsoundN L nm = (soundN L nm && allN (upToB nm.length) L [5, 8]) := by
  unfold rsoundN soundN kindsN
  rw [h, ok_iff, allN_all, all_congr6 fun d hd => kind_eq (kids_few h d hd)]
  cases namedB nm <;> cases L.all rkindN <;> rfl
theorem upTo_mono {nm : Nat} {L : List Nd} : allN (upToB nm) L [5, 8] = (allN (upToB nm) L [5] && allN (upToB nm) L [8]) := by
  rw [Bool.eq_iff_iff, Bool.and_eq_true, allN_iff, allN_iff, allN_iff]
  constructor
  · intro h
    exact ⟨fun d hd hk => h d hd (by simp only [List.mem_singleton] at hk; simp [hk]), fun d hd hk => h d hd (by simp only [List.mem_singleton] at hk; simp [hk])⟩
  · rintro ⟨h1, h2⟩ d hd hk
    simp only [List.mem_cons, List.not_mem_nil, or_false] at hk
    rcases hk with hk | hk
    · exact h1 d hd (by simp [hk])
    · exact h2 d hd (by simp [hk])
theorem right_eq (L : List Nd) (nm : List ByteArray) : rrightN L nm = rightN L nm := by
  cases h : ordT L with
  | none =>
    have h1 : rsoundN L nm = false := by unfold rsoundN; rw [h]; rfl
    have h2 : soundN L nm = false := by unfold soundN; rw [h]; rfl
    unfold rrightN rightN
    rw [h1, h2]; rfl
  | some l =>
    unfold rrightN rightN
    rw [sound_eq h, h]
    dsimp only
    unfold writtenN
    have hdp : deepT L = (gf l (L.length - 1)).2 := by unfold deepT; rw [h]
    have hnev : L.all nevNd = allN neverB L [12, 13] := by
      rw [allN_all]
      refine all_congr6 fun d _ => ?_
      unfold nevNd neverB
      rw [Bool.or_false]
      congr 1
      rw [Bool.eq_iff_iff]
      simp
    rw [hdp, hnev, ← count_eq h, upTo_mono]
    cases hcn : countN L (fsZ l) nm.length with
    | false => cases soundN L nm <;> simp
    | true =>
      have hu5 : allN (upToB nm.length) L [5] = true := by
        rw [allN_iff]
        intro d hd hk
        have h5 : d.kind = 5 := by simpa using hk
        have := (grN_mem hcn d.group).1 (gr_kind hd h5)
        unfold upToB
        rw [decide_eq_true this.1, decide_eq_true this.2]; rfl
      rw [hu5]
      cases soundN L nm <;> cases allN (upToB nm.length) L [8] <;> cases decide ((gf l (L.length - 1)).2 ≤ 60) <;> cases allN neverB L [12, 13] <;> rfl
theorem spread_eq (L : List Nd) (nm : List ByteArray) : rspreadN L nm = spreadTN L nm := by
  cases h : ordT L with
  | none =>
    have h1 : rsoundN L nm = false := by unfold rsoundN; rw [h]; rfl
    have h2 : soundN L nm = false := by unfold soundN; rw [h]; rfl
    unfold rspreadN spreadTN
    rw [h1, h2]; rfl
  | some l =>
    unfold rspreadN spreadTN
    rw [sound_eq h, h]
    dsimp only
    unfold spreadN
    have hend : L.all endNd = allN endlessB L [7] := by
      rw [allN_all]
      refine all_congr6 fun d _ => ?_
      unfold endNd endlessB
      congr 1
      rw [Bool.eq_iff_iff]
      simp
    rw [hend, Bool.and_assoc]
end Go.Proofs.YtjpccmiaimkmbaaGreat
