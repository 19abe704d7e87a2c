/- Plain: what a node of a tree in order covers is in order; of a written one, without groups, it is written. -/
import Derived.Test.YtpiknmnhcpjfaaaGreatMs
namespace Go.Proofs.YtpiknmnhcpjfaaaGreat
open Go.RowKit Tnr Tnt

/-- whatever begins inside ends inside, and is no deeper. -/
def Lam (F : Nat → Nat × Nat) (k : Nat) : Prop := ∀ j, (F k).1 ≤ j → j ≤ k → (F k).1 ≤ (F j).1 ∧ (F j).2 ≤ (F k).2
theorem rk_ge {F : Nat → Nat × Nat} : ∀ {ks : List Int} {c d a e : Nat}, rk F ks c d = some (a, e) → d ≤ e
  | [], c, d, a, e, h => by
    simp only [rk, Option.some.injEq, Prod.mk.injEq] at h
    omega
  | k :: ks, c, d, a, e, h => by
    rw [rk_cons] at h
    by_cases hc : c = 0 ∨ k ≠ (c : Int) - 1
    · rw [if_pos hc] at h; cases h
    · rw [if_neg hc] at h
      have := rk_ge h
      omega
theorem rk_low {F : Nat → Nat × Nat} : ∀ {ks : List Int} {c d a e : Nat}, (∀ j, j < c → (F j).1 ≤ j) → rk F ks c d = some (a, e) → a ≤ c
  | [], c, d, a, e, _, h => by
    simp only [rk, Option.some.injEq, Prod.mk.injEq] at h
    omega
  | k :: ks, c, d, a, e, hl, h => by
    rw [rk_cons] at h
    by_cases hc : c = 0 ∨ k ≠ (c : Int) - 1
    · rw [if_pos hc] at h; cases h
    · rw [if_neg hc] at h
      have h1 := hl (c - 1) (by omega)
      have := rk_low (fun j hj => hl j (by omega)) h
      omega
theorem rk_lam {F : Nat → Nat × Nat} : ∀ {ks : List Int} {c d a e : Nat}, (∀ j, j < c → (F j).1 ≤ j) → (∀ j, j < c → Lam F j) → rk F ks c d = some (a, e) → ∀ j, a ≤ j → j < c → a ≤ (F j).1 ∧ (F j).2 ≤ e
  | [], c, d, a, e, _, _, h => fun j h1 h2 => by
    simp only [rk, Option.some.injEq, Prod.mk.injEq] at h
    omega
  | k :: ks, c, d, a, e, hl, hL, h => fun j h1 h2 => by
    rw [rk_cons] at h
    by_cases hc : c = 0 ∨ k ≠ (c : Int) - 1
    · rw [if_pos hc] at h; cases h
    · rw [if_neg hc] at h
      have h3 := hl (c - 1) (by omega)
      by_cases hj : (F (c - 1)).1 ≤ j
      · have h4 := hL (c - 1) (by omega) j hj (by omega)
        have h5 := rk_low (fun j hj => hl j (by omega)) h
        have h6 := rk_ge h
        omega
      · exact rk_lam (fun j hj => hl j (by omega)) (fun j hj => hL j (by omega)) h j h1 (by omega)
theorem lam_ok {ns : List Nd} {l : List (Nat × Nat)} (h : OrdOk ns l) : ∀ k, k < ns.length → Lam (gf l) k := by
  intro k
  induction k using Nat.strongRecOn with
  | _ k ih =>
    intro hk j h1 h2
    obtain ⟨d, h3, h4⟩ := h.2.2 k hk
    by_cases hj : j = k
    · subst hj; omega
    · have := rk_lam (fun j hj => (h.2.1 j (by omega)).1) (fun j hj => ih j hj (by omega)) h3 j h1 (by omega)
      omega
/-- the same walk, so much further on. -/
theorem rk_shift {F G : Nat → Nat × Nat} {f : Nat} : ∀ {ks : List Int} {c d a e : Nat}, (∀ j, j < c → (F j).1 ≤ j) → (∀ j, f ≤ j → j < c → f ≤ (F j).1 ∧ G (j - f) = ((F j).1 - f, (F j).2)) → f ≤ a → f ≤ c → rk F ks c d = some (a, e) → rk G (ks.map fun k => k - (f : Int)) (c - f) d = some (a - f, e)
  | [], c, d, a, e, _, _, _, _, h => by
    simp only [rk, Option.some.injEq, Prod.mk.injEq] at h
    obtain ⟨rfl, rfl⟩ := h
    rfl
  | k :: ks, c, d, a, e, hl, hG, ha, hf, h => by
    rw [rk_cons] at h
    by_cases hc : c = 0 ∨ k ≠ (c : Int) - 1
    · rw [if_pos hc] at h; cases h
    · rw [if_neg hc] at h
      have h3 := hl (c - 1) (by omega)
      have h4 := rk_low (fun j hj => hl j (by omega)) h
      have hcf : f ≤ c - 1 := by omega
      obtain ⟨h5, h6⟩ := hG (c - 1) hcf (by omega)
      have ih := rk_shift (ks := ks) (fun j hj => hl j (by omega)) (fun j h1 h2 => hG j h1 (by omega)) ha h5 h
      rw [List.map_cons, rk_cons, if_neg (by omega), show c - f - 1 = c - 1 - f by omega, h6]
      exact ih
/-- what tells firsts and deeps. -/
theorem ordG_of : ∀ (ns : List Nd) (acc tl : List (Nat × Nat)), tl.length = ns.length → (∀ j, j < acc.length + ns.length → (gf (acc ++ tl) j).1 ≤ j) →
    (∀ i (h : i < ns.length), ∃ d, rk (gf (acc ++ tl)) ns[i].kids.reverse (acc.length + i) 0 = some ((gf (acc ++ tl) (acc.length + i)).1, d) ∧ (gf (acc ++ tl) (acc.length + i)).2 = d + 1) → ordG ns acc = some (acc ++ tl)
  | [], acc, tl, hl, _, _ => by
    have : tl = [] := List.eq_nil_of_length_eq_zero hl
    rw [this, List.append_nil]; rfl
  | n :: ns, acc, [], hl, _, _ => by simp at hl
  | n :: ns, acc, x :: tl, hl, hlow, hall => by
    obtain ⟨d, h1, h2⟩ := hall 0 (by simp)
    rw [Nat.add_zero] at h1 h2
    have hx : gf (acc ++ x :: tl) acc.length = x := by
      unfold gf; rw [List.getD_eq_getElem?_getD]; simp
    rw [hx] at h1 h2
    have h3 : rk (gf acc) n.kids.reverse acc.length 0 = some (x.1, d) := by
      rw [← h1]
      refine rk_congr (fun j hj => ?_) (fun j hj => ?_)
      · exact (gf_append_lt hj).symm
      · have := hlow j (by omega)
        rw [gf_append_lt hj] at this
        exact this
    rw [ordG_cons h3, show (x.1, d + 1) = x from Prod.ext rfl h2.symm]
    have ih := ordG_of ns (acc ++ [x]) tl (by simpa using hl) (fun j hj => by
      rw [List.append_assoc]; exact hlow j (by rw [List.length_append] at hj; simp at hj ⊢; omega)) (fun i hi => by
      have := hall (i + 1) (by simp; omega)
      rw [List.append_assoc, List.length_append, show acc.length + [x].length + i = acc.length + (i + 1) by simp; omega]
      exact this)
    rw [ih, List.append_assoc]; rfl
/-- firsts and deeps of what a node covers. -/
def covL (l : List (Nat × Nat)) (f k : Nat) : List (Nat × Nat) := (List.range (k + 1 - f)).map fun j => ((gf l (f + j)).1 - f, (gf l (f + j)).2)
theorem gf_cov (l : List (Nat × Nat)) (f k j : Nat) (h : j < k + 1 - f) : gf (covL l f k) j = ((gf l (f + j)).1 - f, (gf l (f + j)).2) := by
  show (covL l f k).getD j (0, 0) = _
  unfold covL
  rw [List.getD_eq_getElem?_getD, List.getElem?_map, List.getElem?_range h]; rfl
theorem cov_len {L : List Nd} {f k : Nat} (hk : k < L.length) (hf : f ≤ k) : (covN L f k).length = k + 1 - f := by
  unfold covN; simp; omega
theorem cov_get {L : List Nd} {f k i : Nat} (hk : k < L.length) (hf : f ≤ k) (hi : i < (covN L f k).length) : (covN L f k)[i] = mv (-(f : Int)) (L[f + i]'(by rw [cov_len hk hf] at hi; omega)) := by
  unfold covN; simp
theorem ord_cov {L : List Nd} {l : List (Nat × Nat)} (h : ordT L = some l) {k : Nat} (hk : k < L.length) : ordT (covN L (gf l k).1 k) = some (covL l (gf l k).1 k) ∧ (gf (covL l (gf l k).1 k) ((covN L (gf l k).1 k).length - 1)).2 = (gf l k).2 := by
  obtain ⟨hok, h0, h1, h4⟩ := ordT_ok h
  obtain ⟨f, hf⟩ : ∃ f, f = (gf l k).1 := ⟨_, rfl⟩
  rw [← hf]
  have hfk : f ≤ k := by rw [hf]; exact (hok.2.1 k hk).1
  have hlen := cov_len (L := L) hk hfk
  have hlam := lam_ok hok k hk
  rw [Lam, ← hf] at hlam
  have hcl : (covL l f k).length = k + 1 - f := by unfold covL; simp
  refine ⟨ordT_of ?_ (by rw [hlen]; omega) (by rw [hlen]; omega) ?_, ?_⟩
  · have := ordG_of (covN L f k) [] (covL l f k) (by rw [hcl, hlen]) (fun j hj => by
      rw [List.nil_append]
      rw [List.length_nil, Nat.zero_add, hlen] at hj
      rw [gf_cov l f k j hj]
      have := (hok.2.1 (f + j) (by omega)).1
      show (gf l (f + j)).1 - f ≤ j
      omega) (fun i hi => by
      rw [List.nil_append, List.length_nil, Nat.zero_add]
      have hi2 : i < k + 1 - f := by rw [hlen] at hi; exact hi
      obtain ⟨d, h5, h6⟩ := hok.2.2 (f + i) (by omega)
      refine ⟨d, ?_, by rw [gf_cov l f k i hi2]; exact h6⟩
      rw [gf_cov l f k i hi2, cov_get hk hfk hi]
      have hs := rk_shift (G := gf (covL l f k)) (f := f) (fun j hj => (hok.2.1 j (by omega)).1) (fun j hj1 hj2 => ⟨(hlam j hj1 (by omega)).1, by rw [gf_cov l f k (j - f) (by omega), show f + (j - f) = j by omega]⟩) (hlam (f + i) (by omega) (by omega)).1 (by omega) h5
      rw [show f + i - f = i by omega] at hs
      show rk (gf (covL l f k)) ((L[f + i]'(by omega)).kids.map fun x => w64 (x + -(f : Int))).reverse i 0 = _
      rw [← List.map_reverse, ← hs]
      congr 1
      refine List.map_congr_left fun x hx => ?_
      have := ordOk_kid hok (show f + i < L.length by omega) x (by simpa using hx)
      rw [w64_id _ (by omega)]; omega)
    rw [List.nil_append] at this
    exact this
  · rw [hlen, gf_cov l f k _ (by omega), show f + (k + 1 - f - 1) = k by omega, ← hf]
    show f - f = 0
    omega
  · rw [hlen, gf_cov l f k _ (by omega), show f + (k + 1 - f - 1) = k by omega]
theorem cov_mem {L : List Nd} {f k : Nat} {d : Nd} (h : d ∈ covN L f k) : ∃ x ∈ L, d = mv (-(f : Int)) x := by
  unfold covN at h
  obtain ⟨x, hx, rfl⟩ := List.mem_map.1 h
  exact ⟨x, List.mem_of_mem_drop (List.mem_of_mem_take hx), rfl⟩
theorem kind_mv (d : Int) (x : Nd) : kindN (mv d x) = kindN x := by
  have hl : (mv d x).kids.length = x.kids.length := by simp [mv]
  have e : ∀ (lo hi : Int) (P : Nd → Bool) (T : NV → NV), P (mv d x) = P x → bareB (T (mkN (mv d x))).nd = bareB (T (mkN x)).nd → fitsB lo hi P T (mkN (mv d x)) = fitsB lo hi P T (mkN x) := by
    intro lo hi P T h1 h2
    show (decide (lo ≤ ((mv d x).kids.length : Int)) && (decide (((mv d x).kids.length : Int) ≤ hi) && (P (mv d x) && bareB (T (mkN (mv d x))).nd))) = _
    rw [hl, h1, h2]; rfl
  unfold kindN kindB
  rw [e 0 0 bareB id rfl rfl, e 0 0 setB noSet rfl rfl, e 2 4000 bareB id rfl rfl, e 1 1 (fun _ => true) noGroup rfl rfl, e 1 1 bareB id rfl rfl, e 1 1 repeatB noTimes rfl rfl, e 0 0 (fun _ => true) noGroup rfl rfl, e 0 0 spotB noSpot rfl rfl, e 1 1 (fun _ => true) noNot rfl rfl, e 1 2 tryB noMode rfl rfl]
  rfl
theorem right_cov {L : List Nd} {nm : List ByteArray} (h : rightN L nm = true) {k : Nat} (hk : k < L.length) (hfree : freeN (ofT L (k : Int)) = true) : rightN (ofT L (k : Int)) [] = true := by
  obtain ⟨l, ho, hkk, _, hw⟩ := right_parts h
  obtain ⟨h60, hv, hc, hu⟩ := written_parts hw
  obtain ⟨hok, h0, h1, h4⟩ := ordT_ok ho
  have e : ofT L (k : Int) = covN L (gf l k).1 k := by
    unfold ofT
    rw [ho]
    simp only
    rw [if_pos (by omega), Int.toNat_natCast]
  rw [e] at hfree ⊢
  obtain ⟨hoc, hdc⟩ := ord_cov ho hk
  unfold freeN at hfree
  rw [List.all_eq_true] at hfree
  have hg : ∀ d ∈ covN L (gf l k).1 k, d.kind ≠ 5 ∧ d.kind ≠ 8 := fun d hd => by
    obtain ⟨x, hx, rfl⟩ := cov_mem hd
    have hz : x.group = 0 := by simpa [mv] using hfree _ hd
    refine ⟨fun h5 => ?_, fun h8 => ?_⟩
    · have := (grN_mem hc _).1 (gr_kind hx h5)
      omega
    · have := (allN_iff _ _ _).1 hu x hx (by simp [show x.kind = 8 from h8])
      unfold upToB at this
      simp only [Bool.and_eq_true, decide_eq_true_eq] at this
      omega
  have hpl : plN [5] (covN L (gf l k).1 k) = [] := by
    refine List.eq_nil_iff_forall_not_mem.2 fun p hp => ?_
    obtain ⟨x, hx, _⟩ := List.mem_map.1 hp
    obtain ⟨j, _, h2, h3⟩ := (evN_mem [5] _ 0 x).1 hx
    have := (hg x.2 (List.mem_of_getElem? h2)).1
    simp only [List.mem_cons, List.not_mem_nil, or_false] at h3
    exact this h3
  have hdeep : (gf l k).2 ≤ (gf l (L.length - 1)).2 := (lam_ok hok (L.length - 1) (by omega) k (by omega) (by omega)).2
  have hk' : kindsN (covN L (gf l k).1 k) = true := by
    unfold kindsN at *
    rw [List.all_eq_true] at *
    intro d hd
    obtain ⟨x, hx, rfl⟩ := cov_mem hd
    rw [kind_mv]; exact hkk x hx
  have hv' : allN neverB (covN L (gf l k).1 k) [12, 13] = true := by
    rw [allN_iff] at *
    intro d hd hdk
    obtain ⟨x, hx, rfl⟩ := cov_mem hd
    exact hv x hx hdk
  have hu' : allN (upToB 0) (covN L (gf l k).1 k) [8] = true := by
    rw [allN_iff]
    intro d hd hdk
    exact absurd (by simpa using hdk) (hg d hd).2
  unfold rightN soundN writtenN countN begN begL
  rw [hoc, hk']
  dsimp only
  rw [hpl, hdc, List.length_nil, hv', hu', decide_eq_true (show (gf l k).2 ≤ 60 by omega)]
  simp [namedB, cntN]
end Go.Proofs.YtpiknmnhcpjfaaaGreat
