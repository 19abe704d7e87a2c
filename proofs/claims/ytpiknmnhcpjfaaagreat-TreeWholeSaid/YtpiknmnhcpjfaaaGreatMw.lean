/- Plain: a tree in order is its last node above its kids' trees; these are less deep; what its last node covers is the tree. -/
import Derived.Test.YtpiknmnhcpjfaaaGreatMt
namespace Go.Proofs.YtpiknmnhcpjfaaaGreat
open Go.RowKit Tnr Tnt

theorem joinA_cons (k : List Nd) (ks : List (List Nd)) (m : List Nd) (l : List Int) : joinA (k :: ks) m l = if k.length = 0 then joinA ks m l else joinA ks (m ++ k.map (mv (m.length : Int))) (l ++ [((m.length + k.length : Nat) : Int) - 1]) := rfl
theorem joinA_append : ∀ (a b : List (List Nd)) (m : List Nd) (l : List Int), joinA (a ++ b) m l = joinA b (joinA a m l).1 (joinA a m l).2
  | [], _, _, _ => rfl
  | k :: a, b, m, l => by
    rw [List.cons_append, joinA_cons, joinA_cons]
    by_cases h : k.length = 0
    · rw [if_pos h, if_pos h]; exact joinA_append a b m l
    · rw [if_neg h, if_neg h]; exact joinA_append a b _ _
theorem joinA_len : ∀ (a : List (List Nd)) (m : List Nd) (l : List Int), (joinA a m l).1.length = m.length + (a.map List.length).sum
  | [], m, _ => by simp [joinA]
  | k :: a, m, l => by
    rw [joinA_cons]
    by_cases h : k.length = 0
    · rw [if_pos h, joinA_len a m l]; simp [h]
    · rw [if_neg h, joinA_len a _ _]; simp; omega
theorem joinT_len (n : Nd) (ks : List (List Nd)) : (joinT n ks).length = (ks.map List.length).sum + 1 := by
  unfold joinT; rw [List.length_append, joinA_len]; simp
def segN (L : List Nd) (a c : Nat) : List Nd := (L.drop a).take (c - a)
theorem seg_len {L : List Nd} {a c : Nat} (hc : c ≤ L.length) (_ : a ≤ c) : (segN L a c).length = c - a := by
  unfold segN; simp; omega
theorem seg_append {L : List Nd} {a b c : Nat} (h1 : a ≤ b) (h2 : b ≤ c) : segN L a b ++ segN L b c = segN L a c := by
  unfold segN
  rw [show c - a = (b - a) + (c - b) by omega, List.take_add, List.drop_drop, show a + (b - a) = b by omega]
theorem mv_back {x : Nd} {f : Nat} (hf : f ≤ 4000) (h : ∀ k ∈ x.kids, 0 ≤ k ∧ k < 4611686018427380000) : mv (f : Int) (mv (-(f : Int)) x) = x := by
  have : ((x.kids.map fun k => w64 (k + -(f : Int))).map fun k => w64 (k + (f : Int))) = x.kids := by
    rw [List.map_map]
    conv => rhs; rw [← List.map_id x.kids]
    refine List.map_congr_left fun k hk => ?_
    have := h k hk
    show w64 (w64 (k + -(f : Int)) + (f : Int)) = k
    rw [w64_id (k + -(f : Int)) (by omega), w64_id _ (by omega)]; omega
  show ({ x with kids := _ } : Nd) = x
  rw [show (mv (-(f : Int)) x).kids = x.kids.map fun k => w64 (k + -(f : Int)) from rfl, this]
theorem cov_back {L : List Nd} {l : List (Nat × Nat)} (h : OrdOk L l) (h4 : L.length ≤ 4000) {f k : Nat} (hk : k < L.length) (hf : f ≤ k) : (covN L f k).map (mv (f : Int)) = segN L f (k + 1) := by
  unfold covN segN
  rw [List.map_map]
  conv => rhs; rw [← List.map_id ((L.drop f).take (k + 1 - f))]
  refine List.map_congr_left fun x hx => ?_
  obtain ⟨i, hi, rfl⟩ := List.getElem_of_mem (List.mem_of_mem_drop (List.mem_of_mem_take hx))
  exact mv_back (by omega) fun k hk => by have := ordOk_kid h hi k hk; omega
/-- the trees that kids cover, put one behind the other. -/
theorem join_rk {L : List Nd} {l : List (Nat × Nat)} (h : OrdOk L l) (h4 : L.length ≤ 4000) : ∀ {ks : List Int} {c d a e : Nat}, c ≤ L.length → rk (gf l) ks c d = some (a, e) → ∀ (m : List Nd) (r : List Int), m.length = a →
    joinA (ks.reverse.map fun k => covN L (gf l k.toNat).1 k.toNat) m r = (m ++ segN L a c, r ++ ks.reverse) ∧ a ≤ c
  | [], c, d, a, e, hc, hr, m, r, hm => by
    simp only [rk, Option.some.injEq, Prod.mk.injEq] at hr
    obtain ⟨rfl, rfl⟩ := hr
    refine ⟨?_, Nat.le_refl _⟩
    have : segN L c c = [] := by unfold segN; simp
    rw [this]
    simp [joinA]
  | k :: ks, c, d, a, e, hc, hr, m, r, hm => by
    rw [rk_cons] at hr
    by_cases hcc : c = 0 ∨ k ≠ (c : Int) - 1
    · rw [if_pos hcc] at hr; cases hr
    · rw [if_neg hcc] at hr
      have hkc : k.toNat = c - 1 := by omega
      have hlow := (h.2.1 (c - 1) (by omega)).1
      obtain ⟨ih, hac⟩ := join_rk h h4 (ks := ks) (by omega) hr m r hm
      obtain ⟨g, hg⟩ : ∃ g, g = (gf l (c - 1)).1 := ⟨_, rfl⟩
      rw [← hg] at ih hac hlow
      refine ⟨?_, by omega⟩
      rw [List.reverse_cons, List.map_append, joinA_append, ih]
      dsimp only
      rw [List.map_cons, List.map_nil, hkc, ← hg]
      have hl1 := cov_len (L := L) (k := c - 1) (f := g) (by omega) hlow
      have hl2 : (m ++ segN L a g).length = g := by rw [List.length_append, seg_len (by omega) hac, hm]; omega
      rw [joinA_cons, if_neg (by omega)]
      show (m ++ segN L a g ++ _, _ ++ [_]) = _
      rw [hl2, hl1, cov_back h h4 (by omega) hlow, List.append_assoc, show c - 1 + 1 = c by omega, seg_append hac (by omega), ← List.append_assoc]
      congr 1
      · congr 1
        · congr 1
          omega
  termination_by ks => ks.length
theorem last_get {L : List Nd} (h : 1 ≤ L.length) : L.getD (L.length - 1) nd0 = L[L.length - 1]'(by omega) := by
  rw [List.getD_eq_getElem?_getD, List.getElem?_eq_getElem (by omega)]; rfl
theorem join_kids {L : List Nd} {l : List (Nat × Nat)} (h : ordT L = some l) : joinT (L.getD (L.length - 1) nd0) (kidsT L) = L := by
  obtain ⟨hok, h0, h1, h4⟩ := ordT_ok h
  obtain ⟨d, hr, _⟩ := hok.2.2 (L.length - 1) (by omega)
  rw [h0] at hr
  obtain ⟨hj, _⟩ := join_rk hok h4 (by omega) hr [] [] rfl
  rw [List.reverse_reverse] at hj
  unfold joinT kidsT
  rw [h]
  dsimp only
  rw [last_get h1, hj]
  dsimp only
  unfold segN
  rw [List.nil_append, List.nil_append, List.drop_zero, Nat.sub_zero]
  show L.take (L.length - 1) ++ [L[L.length - 1]'(by omega)] = L
  conv => rhs; rw [← List.take_append_drop (L.length - 1) L]
  rw [List.drop_eq_getElem_cons (by omega)]
  simp
  rw [show L.length - 1 + 1 = L.length by omega, List.take_length]
theorem kids_len {L : List Nd} {l : List (Nat × Nat)} (h : ordT L = some l) : (kidsT L).length = (L.getD (L.length - 1) nd0).kids.length := by
  unfold kidsT; rw [h]; simp
theorem kids_sum {L : List Nd} {l : List (Nat × Nat)} (h : ordT L = some l) : ((kidsT L).map List.length).sum + 1 = L.length := by
  rw [← joinT_len (L.getD (L.length - 1) nd0), join_kids h]
theorem rk_deep {F : Nat → Nat × Nat} : ∀ {ks : List Int} {c d a e : Nat}, rk F ks c d = some (a, e) → ∀ k ∈ ks, (F k.toNat).2 ≤ e
  | [], c, d, a, e, _ => fun k hk => by simp at hk
  | k :: ks, c, d, a, e, h => fun x hx => by
    rw [rk_cons] at h
    by_cases hc : c = 0 ∨ k ≠ (c : Int) - 1
    · rw [if_pos hc] at h; cases h
    · rw [if_neg hc] at h
      rcases List.mem_cons.1 hx with rfl | hx
      · have := rk_ge h
        rw [show x.toNat = c - 1 by omega]; omega
      · exact rk_deep h x hx
theorem deep_cov {L : List Nd} {l : List (Nat × Nat)} (h : ordT L = some l) {k : Nat} (hk : k < L.length) : deepT (covN L (gf l k).1 k) = (gf l k).2 := by
  obtain ⟨h1, h2⟩ := ord_cov h hk
  unfold deepT
  rw [h1]
  exact h2
theorem deep_of {L : List Nd} {l : List (Nat × Nat)} (h : ordT L = some l) : deepT L = (gf l (L.length - 1)).2 := by
  unfold deepT; rw [h]
theorem deep_pos {L : List Nd} {l : List (Nat × Nat)} (h : ordT L = some l) {k : Nat} (hk : k < L.length) : 1 ≤ (gf l k).2 := by
  obtain ⟨hok, _, _, _⟩ := ordT_ok h
  obtain ⟨d, _, h2⟩ := hok.2.2 k hk
  omega
theorem kids_deep {L : List Nd} {l : List (Nat × Nat)} (h : ordT L = some l) {i : Nat} (hi : i < (kidsT L).length) : 1 ≤ deepT ((kidsT L)[i]) ∧ deepT ((kidsT L)[i]) < deepT L := by
  obtain ⟨hok, h0, h1, h4⟩ := ordT_ok h
  obtain ⟨d, hr, hd⟩ := hok.2.2 (L.length - 1) (by omega)
  have e : (kidsT L) = ((L.getD (L.length - 1) nd0).kids).map fun k => covN L (gf l k.toNat).1 k.toNat := by unfold kidsT; rw [h]
  have hmem : (kidsT L)[i] ∈ ((L.getD (L.length - 1) nd0).kids).map fun k => covN L (gf l k.toNat).1 k.toNat := by rw [← e]; exact List.getElem_mem hi
  obtain ⟨k, hk, hke⟩ := List.mem_map.1 hmem
  rw [last_get h1] at hk
  have hb := ordOk_kid hok (show L.length - 1 < L.length by omega) k hk
  have hm := rk_deep hr k (by simpa using hk)
  rw [← hke, deep_cov h (by omega), deep_of h]
  have := deep_pos h (show k.toNat < L.length by omega)
  omega
theorem of_cov {L : List Nd} {l : List (Nat × Nat)} (h : ordT L = some l) {k : Nat} (hk : k < L.length) : ofT L (k : Int) = covN L (gf l k).1 k := by
  unfold ofT
  rw [h]
  simp only
  rw [if_pos (by omega), Int.toNat_natCast]
theorem of_deep {L : List Nd} {l : List (Nat × Nat)} (h : ordT L = some l) {k : Nat} (hk : k < L.length) : 1 ≤ deepT (ofT L (k : Int)) ∧ deepT (ofT L (k : Int)) ≤ deepT L := by
  obtain ⟨hok, h0, h1, h4⟩ := ordT_ok h
  rw [of_cov h hk, deep_cov h hk, deep_of h]
  exact ⟨deep_pos h hk, (lam_ok hok (L.length - 1) (by omega) k (by omega) (by omega)).2⟩
theorem of_last {L : List Nd} {l : List (Nat × Nat)} (h : ordT L = some l) : ofT L ((L.length : Int) - 1) = L := by
  obtain ⟨hok, h0, h1, h4⟩ := ordT_ok h
  rw [show (L.length : Int) - 1 = ((L.length - 1 : Nat) : Int) by omega, of_cov h (by omega), h0]
  unfold covN
  rw [List.drop_zero, show L.length - 1 + 1 - 0 = L.length by omega, List.take_length]
  conv => rhs; rw [← List.map_id L]
  refine List.map_congr_left fun d hd => ?_
  obtain ⟨i, hi, rfl⟩ := List.getElem_of_mem hd
  exact mv_zero fun k hk => by have := ordOk_kid hok hi k hk; omega
theorem of_len {L : List Nd} {l : List (Nat × Nat)} (h : ordT L = some l) {k : Nat} (hk : k < L.length) : 1 ≤ (ofT L (k : Int)).length ∧ (ofT L (k : Int)).length ≤ L.length := by
  obtain ⟨hok, h0, h1, h4⟩ := ordT_ok h
  have := (hok.2.1 k hk).1
  rw [of_cov h hk, cov_len hk this]; omega
theorem of_end {L : List Nd} {l : List (Nat × Nat)} (h : ordT L = some l) {k : Nat} (hk : k < L.length) : ∃ d : Int, (ofT L (k : Int)).getD ((ofT L (k : Int)).length - 1) nd0 = mv d (L.getD k nd0) := by
  obtain ⟨hok, h0, h1, h4⟩ := ordT_ok h
  have hf := (hok.2.1 k hk).1
  rw [of_cov h hk]
  refine ⟨-((gf l k).1 : Int), ?_⟩
  have hl := cov_len hk hf
  rw [last_get (by omega), cov_get hk hf, List.getD_eq_getElem?_getD, List.getElem?_eq_getElem hk]
  · show mv _ _ = mv _ L[k]
    congr 1
    congr 1
    omega
theorem deep_some {L : List Nd} (h : deepT L ≠ 0) : ∃ l, ordT L = some l := by
  cases ho : ordT L with
  | some l => exact ⟨l, rfl⟩
  | none => exact absurd (show deepT L = 0 by unfold deepT; rw [ho]) h
theorem deep_zero {L : List Nd} (h : deepT L = 0) : ordT L = none := by
  cases ho : ordT L with
  | none => rfl
  | some l =>
    obtain ⟨_, _, h1, _⟩ := ordT_ok ho
    have := deep_pos ho (show L.length - 1 < L.length by omega)
    rw [deep_of ho] at h
    omega
end Go.Proofs.YtpiknmnhcpjfaaaGreat
