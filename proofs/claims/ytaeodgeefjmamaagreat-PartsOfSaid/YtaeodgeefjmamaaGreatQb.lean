/- Plain lemmas on classes: pieces that tell apart what sets tell apart; of one set; of two's together; the classes as rows; one list of rows is right. Of no program. -/
import Derived.Test.YtaeodgeefjmamaaGreatQa
namespace Tnr

def Pt (c : Int) : Prop := 0 ≤ c ∧ c ≤ 1114111
def alike (S : List (List R)) (a b : Int) : Prop := ∀ s ∈ S, (Has s a ↔ Has s b)
theorem alike.refl (S : List (List R)) (a : Int) : alike S a a := fun _ _ => Iff.rfl
theorem alike.symm {S : List (List R)} {a b : Int} (h : alike S a b) : alike S b a := fun s hs => (h s hs).symm
theorem alike.trans {S : List (List R)} {a b c : Int} (h : alike S a b) (k : alike S b c) : alike S a c := fun s hs => (h s hs).trans (k s hs)
theorem alike_append (S T : List (List R)) (a b : Int) : alike (S ++ T) a b ↔ alike S a b ∧ alike T a b := by
  unfold alike
  constructor
  · intro h
    exact ⟨fun s hs => h s (List.mem_append_left _ hs), fun s hs => h s (List.mem_append_right _ hs)⟩
  · rintro ⟨h1, h2⟩ s hs
    rcases List.mem_append.1 hs with hs | hs
    · exact h1 s hs
    · exact h2 s hs
structure Good (S : List (List R)) (ps : List (Int × Nat)) (n : Nat) : Prop where
  start : ∃ k l, ps = (0, k) :: l
  wf : Wf ps
  nm : Nm 0 (ps.map Prod.snd) n
  few : n ≤ 60
  tell : ∀ a b, Pt a → Pt b → (cls ps a = cls ps b ↔ alike S a b)
/-- there are more classes than there may be. -/
def More (S : List (List R)) : Prop := ∃ P : List Int, P.length = 61 ∧ (∀ c ∈ P, Pt c) ∧ P.Pairwise fun a b => ¬ alike S a b
theorem More.left {S : List (List R)} (T : List (List R)) (h : More S) : More (S ++ T) := by
  obtain ⟨P, h1, h2, h3⟩ := h
  exact ⟨P, h1, h2, h3.imp fun hn ha => hn ((alike_append S T _ _).1 ha).1⟩
theorem More.right (S : List (List R)) {T : List (List R)} (h : More T) : More (S ++ T) := by
  obtain ⟨P, h1, h2, h3⟩ := h
  exact ⟨P, h1, h2, h3.imp fun hn ha => hn ((alike_append S T _ _).1 ha).2⟩

/-! ### both together -/
theorem merge_start {α β : Type} {a : α} {b : β} {l : List (Int × α)} {m : List (Int × β)} : ∃ t, mergeP ((0, a) :: l) ((0, b) :: m) = (0, (a, b)) :: t := by
  rw [mergeP_cons]
  exact ⟨_, rfl⟩
theorem merge_good {S T : List (List R)} {l m : List (Int × Nat)} {n1 n2 : Nat} (hl : Good S l n1) (hm : Good T m n2) :
    (∃ k t, mergeP l m = (0, k) :: t) ∧ Wf (mergeP l m) ∧ (mergeP l m).length + 1 ≤ l.length + m.length ∧ (∀ c, Pt c → cls (mergeP l m) c = (cls l c, cls m c)) := by
  obtain ⟨a, l', rfl⟩ := hl.start
  obtain ⟨b, m', rfl⟩ := hm.start
  obtain ⟨t, ht⟩ := @merge_start _ _ a b l' m'
  obtain ⟨h1, h2, h3⟩ := mergeP_spec _ l' m' (0, a) (0, b) (Nat.le_refl _) hl.wf hm.wf (Wf.ends_ge hm.wf) (Wf.ends_ge hl.wf)
  refine ⟨⟨_, t, ht⟩, h1, by simp only [List.length_cons]; omega, fun c hc => h3 c (by show max 0 0 ≤ c; have := hc.1; omega) hc.2⟩
theorem good_merge {S T : List (List R)} {l m : List (Int × Nat)} {n1 n2 : Nat} (hl : Good S l n1) (hm : Good T m n2) (hk : (keys (mergeP l m)).length ≤ 60) :
    Good (S ++ T) (numd (mergeP l m)) (keys (mergeP l m)).length := by
  obtain ⟨⟨k, t, ht⟩, hw, _, hc⟩ := merge_good hl hm
  refine ⟨⟨_, _, by rw [ht]; rfl⟩, ?_, numd_nm _, hk, fun a b ha hb => ?_⟩
  · rw [ht] at hw ⊢
    exact (numd_wf _ _ hw).1
  · rw [alike_append, ← hl.tell a b ha hb, ← hm.tell a b ha hb]
    have hca := hc a ha
    have hcb := hc b hb
    rw [ht] at hw hca hcb ⊢
    have h0 := (numd_wf _ _ hw).2
    rw [h0 a ha.1, h0 b hb.1, hca, hcb]
    constructor
    · intro e
      have h1 := cls_mem t (0, k) a
      have h2 := cls_mem t (0, k) b
      rw [hca] at h1
      rw [hcb] at h2
      have e' := idx_inj ((mem_keys _ _).2 h1) ((mem_keys _ _).2 h2) e
      exact ⟨congrArg Prod.fst e', congrArg Prod.snd e'⟩
    · rintro ⟨e1, e2⟩
      rw [e1, e2]
theorem witnesses {κ : Type} (K : Int → κ) : ∀ ks : List κ, (∀ k ∈ ks, ∃ c, Pt c ∧ K c = k) → ∃ P : List Int, P.map K = ks ∧ ∀ c ∈ P, Pt c
  | [], _ => ⟨[], rfl, by simp⟩
  | k :: ks, h => by
    obtain ⟨P, h1, h2⟩ := witnesses K ks fun k' hk => h k' (List.mem_cons_of_mem _ hk)
    obtain ⟨c, hc, e⟩ := h k (by simp)
    refine ⟨c :: P, by rw [List.map_cons, e, h1], fun x hx => ?_⟩
    rcases List.mem_cons.1 hx with rfl | hx
    · exact hc
    · exact h2 x hx
theorem more_of {κ : Type} {S : List (List R)} (K : Int → κ) (hK : ∀ a b, Pt a → Pt b → alike S a b → K a = K b) (ks : List κ) (hn : ks.Nodup) (hl : 60 < ks.length) (h : ∀ k ∈ ks, ∃ c, Pt c ∧ K c = k) : More S := by
  obtain ⟨P, h1, h2⟩ := witnesses K (ks.take 61) fun k hk => h k (List.mem_of_mem_take hk)
  have hnd : (P.map K).Nodup := by rw [h1]; exact hn.sublist (List.take_sublist _ _)
  refine ⟨P, ?_, h2, ?_⟩
  · have := congrArg List.length h1
    rw [List.length_map, List.length_take] at this
    omega
  · have h3 : P.Pairwise fun a b => K a ≠ K b := List.pairwise_map.1 hnd
    exact List.Pairwise.imp_of_mem (fun {a b} ha hb hne hal => hne (hK a b (h2 a ha) (h2 b hb) hal)) h3
theorem more_merge {S T : List (List R)} {l m : List (Int × Nat)} {n1 n2 : Nat} (hl : Good S l n1) (hm : Good T m n2) {don rest : List (Int × (Nat × Nat))} (e : mergeP l m = don ++ rest) (hk : 60 < (keys don).length) : More (S ++ T) := by
  obtain ⟨⟨k, t, ht⟩, hw, _, hc⟩ := merge_good hl hm
  refine more_of (fun c => (cls l c, cls m c)) (fun a b ha hb hal => ?_) (keys don) (keys_nodup don) hk fun k' hk' => ?_
  · obtain ⟨h1, h2⟩ := (alike_append S T a b).1 hal
    rw [(hl.tell a b ha hb).2 h1, (hm.tell a b ha hb).2 h2]
  · obtain ⟨p, hp, e2⟩ := (mem_keys _ _).1 hk'
    have hp' : p ∈ (0, k) :: t := by rw [← ht, e]; exact List.mem_append_left _ hp
    rw [ht] at hw
    have h1 := Wf.above hw p hp'
    have h2 := cls_at hw p hp'
    have h3 : Pt p.1 := ⟨h1.1, h1.2⟩
    refine ⟨p.1, h3, ?_⟩
    rw [← hc p.1 h3, ht, h2, e2]

/-! ### one set -/
def cutsR (l : List R) : List Int := l.flatMap fun r => [r.1, r.2 + 1]
theorem cutsR_cons (r : R) (l : List R) : cutsR (r :: l) = r.1 :: (r.2 + 1) :: cutsR l := rfl
def okCut (c : Int) : Bool := decide (0 < c) && decide (c ≤ 1114111)
def alt : Nat → List Int → List (Int × Nat)
  | _, [] => []
  | k, x :: t => (x, k % 2) :: alt (k + 1) t
def setP (l : List R) : List (Int × Nat) := alt 0 (0 :: (cutsR l).filter okCut)
theorem alt_length : ∀ (t : List Int) (k : Nat), (alt k t).length = t.length
  | [], _ => rfl
  | x :: t, k => by rw [alt, List.length_cons, alt_length t, List.length_cons]
theorem alt_fst : ∀ (t : List Int) (k : Nat), (alt k t).map Prod.fst = t
  | [], _ => rfl
  | x :: t, k => by rw [alt, List.map_cons, alt_fst t]
theorem alt_snoc : ∀ (t : List Int) (k : Nat) (x : Int), alt k (t ++ [x]) = alt k t ++ [(x, (k + t.length) % 2)]
  | [], k, x => rfl
  | y :: t, k, x => by rw [List.cons_append, alt, alt_snoc t, alt, List.length_cons, List.cons_append, show k + 1 + t.length = k + (t.length + 1) by omega]
theorem alt_nm : ∀ (t : List Int) (k : Nat), Nm 2 ((alt k t).map Prod.snd) 2
  | [], _ => rfl
  | x :: t, k => by
    rw [alt, List.map_cons]
    refine ⟨by show k % 2 ≤ 2; omega, ?_⟩
    rw [if_neg (by show ¬ k % 2 = 2; omega)]
    exact alt_nm t (k + 1)
theorem cutsR_above : ∀ {l : List R} {last : Int}, RF last l → ∀ x ∈ cutsR l, last + 1 < x
  | [], _, _, x, hx => by simp [cutsR] at hx
  | r :: l, last, h, x, hx => by
    obtain ⟨a1, a2, a3, a4⟩ := h
    rw [cutsR_cons] at hx
    rcases List.mem_cons.1 hx with rfl | hx
    · omega
    rcases List.mem_cons.1 hx with rfl | hx
    · omega
    have := cutsR_above a4 x hx
    omega
theorem cutsR_rising : ∀ {l : List R} {last : Int}, RF last l → (cutsR l).Pairwise (· < ·)
  | [], _, _ => by simp [cutsR]
  | r :: l, last, h => by
    obtain ⟨a1, a2, a3, a4⟩ := h
    rw [cutsR_cons, List.pairwise_cons, List.pairwise_cons]
    refine ⟨fun x hx => ?_, fun x hx => by have := cutsR_above a4 x hx; omega, cutsR_rising a4⟩
    rcases List.mem_cons.1 hx with rfl | hx
    · omega
    · have := cutsR_above a4 x hx; omega
theorem count_zero {t : List Int} {c : Int} (h : ∀ x ∈ t, c < x) : t.countP (fun x => decide (x ≤ c)) = 0 := by
  rw [List.countP_eq_zero]
  intro x hx
  have := h x hx
  simp; omega
theorem cov_count : ∀ {l : List R} {last c : Int}, RF last l → (Cov l c ↔ (cutsR l).countP (fun x => decide (x ≤ c)) % 2 = 1)
  | [], _, _, _ => by simp [cutsR, cov_nil]
  | r :: l, last, c, h => by
    obtain ⟨a1, a2, a3, a4⟩ := h
    rw [cov_cons, cutsR_cons, List.countP_cons, List.countP_cons, cov_count (c := c) a4]
    by_cases h1 : c < r.1
    · rw [count_zero (fun x hx => by have := cutsR_above a4 x hx; omega)]
      rw [if_neg (by simp; omega), if_neg (by simp; omega)]
      simp; omega
    · by_cases h2 : c ≤ r.2
      · rw [count_zero (fun x hx => by have := cutsR_above a4 x hx; omega)]
        rw [if_neg (by simp; omega), if_pos (by simp; omega)]
        simp; omega
      · rw [if_pos (by simp; omega), if_pos (by simp; omega)]
        constructor
        · rintro (h | h)
          · omega
          · omega
        · intro h; right; omega
theorem count_ok : ∀ (t : List Int) (c : Int), Pt c → (t.filter okCut).countP (fun x => decide (x ≤ c)) + t.countP (fun x => decide (x ≤ 0)) = t.countP (fun x => decide (x ≤ c))
  | [], _, _ => rfl
  | x :: t, c, hc => by
    have ih := count_ok t c hc
    have h1 := hc.1
    have h2 := hc.2
    rw [List.filter_cons]
    by_cases hx : 0 < x
    · by_cases hm : x ≤ 1114111
      · rw [if_pos (by simp [okCut]; omega), List.countP_cons, List.countP_cons, List.countP_cons]
        by_cases h3 : x ≤ c
        · rw [if_pos (by simpa using h3), if_neg (by simp; omega)]; omega
        · rw [if_neg (by simpa using h3), if_neg (by simp; omega)]; omega
      · rw [if_neg (by simp [okCut]; omega), List.countP_cons, List.countP_cons, if_neg (by simp; omega), if_neg (by simp; omega)]; omega
    · rw [if_neg (by simp [okCut]; omega), List.countP_cons, List.countP_cons, if_pos (by simp; omega), if_pos (by simp; omega)]; omega
theorem alt_spec : ∀ (t : List Int) (x : Int) (k : Nat), (x :: t).Pairwise (· < ·) → (∀ y ∈ x :: t, y ≤ 1114111) → Wf (alt k (x :: t)) ∧ ∀ c, x ≤ c → cls (alt k (x :: t)) c = (k + t.countP (fun y => decide (y ≤ c))) % 2
  | [], x, k, _, h => ⟨h x (by simp), fun c _ => by simp [alt, cls]⟩
  | y :: t, x, k, hp, hm => by
    rw [List.pairwise_cons] at hp
    obtain ⟨i1, i2⟩ := alt_spec t y (k + 1) hp.2 fun z hz => hm z (List.mem_cons_of_mem _ hz)
    refine ⟨⟨hp.1 y (by simp), by show k % 2 ≠ (k + 1) % 2; omega, i1⟩, fun c hc => ?_⟩
    show cls ((x, k % 2) :: alt (k + 1) (y :: t)) c = _
    rw [alt, cls]
    simp only
    split
    · rename_i hlt
      rw [count_zero (fun z hz => ?_)]
      · rfl
      · rcases List.mem_cons.1 hz with rfl | hz
        · exact hlt
        · have := (List.pairwise_cons.1 hp.2).1 z hz
          omega
    · rename_i hlt
      have := i2 c (by omega)
      rw [alt] at this
      rw [this, List.countP_cons, if_pos (by simp; omega)]
      congr 1
      omega
theorem setP_good {l : List R} (h : Rt l) : ∃ n, Good [l] (setP l) n := by
  have hr : (0 :: (cutsR l).filter okCut).Pairwise (· < ·) := by
    rw [List.pairwise_cons]
    refine ⟨fun x hx => ?_, (cutsR_rising h).filter _⟩
    have := (List.mem_filter.1 hx).2
    simp [okCut] at this
    omega
  have hm : ∀ y ∈ 0 :: (cutsR l).filter okCut, y ≤ 1114111 := by
    intro y hy
    rcases List.mem_cons.1 hy with rfl | hy
    · omega
    · have := (List.mem_filter.1 hy).2
      simp [okCut] at this
      omega
  obtain ⟨s1, s2⟩ := alt_spec _ 0 0 hr hm
  obtain ⟨n, hn, h60⟩ : ∃ n, Nm 0 ((setP l).map Prod.snd) n ∧ n ≤ 60 := by
    unfold setP
    cases (cutsR l).filter okCut with
    | nil => exact ⟨1, by simp [alt, Nm], by omega⟩
    | cons x t =>
      refine ⟨2, ⟨by simp, ?_⟩, by omega⟩
      refine ⟨by simp, ?_⟩
      exact alt_nm t 2
  refine ⟨n, ⟨0, _, rfl⟩, s1, hn, h60, fun a b ha hb => ?_⟩
  unfold setP
  rw [s2 a ha.1, s2 b hb.1, Nat.zero_add, Nat.zero_add]
  have ca := count_ok (cutsR l) a ha
  have cb := count_ok (cutsR l) b hb
  have ka := cov_count (c := a) h
  have kb := cov_count (c := b) h
  have e : alike [l] a b ↔ (Cov l a ↔ Cov l b) := by
    unfold alike
    simp only [List.mem_singleton, forall_eq]
    rw [h.has, h.has]
  rw [e, ka, kb]
  omega
theorem cutsR_length (l : List R) : (cutsR l).length = 2 * l.length := by
  induction l with
  | nil => rfl
  | cons r l ih => rw [cutsR_cons]; simp only [List.length_cons, ih]; omega
theorem setP_length (l : List R) : (setP l).length ≤ 2 * l.length + 1 := by
  unfold setP
  rw [alt_length, List.length_cons]
  have := List.length_filter_le okCut (cutsR l)
  rw [cutsR_length] at this
  omega
theorem good_cong {S T : List (List R)} {ps : List (Int × Nat)} {n : Nat} (h : Good S ps n) (e : ∀ a b, alike S a b ↔ alike T a b) : Good T ps n := ⟨h.start, h.wf, h.nm, h.few, fun a b ha hb => (h.tell a b ha hb).trans (e a b)⟩
end Tnr
