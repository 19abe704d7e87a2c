/- The document's scan: an escape, whatever stands next. -/
import Derived.Test.YtkpkhjflelmdjaaZj
namespace Go.Proofs.Ytkpkhjflelmdjaa
open Go.RowKit Tnd

def ecV (r : List Int) : Int × Nat := match escR r with
  | some x => x
  | none => (0, 0)
theorem hexR_pos {m : Nat} {r : List Int} {x : Int} (h : hexR m r = some x) : 0 ≤ x := by
  have key : ∀ (m : Nat) (n : Int) (r : List Int), 0 ≤ n → 0 ≤ (numR 16 1114112 m n r).1 := by
    intro m
    induction m with
    | zero => intro n r hn; exact hn
    | succ m ih =>
      intro n r hn
      match r with
      | [] => exact hn
      | p :: t =>
        simp only [numR]
        split
        · rename_i hw
          exact ih _ _ (stp_range (by omega) (wth_range p).1 (by omega) hn).1
        · exact hn
  unfold hexR at h
  split at h
  · cases h; exact key m 0 r (by omega)
  · cases h
theorem hxs_some {m : Nat} {r : List Int} {x : Int} (h : hexR m r = some x) : hxsR m r = x := by unfold hxsR; rw [h]
theorem hxs_none {m : Nat} {r : List Int} (h : hexR m r = none) : hxsR m r = -1 := by unfold hxsR; rw [h]
theorem amg_let {d : Int} : amg d letS = true ↔ (65 ≤ d ∧ d ≤ 90) ∨ (97 ≤ d ∧ d ≤ 122) := by
  have h1 : ∀ x ∈ letS, ((65 ≤ x.toNat ∧ x.toNat ≤ 90) ∨ (97 ≤ x.toNat ∧ x.toNat ≤ 122)) := by decide
  have h2 : ∀ n, n < 256 → ((65 ≤ n ∧ n ≤ 90) ∨ (97 ≤ n ∧ n ≤ 122)) → (letS.any fun x => x.toNat == n) = true := by decide +kernel
  unfold amg
  rw [List.any_eq_true]
  constructor
  · rintro ⟨x, hx, e⟩
    have e2 : d = (x.toNat : Int) := by simpa using e
    have := h1 x hx
    omega
  · intro h
    have h3 := h2 d.toNat (by omega) (by omega)
    rw [List.any_eq_true] at h3
    obtain ⟨x, hx, e⟩ := h3
    have e2 : x.toNat = d.toNat := by simpa using e
    exact ⟨x, hx, by simp; omega⟩
theorem amg_dig {d : Int} : amg d digS = true ↔ 48 ≤ d ∧ d ≤ 57 := by
  have h1 : ∀ x ∈ digS, (48 ≤ x.toNat ∧ x.toNat ≤ 57) := by decide
  have h2 : ∀ n, n < 256 → (48 ≤ n ∧ n ≤ 57) → (digS.any fun x => x.toNat == n) = true := by decide +kernel
  unfold amg
  rw [List.any_eq_true]
  constructor
  · rintro ⟨x, hx, e⟩
    have e2 : d = (x.toNat : Int) := by simpa using e
    have := h1 x hx
    omega
  · intro h
    have h3 := h2 d.toNat (by omega) (by omega)
    rw [List.any_eq_true] at h3
    obtain ⟨x, hx, e⟩ := h3
    have e2 : x.toNat = d.toNat := by simpa using e
    exact ⟨x, hx, by simp; omega⟩
theorem own_not {c : Int} (h : amg c ownS = true) : c ≠ 102 ∧ c ≠ 110 ∧ c ≠ 114 ∧ c ≠ 116 ∧ c ≠ 118 ∧ c ≠ 99 ∧ c ≠ 48 ∧ c ≠ 120 ∧ c ≠ 117 := by
  refine ⟨?_, ?_, ?_, ?_, ?_, ?_, ?_, ?_, ?_⟩ <;> (rintro rfl; exact absurd h (by decide))
theorem sg_gi {l : List Int} {k i : Nat} (h : k + i < l.length) (h0 : 0 ≤ gi l (k + i)) : sgR (l.drop k) i = gi l (k + i) := by
  rw [sgR_at h, if_neg (by omega)]
theorem sg_neg {l : List Int} {k i : Nat} (h : ¬ (k + i < l.length ∧ 0 ≤ gi l (k + i))) : sgR (l.drop k) i < 0 := by
  by_cases hk : k + i < l.length
  · rw [sgR_at hk]
    have : gi l (k + i) < 0 := by
      by_cases h2 : gi l (k + i) < 0
      · exact h2
      · exact absurd ⟨hk, by omega⟩ h
    split <;> omega
  · rw [sgR_off (by omega)]; omega
theorem ctl_at {l : List Int} {a : Nat} (d : Int) (hd : sgR (l.drop a) 1 = d) : ctlR (l.drop (a + 1)) = if (65 ≤ d ∧ d ≤ 90) ∨ (97 ≤ d ∧ d ≤ 122) then some (d % 32, 1) else none := by
  by_cases hk : a + 1 < l.length ∧ 0 ≤ gi l (a + 1)
  · rw [sg_gi hk.1 hk.2] at hd
    rw [drop_cons hk.1, hd]
    simp only [ctlR]
    by_cases h : amg d letS = true
    · rw [if_pos h, if_pos (amg_let.1 h)]
    · rw [if_neg h, if_neg (fun e => h (amg_let.2 e))]
  · have hn := sg_neg hk
    rw [hd] at hn
    rw [if_neg (by omega)]
    by_cases hk2 : a + 1 < l.length
    · rw [drop_cons hk2]
      simp only [ctlR]
      rw [if_neg]
      intro e
      have := amg_let.1 e
      exact hk ⟨hk2, by omega⟩
    · rw [List.drop_eq_nil_of_le (by omega)]; rfl
theorem zer_at {l : List Int} {a : Nat} (d : Int) (hd : sgR (l.drop a) 1 = d) : zerR (l.drop (a + 1)) = if 48 ≤ d ∧ d ≤ 57 then none else some (0, 0) := by
  by_cases hk : a + 1 < l.length ∧ 0 ≤ gi l (a + 1)
  · rw [sg_gi hk.1 hk.2] at hd
    rw [drop_cons hk.1, hd]
    simp only [zerR]
    by_cases h : amg d digS = true
    · rw [if_pos h, if_pos (amg_dig.1 h)]
    · rw [if_neg h, if_neg (fun e => h (amg_dig.2 e))]
  · have hn := sg_neg hk
    rw [hd] at hn
    rw [if_neg (by omega)]
    by_cases hk2 : a + 1 < l.length
    · rw [drop_cons hk2]
      simp only [zerR]
      rw [if_neg]
      intro e
      have := amg_dig.1 e
      exact hk ⟨hk2, by omega⟩
    · rw [List.drop_eq_nil_of_le (by omega)]; rfl

theorem TR.to {w : World} {B b : Nat} {l : List Int} {k : Nat} {x y x' y' : Int} {e : Ending} {w' : World} (h : TR w B b l k x y e w') (hx : x = x') (hy : y = y') : TR w B b l k x' y' e w' := hx ▸ hy ▸ h
theorem plain_of {c : Int} (h : amg c ownS = true) : plainR c = some c := by
  obtain ⟨h1, h2, h3, h4, h5, -⟩ := own_not h
  unfold plainR
  rw [if_neg h1, if_neg h2, if_neg h3, if_neg h4, if_neg h5, if_pos h]
theorem plain_no {c : Int} (h : ¬ amg c ownS = true) (h1 : c ≠ 102) (h2 : c ≠ 110) (h3 : c ≠ 114) (h4 : c ≠ 116) (h5 : c ≠ 118) : plainR c = none := by
  unfold plainR
  rw [if_neg h1, if_neg h2, if_neg h3, if_neg h4, if_neg h5, if_neg h]
theorem pre_two {l : List Int} {a : Nat} : pre [92, 117] (l.drop a) = true ↔ (a < l.length ∧ gi l a = 92) ∧ (a + 1 < l.length ∧ gi l (a + 1) = 117) := by
  by_cases ha : a < l.length
  · rw [drop_cons ha]
    have : pre [92, 117] (gi l a :: l.drop (a + 1)) = (gi l a == 92 && pre [117] (l.drop (a + 1))) := rfl
    rw [this, Bool.and_eq_true, beq_iff_eq]
    constructor
    · rintro ⟨h1, h2⟩; exact ⟨⟨ha, h1⟩, pre_one.1 h2⟩
    · rintro ⟨⟨_, h1⟩, h2⟩; exact ⟨h1, pre_one.2 h2⟩
  · rw [List.drop_eq_nil_of_le (by omega)]
    refine ⟨fun h => ?_, fun h => absurd h.1.1 ha⟩
    simp [pre] at h

/-- u's rest: as the document goes through it. -/
theorem ecu_ref (B b : Nat) (l : List Int) (k : Nat) (w : World) (h : Rs w B b l k) (hc : sgR (l.drop k) 0 = 117) :
    Calls Try.prog 54 #[.pointer (some ⟨b, 0, none⟩)] w (TR w B b l k (match lngR (l.drop (k + 1)) with | some x => x.1 | none => 0) (match lngR (l.drop (k + 1)) with | some x => ((x.2 + 1 : Nat) : Int) | none => 0)) := by
  have hlen := h.le.2.2
  by_cases hp : pre [123] (l.drop (k + 1)) = true
  · unfold lngR
    rw [if_pos hp]
    cases hb : brcR ((l.drop (k + 1)).drop 1) with
    | some x =>
      have hbr : brR (l.drop (k + 1)) = (x.1, x.2 + 1) := by unfold brR; rw [if_pos hp, hb]
      have hx2 : x.2 + 1 ≤ 1000000 := by
        have h1 := numR_le 16 1114112 ((l.drop (k + 1)).drop 1).length 0 ((l.drop (k + 1)).drop 1)
        have h2 := (pre_one.1 hp).1
        unfold brcR at hb
        split at hb
        · cases hb
        · split at hb
          · cases hb
            have h3 : ((l.drop (k + 1)).drop 1).length = l.length - (k + 1) - 1 := by rw [List.length_drop, List.length_drop]
            simp only
            omega
          · cases hb
      refine (ecu_brace B b l k w h x.1 (x.2 + 1) hc hbr (by omega) (by omega)).mono fun e w' hp => ?_
      exact hp.to rfl (by simp only [Option.map_some]; omega)
    | none =>
      have hbr : brR (l.drop (k + 1)) = (0, 0) := by unfold brR; rw [if_pos hp, hb]
      have hhi : hxsR 4 (l.drop (k + 1)) = -1 := by
        apply hxs_none
        unfold hexR
        have h2 := pre_one.1 hp
        rw [num_stop (fun e => by rw [h2.2] at e; exact absurd e.2 (by decide))]
        rw [if_neg (by decide)]
      simp only [Option.map_none]
      by_cases h5 : sgR (l.drop k) 5 = 92
      · by_cases h6 : sgR (l.drop k) 6 = 117
        · exact ecu_c_neg B b l k w h 0 (-1) _ hc hbr hhi h5 h6 rfl (by unfold PairOk; omega) (by omega)
        · exact ecu_b_neg B b l k w h 0 (-1) _ hc hbr hhi h5 rfl h6 (by omega)
      · exact ecu_a_neg B b l k w h 0 (-1) _ hc hbr hhi rfl h5 (by omega)
  · have hbr : brR (l.drop (k + 1)) = (0, 0) := by unfold brR; rw [if_neg hp]
    unfold lngR
    rw [if_neg hp]
    cases hx : hexR 4 (l.drop (k + 1)) with
    | none =>
      have hhi := hxs_none hx
      simp only
      by_cases h5 : sgR (l.drop k) 5 = 92
      · by_cases h6 : sgR (l.drop k) 6 = 117
        · exact ecu_c_neg B b l k w h 0 (-1) _ hc hbr hhi h5 h6 rfl (by unfold PairOk; omega) (by omega)
        · exact ecu_b_neg B b l k w h 0 (-1) _ hc hbr hhi h5 rfl h6 (by omega)
      · exact ecu_a_neg B b l k w h 0 (-1) _ hc hbr hhi rfl h5 (by omega)
    | some hi =>
      have hhi := hxs_some hx
      have hpos := hexR_pos hx
      simp only
      rw [List.drop_drop]
      unfold lowR
      by_cases h56 : sgR (l.drop k) 5 = 92 ∧ sgR (l.drop k) 6 = 117
      · have hpre : pre [92, 117] (l.drop (k + 1 + 4)) = true := by
          rw [pre_two]
          exact ⟨(sg_at (k := k) (i := 5) (x := 92)).1 h56.1, (sg_at (k := k) (i := 6) (x := 117)).1 h56.2⟩
        rw [if_pos hpre, List.drop_drop]
        cases hlo : hexR 4 (l.drop (k + 1 + 4 + 2)) with
        | none =>
          exact ecu_c_pos B b l k w h 0 hi (-1) hc hbr hhi h56.1 h56.2 (hxs_none hlo) (by unfold PairOk; omega) hpos
        | some lo =>
          simp only
          by_cases hpo : (55296 ≤ hi ∧ hi < 56320) ∧ 56320 ≤ lo ∧ lo ≤ 57343
          · rw [if_pos hpo]
            exact ecu_d B b l k w h 0 hi lo hc hbr hhi h56.1 h56.2 (hxs_some hlo) hpo
          · rw [if_neg hpo]
            exact ecu_c_pos B b l k w h 0 hi lo hc hbr hhi h56.1 h56.2 (hxs_some hlo) hpo hpos
      · have hpre : ¬ pre [92, 117] (l.drop (k + 1 + 4)) = true := by
          intro e
          have := pre_two.1 e
          exact h56 ⟨(sg_at (k := k) (i := 5) (x := 92)).2 this.1, (sg_at (k := k) (i := 6) (x := 117)).2 this.2⟩
        rw [if_neg hpre]
        by_cases h5 : sgR (l.drop k) 5 = 92
        · exact ecu_b_pos B b l k w h 0 hi _ hc hbr hhi h5 rfl (fun e => h56 ⟨h5, e⟩) hpos
        · exact ecu_a_pos B b l k w h 0 hi _ hc hbr hhi rfl h5 hpos

theorem escape_ref (B b : Nat) (l : List Int) (k : Nat) (w : World) (h : Rs w B b l k) :
    Calls Try.prog 54 #[.pointer (some ⟨b, 0, none⟩)] w (TR w B b l k (ecV (l.drop k)).1 ((ecV (l.drop k)).2 : Nat)) := by
  by_cases hk : k < l.length ∧ 0 ≤ gi l k
  · obtain ⟨hk, h0⟩ := hk
    have hc : sgR (l.drop k) 0 = gi l k := sg_gi (i := 0) hk h0
    have hec : ecV (l.drop k) = (match escT (gi l k) (l.drop (k + 1)) with | some x => (x.1, x.2 + 1) | none => (0, 0)) := by
      unfold ecV
      rw [drop_cons hk]
      simp only [escR]
      cases escT (gi l k) (l.drop (k + 1)) <;> rfl
    rw [hec]
    generalize hg : gi l k = c at hc hec
    by_cases p0 : c = 102
    · subst p0; exact ecs_plain0 B b l k w h hc
    by_cases p1 : c = 110
    · subst p1; exact ecs_plain1 B b l k w h hc
    by_cases p2 : c = 114
    · subst p2; exact ecs_plain2 B b l k w h hc
    by_cases p3 : c = 116
    · subst p3; exact ecs_plain3 B b l k w h hc
    by_cases p4 : c = 118
    · subst p4; exact ecs_plain4 B b l k w h hc
    by_cases q1 : c = 99
    · subst q1
      have hct := ctl_at (l := l) (a := k) _ rfl
      have e : escT 99 (l.drop (k + 1)) = ctlR (l.drop (k + 1)) := rfl
      rw [e, hct]
      by_cases hl : (65 ≤ sgR (l.drop k) 1 ∧ sgR (l.drop k) 1 ≤ 90) ∨ (97 ≤ sgR (l.drop k) 1 ∧ sgR (l.drop k) 1 ≤ 122)
      · rw [if_pos hl]
        rcases hl with hl | hl
        · exact ecs_c_up B b l k w h _ hc rfl hl.1 hl.2
        · exact ecs_c_lo B b l k w h _ hc rfl hl.1 hl.2
      · rw [if_neg hl]
        have hcase : sgR (l.drop k) 1 < 65 ∨ (90 < sgR (l.drop k) 1 ∧ sgR (l.drop k) 1 < 97) ∨ 122 < sgR (l.drop k) 1 := by omega
        rcases hcase with hx | hx | hx
        · exact ecs_c_noa B b l k w h _ hc rfl hx
        · exact ecs_c_nob B b l k w h _ hc rfl hx.1 hx.2
        · exact ecs_c_noe B b l k w h _ hc rfl hx
    by_cases q2 : c = 48
    · subst q2
      have hct := zer_at (l := l) (a := k) _ rfl
      have e : escT 48 (l.drop (k + 1)) = zerR (l.drop (k + 1)) := rfl
      rw [e, hct]
      by_cases hl : 48 ≤ sgR (l.drop k) 1 ∧ sgR (l.drop k) 1 ≤ 57
      · rw [if_pos hl]
        exact ecs_0_no B b l k w h _ hc rfl hl.1 hl.2
      · rw [if_neg hl]
        by_cases hx : sgR (l.drop k) 1 < 48
        · exact ecs_0_a B b l k w h _ hc rfl hx
        · exact ecs_0_b B b l k w h _ hc rfl (by omega)
    by_cases q3 : c = 120
    · subst q3
      have e : escT 120 (l.drop (k + 1)) = (hexR 2 (l.drop (k + 1))).map fun x => (x, 2) := rfl
      rw [e]
      cases hx : hexR 2 (l.drop (k + 1)) with
      | some x => exact ecs_x B b l k w h x hc (hxs_some hx) (hexR_pos hx)
      | none => exact ecs_x_no B b l k w h (-1) hc (hxs_none hx) (by omega)
    by_cases q4 : c = 117
    · subst q4
      have e : escT 117 (l.drop (k + 1)) = lngR (l.drop (k + 1)) := rfl
      rw [e]
      refine (ecu_ref B b l k w h hc).mono fun e w' hp => ?_
      cases hl : lngR (l.drop (k + 1)) with
      | some x => rw [hl] at hp; exact hp
      | none => rw [hl] at hp; exact hp
    by_cases ha : amg c ownS = true
    · have e : escT c (l.drop (k + 1)) = some (c, 0) := by unfold escT; rw [plain_of ha]
      rw [e]
      exact ecs_own B b l k w h c c 1 hc p0 p1 p2 p3 p4 q1 q2 q3 q4 (by rw [if_pos ha]) (by rw [if_pos ha])
    · have e : escT c (l.drop (k + 1)) = none := by unfold escT; rw [plain_no ha p0 p1 p2 p3 p4]; simp only; rw [if_neg q1, if_neg q2, if_neg q3, if_neg q4]
      rw [e]
      exact ecs_own B b l k w h c 0 0 hc p0 p1 p2 p3 p4 q1 q2 q3 q4 (by rw [if_neg ha]) (by rw [if_neg ha])
  · have hn := sg_neg (l := l) (k := k) (i := 0) hk
    have hno : ∀ c : Int, c < 0 → ¬ amg c ownS = true := fun c h e => by have := amg_byte e; omega
    have hec : ecV (l.drop k) = (0, 0) := by
      unfold ecV
      by_cases hk2 : k < l.length
      · rw [drop_cons hk2]
        have hg : gi l k < 0 := by
          by_cases h2 : gi l k < 0
          · exact h2
          · exact absurd ⟨hk2, by omega⟩ hk
        simp only [escR, escT]
        rw [plain_no (hno _ hg) (by omega) (by omega) (by omega) (by omega) (by omega)]
        simp only
        rw [if_neg (by omega), if_neg (by omega), if_neg (by omega), if_neg (by omega)]
        rfl
      · rw [List.drop_eq_nil_of_le (by omega)]; rfl
    rw [hec]
    exact ecs_own B b l k w h _ 0 0 rfl (by omega) (by omega) (by omega) (by omega) (by omega) (by omega) (by omega) (by omega) (by omega) (by rw [if_neg (hno _ hn)]) (by rw [if_neg (hno _ hn)])
end Go.Proofs.Ytkpkhjflelmdjaa
