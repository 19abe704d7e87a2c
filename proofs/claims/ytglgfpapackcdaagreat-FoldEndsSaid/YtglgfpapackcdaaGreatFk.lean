/- A drawn region in whatever order whose phase ends where an operation reaches back nine steps; what holds of the world may hang on what is done. Of no program. -/
import Derived.Test.YtglgfpapackcdaaGreatFi

namespace Go

section
variable {P : Program} {ops : Array Oper} {Q : Exit → Act → World → Prop}

def phaseL9 (ops : Array Oper) (pre : Array Bool) (late : Nat → Bool) (size : Nat) : Bool :=
  (List.range ops.size).all fun i => match ops[i]? with
    | none => true
    | some o => if pre.getD i false then
        (match o.dst with | none => false | some d => decide (d < size) && ((List.range ops.size).all fun j => j == i || !(pre.getD j false) || slotOf ops j != some d)) &&
        o.after.all fun e => !Region.binds .any e || (decide (e.on < i) && pre.getD e.on false)
      else (o.after.any fun e => Region.binds .any e && decide (e.on < ops.size) && !(pre.getD e.on false)) || ((List.range ops.size).all fun j => !(pre.getD j false) || late j || reachB ops 9 i j)
def phaseB9 (ops : Array Oper) (pre : Array Bool) (size : Nat) : Bool := phaseL9 ops pre (fun _ => false) size

theorem phase_slot9 {pre : Array Bool} {late : Nat → Bool} {n i : Nat} (h : phaseL9 ops pre late n = true) (hi : i < ops.size) (hp : pre.getD i false = true) : ∃ d, slotOf ops i = some d ∧ d < n ∧ ∀ j, j < ops.size → pre.getD j false = true → slotOf ops j = some d → j = i := by
  have h1 := (List.all_eq_true.1 h) i (List.mem_range.2 hi)
  obtain ⟨o, ho⟩ : ∃ o, ops[i]? = some o := ⟨ops[i], by simp [hi]⟩
  simp only [ho, hp, if_true, Bool.and_eq_true] at h1
  obtain ⟨d, hod⟩ : ∃ d, o.dst = some d := by
    cases hod : o.dst with
    | none => rw [hod] at h1; simp at h1
    | some d => exact ⟨d, rfl⟩
  rw [hod] at h1
  simp only [Bool.and_eq_true, decide_eq_true_eq, List.all_eq_true] at h1
  refine ⟨d, by unfold slotOf; rw [ho]; exact hod, h1.1.1, fun j hj hjp hs => ?_⟩
  have h2 := h1.1.2 j (List.mem_range.2 hj)
  simp only [Bool.or_eq_true, beq_iff_eq, hjp, Bool.not_true, Bool.false_eq_true, bne_iff_ne, or_false] at h2
  rcases h2 with h2 | h2
  · exact h2
  · exact absurd hs h2
theorem slots_nodup9 {pre : Array Bool} {late : Nat → Bool} {f : Nat → Value} {n : Nat} (h : phaseL9 ops pre late n = true) : ((slotsOf ops pre f).map Prod.fst).Nodup := by
  have key : ∀ l : List Nat, l.Nodup → (∀ j ∈ l, j < ops.size) → ((l.filterMap fun j => if pre.getD j false then (slotOf ops j).map fun d => (d, f j) else none).map Prod.fst).Nodup := by
    intro l
    induction l with
    | nil => intro _ _; simp
    | cons j l ih =>
      intro hn hl
      have ih2 := ih (List.nodup_cons.1 hn).2 (fun k hk => hl k (List.mem_cons_of_mem _ hk))
      rw [List.filterMap_cons]
      by_cases hp : pre.getD j false = true
      · obtain ⟨d, hd, _, hu⟩ := phase_slot9 h (hl j (by simp)) hp
        simp only [hp, if_true, hd, Option.map_some, List.map_cons]
        refine List.nodup_cons.2 ⟨fun hm => ?_, by simpa [hp] using ih2⟩
        obtain ⟨p, hpm, he⟩ := List.mem_map.1 hm
        obtain ⟨k, hk, hke⟩ := List.mem_filterMap.1 hpm
        split at hke
        · rename_i hkp
          obtain ⟨d2, hd2, rfl⟩ := Option.map_eq_some_iff.1 hke
          simp only at he
          subst he
          have := hu k (hl k (List.mem_cons_of_mem _ hk)) hkp hd2
          subst this
          exact (List.nodup_cons.1 hn).1 hk
        · cases hke
      · have hp' : pre.getD j false = false := by simpa using hp
        simp only [hp', Bool.false_eq_true, if_false]
        simpa [hp'] using ih2
  exact key (List.range ops.size) List.nodup_range (fun j hj => List.mem_range.1 hj)

theorem wpAny_invLS9 {pre : Array Bool} {late : Nat → Bool} {G : Nat → Value → World → Prop} {H : Array Bool → (Nat → Value) → World → Prop} {R : World → World → Prop} {a0 : Act} {w0 : World} {rest : Nat} (hph : phaseL9 ops pre late a0.tmps.size = true)
    (Rt : ∀ x y z, R x y → R y z → R x z) (mono : ∀ j v x y, G j v x → R x y → G j v y)
    (step : ∀ i o, ops[i]? = some o → pre.getD i false = true → ∀ (done : Array Bool) (f : Nat → Value) (a : Act) (w : World), R w0 w → (∀ s, (∀ j, j < ops.size → pre.getD j false = true → slotOf ops j ≠ some s) → a.tmps[s]? = a0.tmps[s]?) →
      (∀ e ∈ o.after, Region.binds .any e = true → (∀ s, slotOf ops e.on = some s → a.tmps[s]? = some (f e.on)) ∧ G e.on (f e.on) w) → H done f w → done.size = ops.size → done.getD i true = false → (∀ e ∈ o.after, Region.binds .any e = true → done.getD e.on true = true) → (∀ j, j < ops.size → pre.getD j false = true → done.getD j true = true → G j (f j) w) → ∀ K : Act → World → Prop, (∀ u w', G i u w' → R w w' → H (done.setIfInBounds i true) (upd f i u) w' → K (a.put o.dst u) w') →
      if Region.wanted o (yielded ops a.tmps) = true then o.wp P a w K Q else K (a.put o.dst undef) w)
    (fin : ∀ (todo : List Nat) (done : Array Bool) (f : Nat → Value) (a : Act) (w : World), todo.Nodup → (∀ j, j ∈ todo ↔ j < ops.size ∧ pre.getD j false = true ∧ done.getD j true = false) → (∀ j ∈ todo, late j = true) → AnyInv ops pre G H R a0 w0 done f a w → wpAny P .any ops Q (todo.length + rest) done a w) :
    ∀ (m : Nat) (todo : List Nat) (done : Array Bool) (f : Nat → Value) (a : Act) (w : World), todo.length = m → todo.Nodup → (∀ j, j ∈ todo ↔ j < ops.size ∧ pre.getD j false = true ∧ done.getD j true = false) →
      AnyInv ops pre G H R a0 w0 done f a w → wpAny P .any ops Q (m + rest) done a w := by
  have hphi : ∀ i o, ops[i]? = some o → _ := fun i o ho => (List.all_eq_true.1 hph) i (List.mem_range.2 (by
    rcases Nat.lt_or_ge i ops.size with h | h
    · exact h
    · simp [Array.getElem?_eq_none h] at ho))
  have hlt : ∀ i o, ops[i]? = some o → i < ops.size := fun i o ho => by
    rcases Nat.lt_or_ge i ops.size with h | h
    · exact h
    · simp [Array.getElem?_eq_none h] at ho
  intro m
  induction m with
  | zero =>
    intro todo done f a w hm hnd hmem hI
    have hnil : todo = [] := List.eq_nil_of_length_eq_zero hm
    subst hnil
    exact fin [] done f a w hnd hmem (by simp) hI
  | succ m ih =>
    intro todo done f a w hm hnd hmem hI
    by_cases hall : ∀ j ∈ todo, late j = true
    · rw [← hm]
      exact fin todo done f a w hnd hmem hall hI
    have hall2 : ∃ j ∈ todo, late j = false := by
      rcases Classical.em (∃ j ∈ todo, late j = false) with h | h
      · exact h
      · exact absurd (fun j hj => by
          cases hl : late j with
          | true => rfl
          | false => exact absurd ⟨j, hj, hl⟩ h) hall
    have e : m + 1 + rest = (m + rest) + 1 := by omega
    rw [e]
    refine ⟨fun h0 => ?_, fun i hi => ?_⟩
    · exfalso
      obtain ⟨j, hj, hmin⟩ := least_in todo (by intro h; rw [h] at hm; simp at hm)
      obtain ⟨hjn, hjp, hjd⟩ := (hmem j).1 hj
      obtain ⟨o, ho⟩ : ∃ o, ops[j]? = some o := ⟨ops[j], by simp [hjn]⟩
      have hr : j ∈ Region.ready .any ops done := by
        refine mem_ready.2 ⟨hjd, o, ho, fun e he hb => ?_⟩
        have h1 := hphi j o ho
        simp only [ho, hjp, if_true, Bool.and_eq_true, Array.all_eq_true'] at h1
        have h2 := h1.2 e he
        simp only [hb, Bool.not_true, Bool.false_or, Bool.and_eq_true, decide_eq_true_eq] at h2
        cases hd : done.getD e.on true with
        | false =>
          have := hmin e.on ((hmem e.on).2 ⟨by omega, h2.2, hd⟩)
          omega
        | true => rw [getD_flip (by rw [hI.dsz]; omega) false true]; exact hd
      rw [h0] at hr
      cases hr
    · obtain ⟨hid, o, ho, hdeps⟩ := mem_ready.1 hi
      have hin := hlt i o ho
      cases hp : pre.getD i false with
      | false =>
        exfalso
        have h1 := hphi i o ho
        simp only [ho, hp, Bool.false_eq_true, if_false, Bool.or_eq_true, Array.any_eq_true', Bool.and_eq_true, decide_eq_true_eq, Bool.not_eq_true', List.all_eq_true] at h1
        rcases h1 with ⟨e, he, ⟨hb, h2⟩, h3⟩ | h1
        · have h4 := hdeps e he hb
          have h5 := hI.late e.on h2 h3
          rw [getD_flip (by rw [hI.dsz]; exact h2) false true, h5] at h4
          cases h4
        · obtain ⟨j, hj, hjl⟩ := hall2
          obtain ⟨hjn, hjp, hjd⟩ := (hmem j).1 hj
          have h2 := h1 j (List.mem_range.2 hjn)
          simp only [hjp, hjl, Bool.true_eq_false, Bool.false_eq_true, or_false, false_or] at h2
          have h3 := reach_done hI.shut 9 i j h2 (fun o' ho' => by rw [ho] at ho'; cases ho'; exact hdeps)
          rw [getD_flip (by rw [hI.dsz]; exact hjn) false true, hjd] at h3
          cases h3
      | true =>
        have h1 := hphi i o ho
        simp only [ho, hp, if_true, Bool.and_eq_true, Array.all_eq_true'] at h1
        obtain ⟨d, hod⟩ : ∃ d, o.dst = some d := by
          cases hod : o.dst with
          | none => rw [hod] at h1; simp at h1
          | some d => exact ⟨d, rfl⟩
        rw [hod] at h1
        simp only [Bool.and_eq_true, decide_eq_true_eq, List.all_eq_true] at h1
        obtain ⟨⟨hds, hdist⟩, haft⟩ := h1
        have hdon : ∀ e ∈ o.after, Region.binds .any e = true → e.on < ops.size ∧ pre.getD e.on false = true ∧ done.getD e.on true = true := fun e he hb => by
          have h2 := haft e he
          simp only [hb, Bool.not_true, Bool.false_or, Bool.and_eq_true, decide_eq_true_eq] at h2
          exact ⟨by omega, h2.2, by rw [getD_flip (by rw [hI.dsz]; omega) true false]; exact hdeps e he hb⟩
        have hst := step i o ho hp done f a w hI.rel hI.base (fun e he hb => by
          obtain ⟨x1, x2, x3⟩ := hdon e he hb
          exact ⟨fun s hs => hI.told e.on s x1 x2 x3 hs, hI.good e.on x1 x2 x3⟩) hI.more hI.dsz hid (fun e he hb => (hdon e he hb).2.2) hI.good
          (wpAny P .any ops Q (m + rest) (done.setIfInBounds i true)) (fun u w' hu hr hH => by
            have hsi : slotOf ops i = some d := by unfold slotOf; rw [ho]; exact hod
            have hmi : i ∈ todo := (hmem i).2 ⟨hin, hp, hid⟩
            have hget : ∀ j, j ≠ i → (done.setIfInBounds i true).getD j true = done.getD j true := fun j hj => by
              rw [getD_set_ne true (Ne.symm hj)]
            have hgeti : ∀ b, (done.setIfInBounds i true).getD i b = true := fun b => by
              have : i < (done.setIfInBounds i true).size := by simp [hI.dsz]; exact hin
              simp [hI.dsz, hin]
            have hput : ∀ s, (a.put o.dst u).tmps[s]? = if s = d then some u else a.tmps[s]? := fun s => by
              rw [hod]
              show (a.tmps.setIfInBounds d u)[s]? = _
              rw [Array.getElem?_setIfInBounds]
              by_cases hsd : d = s
              · subst hsd
                simp [hI.size, hds]
              · rw [if_neg hsd, if_neg (Ne.symm hsd)]
            refine ih (todo.erase i) (done.setIfInBounds i true) (upd f i u) (a.put o.dst u) w' ?_ (hnd.erase i) (fun j => ?_) ?_
            · rw [List.length_erase_of_mem hmi, hm]; rfl
            · rw [hnd.mem_erase_iff, hmem]
              constructor
              · rintro ⟨hne, h2, h3, h4⟩
                exact ⟨h2, h3, by rw [hget j hne]; exact h4⟩
              · rintro ⟨h2, h3, h4⟩
                have hne : j ≠ i := fun e => by subst e; rw [hgeti] at h4; cases h4
                rw [hget j hne] at h4
                exact ⟨hne, h2, h3, h4⟩
            · refine ⟨?_, ?_, ?_, ?_, ?_, Rt _ _ _ hI.rel hr, by simp [hI.dsz], ?_, ?_, hH⟩
              · rw [← hI.size, hod]; simp [Act.put]
              · rw [← hI.defers, hod]; rfl
              · intro s hs
                rw [hput s, if_neg (fun e => hs i hin hp (by rw [hsi, e]))]
                exact hI.base s hs
              · intro j s hj hjp hjd hs
                rw [hput s]
                by_cases hji : j = i
                · subst hji
                  rw [hsi] at hs
                  cases hs
                  simp [upd]
                · have hsd : s ≠ d := fun e => by
                    have h2 := hdist j (List.mem_range.2 hj)
                    simp only [Bool.or_eq_true, beq_iff_eq, hji, false_or, hjp, Bool.not_true, Bool.false_eq_true, bne_iff_ne] at h2
                    exact h2 (by rw [hs, e])
                  unfold upd
                  rw [if_neg hsd, if_neg hji]
                  rw [hget j hji] at hjd
                  exact hI.told j s hj hjp hjd hs
              · intro j hj hjp hjd
                by_cases hji : j = i
                · subst hji
                  rw [show upd f j u j = u from if_pos rfl]; exact hu
                · rw [hget j hji] at hjd
                  rw [show upd f i u j = f j from if_neg hji]
                  exact mono j (f j) w w' (hI.good j hj hjp hjd) hr
              · intro j hj hjp
                have hji : j ≠ i := fun e => by subst e; rw [hp] at hjp; cases hjp
                rw [hget j hji]
                exact hI.late j hj hjp
              · intro j oj hoj hjd e he hb
                by_cases hji : j = i
                · subst hji
                  rw [ho] at hoj; cases hoj
                  have h2 := hdeps e he hb
                  exact getD_set_true h2
                · rw [hget j hji] at hjd
                  exact getD_set_true (hI.shut j oj hoj hjd e he hb))
        unfold wpOp
        simp only [ho]
        split
        · rename_i hw
          rw [if_pos hw] at hst
          exact .inl hst
        · rename_i hw
          rw [if_neg hw] at hst
          exact hst

theorem wpAny_invS9 {pre : Array Bool} {G : Nat → Value → World → Prop} {H : Array Bool → (Nat → Value) → World → Prop} {R : World → World → Prop} {a0 : Act} {w0 : World} {rest : Nat} (hpsz : pre.size = ops.size) (hph : phaseB9 ops pre a0.tmps.size = true)
    (Rt : ∀ x y z, R x y → R y z → R x z) (mono : ∀ j v x y, G j v x → R x y → G j v y)
    (step : ∀ i o, ops[i]? = some o → pre.getD i false = true → ∀ (done : Array Bool) (f : Nat → Value) (a : Act) (w : World), R w0 w → (∀ s, (∀ j, j < ops.size → pre.getD j false = true → slotOf ops j ≠ some s) → a.tmps[s]? = a0.tmps[s]?) →
      (∀ e ∈ o.after, Region.binds .any e = true → (∀ s, slotOf ops e.on = some s → a.tmps[s]? = some (f e.on)) ∧ G e.on (f e.on) w) → H done f w → done.size = ops.size → done.getD i true = false → (∀ e ∈ o.after, Region.binds .any e = true → done.getD e.on true = true) → (∀ j, j < ops.size → pre.getD j false = true → done.getD j true = true → G j (f j) w) → ∀ K : Act → World → Prop, (∀ u w', G i u w' → R w w' → H (done.setIfInBounds i true) (upd f i u) w' → K (a.put o.dst u) w') →
      if Region.wanted o (yielded ops a.tmps) = true then o.wp P a w K Q else K (a.put o.dst undef) w)
    (fin : ∀ (f : Nat → Value) (a : Act) (w : World), a.tmps.size = a0.tmps.size → a.defers = a0.defers → (∀ s, (∀ j, j < ops.size → pre.getD j false = true → slotOf ops j ≠ some s) → a.tmps[s]? = a0.tmps[s]?) → (∀ j s, j < ops.size → pre.getD j false = true → slotOf ops j = some s → a.tmps[s]? = some (f j)) →
      (∀ j, j < ops.size → pre.getD j false = true → G j (f j) w) → R w0 w → H pre f w → wpAny P .any ops Q rest pre a w) :
    ∀ (m : Nat) (todo : List Nat) (done : Array Bool) (f : Nat → Value) (a : Act) (w : World), todo.length = m → todo.Nodup → (∀ j, j ∈ todo ↔ j < ops.size ∧ pre.getD j false = true ∧ done.getD j true = false) →
      AnyInv ops pre G H R a0 w0 done f a w → wpAny P .any ops Q (m + rest) done a w := by
  refine wpAny_invLS9 (late := fun _ => false) hph Rt mono step ?_
  intro todo done f a w _ hmem hl hI
  have hnil : todo = [] := by
    cases todo with
    | nil => rfl
    | cons x l => exact absurd (hl x (by simp)) (by simp)
  subst hnil
  have hdone : done = pre := by
    apply Array.ext
    · rw [hI.dsz, hpsz]
    · intro j h1 h2
      have hj : j < ops.size := by rw [← hI.dsz]; exact h1
      have e1 : done[j] = done.getD j true := by simp [h1]
      have e2 : pre[j] = pre.getD j false := by simp [h2]
      rw [e1, e2]
      cases hp : pre.getD j false with
      | false => exact hI.late j hj hp
      | true =>
        cases hd : done.getD j true with
        | true => rfl
        | false => exact absurd ((hmem j).2 ⟨hj, hp, hd⟩) (by simp)
  subst hdone
  rw [List.length_nil, Nat.zero_add]
  have hd : ∀ j, j < ops.size → done.getD j false = true → done.getD j true = true := fun j hj h => by rw [getD_flip (by rw [hI.dsz]; exact hj) true false]; exact h
  exact fin f a w hI.size hI.defers hI.base (fun j s hj hp hs => hI.told j s hj hp (hd j hj hp) hs) (fun j hj hp => hI.good j hj hp (hd j hj hp)) hI.rel hI.more

theorem wp_region_invS9 {id : Nat} {a0 : Act} {w : World} (pre : Array Bool) (G : Nat → Value → World → Prop) (H : Array Bool → (Nat → Value) → World → Prop) (R : World → World → Prop) (m rest : Nat) (hm : P.follows .mixedOrders = true) (hpsz : pre.size = ops.size) (hph : phaseB9 ops pre a0.tmps.size = true)
    (hcnt : ((List.range ops.size).filter fun j => pre.getD j false).length = m) (hrest : m + rest = ops.size) (Rr : R w.drew w.drew)
    (Rt : ∀ x y z, R x y → R y z → R x z) (mono : ∀ j v x y, G j v x → R x y → G j v y)
    (step : ∀ i o, ops[i]? = some o → pre.getD i false = true → ∀ (done : Array Bool) (f : Nat → Value) (a : Act) (x : World), R w.drew x → (∀ s, (∀ j, j < ops.size → pre.getD j false = true → slotOf ops j ≠ some s) → a.tmps[s]? = a0.tmps[s]?) →
      (∀ e ∈ o.after, Region.binds .any e = true → (∀ s, slotOf ops e.on = some s → a.tmps[s]? = some (f e.on)) ∧ G e.on (f e.on) x) → H done f x → done.size = ops.size → done.getD i true = false → (∀ e ∈ o.after, Region.binds .any e = true → done.getD e.on true = true) → (∀ j, j < ops.size → pre.getD j false = true → done.getD j true = true → G j (f j) x) → ∀ K : Act → World → Prop, (∀ u y, G i u y → R x y → H (done.setIfInBounds i true) (upd f i u) y → K (a.put o.dst u) y) →
      if Region.wanted o (yielded ops a.tmps) = true then o.wp P a x K Q else K (a.put o.dst undef) x)
    (fin : ∀ (f : Nat → Value) (y : World), (∀ j, j < ops.size → pre.getD j false = true → G j (f j) y) → R w.drew y → H pre f y → wpAny P .any ops Q rest pre (putL a0 (slotsOf ops pre f)) y) (hH0 : H (Array.replicate ops.size false) (fun _ => undef) w.drew) :
    (Code.region id ops true).wp P Q a0 w := by
  refine wp_region_any hm ?_
  have key : wpAny P .any ops Q (m + rest) (Array.replicate ops.size false) a0 w.drew := ?_
  · rw [hrest] at key; exact key
  refine wpAny_invS9 (G := G) (H := H) (R := R) (a0 := a0) (w0 := w.drew) hpsz hph Rt mono step ?_ m ((List.range ops.size).filter fun j => pre.getD j false) (Array.replicate ops.size false) (fun _ => undef) a0 w.drew hcnt (List.nodup_range.filter _) (fun j => ?_) ?_
  · intro f a y h1 h2 h3 h4 h5 h6 h7
    have e : a = putL a0 (slotsOf ops pre f) := by
      refine act_putL h1 h2 (slots_nodup9 hph) (fun p hp => ?_) (fun p hp => ?_) (fun s hs => ?_)
      · obtain ⟨j, hj, hjp, hd, _⟩ := slots_mem.1 hp
        obtain ⟨d, hd2, hlt, _⟩ := phase_slot9 hph hj hjp
        rw [hd] at hd2; cases hd2; exact hlt
      · obtain ⟨j, hj, hjp, hd, he⟩ := slots_mem.1 hp
        rw [h4 j p.1 hj hjp hd, he]
      · refine h3 s fun j hj hjp hd => hs ?_
        exact List.mem_map.2 ⟨(s, f j), slots_mem.2 ⟨j, hj, hjp, hd, rfl⟩, rfl⟩
    rw [e]
    exact fin f y h5 h6 h7
  · rw [List.mem_filter, List.mem_range]
    constructor
    · rintro ⟨h1, h2⟩
      exact ⟨h1, h2, by simp [h1]⟩
    · rintro ⟨h1, h2, _⟩
      exact ⟨h1, h2⟩
  · have hf : ∀ j, j < ops.size → (Array.replicate ops.size false).getD j true = false := fun j hj => by simp [hj]
    refine ⟨rfl, rfl, fun s _ => rfl, fun j s hj _ hd => ?_, fun j hj _ hd => ?_, Rr, by simp, fun j hj _ => hf j hj, fun i o ho hd => ?_, hH0⟩
    · rw [hf j hj] at hd; cases hd
    · rw [hf j hj] at hd; cases hd
    · rw [hf i (by
        rcases Nat.lt_or_ge i ops.size with h | h
        · exact h
        · simp [Array.getElem?_eq_none h] at ho)] at hd
      cases hd


end
end Go
