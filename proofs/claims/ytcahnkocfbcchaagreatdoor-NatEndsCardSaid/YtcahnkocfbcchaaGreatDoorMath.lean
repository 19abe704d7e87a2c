/- Plain lemmas on numbers as rows of digits to a base K, the lowest first: their worth, that no two rows without a nought at their end are of one worth, and what rows put together digit by digit are worth. No condition but those that each lemma names. -/
namespace Tnd
/-- the worth of a row of digits. -/
def nv (K : Nat) : List Nat → Nat
  | [] => 0
  | d :: l => d + K * nv K l
def Digs (K : Nat) (l : List Nat) : Prop := ∀ d, d ∈ l → d < K
/-- no nought at the end. -/
def RightL (l : List Nat) : Prop := l.getLast? ≠ some 0

theorem nv_append (K : Nat) (a b : List Nat) : nv K (a ++ b) = nv K a + K ^ a.length * nv K b := by
  induction a with
  | nil => simp [nv]
  | cons d a ih => simp only [List.cons_append, nv, ih, List.length_cons, Nat.pow_succ]; grind
theorem nv_snoc (K : Nat) (a : List Nat) (d : Nat) : nv K (a ++ [d]) = nv K a + K ^ a.length * d := by
  rw [nv_append]; simp [nv]
theorem nv_lt (K : Nat) (l : List Nat) (hd : Digs K l) : nv K l < K ^ l.length := by
  induction l with
  | nil => simp [nv]
  | cons d l ih =>
    have h1 := hd d (by simp)
    have h2 := ih (fun x hx => hd x (by simp [hx]))
    simp only [nv, List.length_cons, Nat.pow_succ]
    have : K * nv K l + K ≤ K ^ l.length * K := by
      have := Nat.mul_le_mul_left K (show nv K l + 1 ≤ K ^ l.length from h2)
      grind
    omega
theorem digs_append {K : Nat} {a b : List Nat} : Digs K (a ++ b) ↔ Digs K a ∧ Digs K b := by
  unfold Digs; constructor
  · intro h; exact ⟨fun d hd => h d (by simp [hd]), fun d hd => h d (by simp [hd])⟩
  · rintro ⟨h1, h2⟩ d hd
    rcases List.mem_append.1 hd with h | h
    · exact h1 d h
    · exact h2 d h
theorem right_nil : RightL [] := by simp [RightL]
theorem right_ge (K : Nat) (l : List Nat) (hr : RightL l) (hn : l ≠ []) : K ^ (l.length - 1) ≤ nv K l := by
  obtain ⟨a, d, rfl⟩ : ∃ a d, l = a ++ [d] := ⟨l.dropLast, l.getLast hn, (List.dropLast_concat_getLast hn).symm⟩
  have hd : d ≠ 0 := by intro e; apply hr; simp [e]
  rw [nv_snoc]
  simp only [List.length_append, List.length_cons, List.length_nil]
  have h1 : K ^ a.length * 1 ≤ K ^ a.length * d := Nat.mul_le_mul_left _ (by omega)
  show K ^ (a.length + 0 + 1 - 1) ≤ _
  have : a.length + 0 + 1 - 1 = a.length := by omega
  rw [this]; omega
theorem right_of_ge (K : Nat) (l : List Nat) (hd : Digs K l) (h : l = [] ∨ K ^ (l.length - 1) ≤ nv K l) : RightL l := by
  rcases h with rfl | h
  · exact right_nil
  · intro e
    obtain ⟨a, rfl⟩ : ∃ a, l = a ++ [0] := by
      have hn : l ≠ [] := by intro e2; rw [e2] at e; simp at e
      refine ⟨l.dropLast, ?_⟩
      have := List.dropLast_concat_getLast hn
      rw [List.getLast?_eq_some_getLast hn] at e
      simp only [Option.some.injEq] at e
      rw [e] at this
      exact this.symm
    rw [nv_snoc] at h
    have := nv_lt K a (digs_append.1 hd).1
    simp only [List.length_append, List.length_cons, List.length_nil, Nat.mul_zero, Nat.add_zero] at h
    have e2 : a.length + (0 + 1) - 1 = a.length := by omega
    rw [e2] at h
    omega
theorem right_tail {d : Nat} {l : List Nat} (h : RightL (d :: l)) : RightL l := by
  cases l with
  | nil => exact right_nil
  | cons x l => simpa [RightL] using h
theorem nv_unique (K : Nat) (hK : 1 ≤ K) : ∀ (a b : List Nat), Digs K a → Digs K b → RightL a → RightL b → nv K a = nv K b → a = b := by
  intro a
  induction a with
  | nil =>
    intro b _ _ _ rb h
    cases b with
    | nil => rfl
    | cons d b =>
      have := right_ge K (d :: b) rb (by simp)
      have hp : 0 < K ^ ((d :: b).length - 1) := Nat.pow_pos (by omega)
      simp only [nv] at h this
      omega
  | cons x a ih =>
    intro b da db ra rb h
    cases b with
    | nil =>
      have := right_ge K (x :: a) ra (by simp)
      have hp : 0 < K ^ ((x :: a).length - 1) := Nat.pow_pos (by omega)
      simp only [nv] at h this
      omega
    | cons y b =>
      have hx := da x (by simp)
      have hy := db y (by simp)
      simp only [nv] at h
      have e1 : (x + K * nv K a) % K = x := by rw [Nat.add_mul_mod_self_left, Nat.mod_eq_of_lt hx]
      have e2 : (y + K * nv K b) % K = y := by rw [Nat.add_mul_mod_self_left, Nat.mod_eq_of_lt hy]
      have exy : x = y := by rw [← e1, ← e2, h]
      subst exy
      have e3 : nv K a = nv K b := Nat.eq_of_mul_eq_mul_left (by omega) (by omega : K * nv K a = K * nv K b)
      rw [ih b (fun d hd => da d (by simp [hd])) (fun d hd => db d (by simp [hd])) (right_tail ra) (right_tail rb) e3]
/-- a row of fewer digits, without a nought at its end, is worth less. -/
theorem nv_lt_of_length (K : Nat) (hK : 1 ≤ K) (a b : List Nat) (da : Digs K a) (rb : RightL b) (h : a.length < b.length) : nv K a < nv K b := by
  have h1 := nv_lt K a da
  have h2 := right_ge K b rb (by intro e; simp [e] at h)
  have h3 : K ^ a.length ≤ K ^ (b.length - 1) := Nat.pow_le_pow_right (by omega) (by omega)
  omega
/-- rows that are one from a place on, and at the place below it the one has less. -/
theorem nv_lt_of_top (K : Nat) (a b t : List Nat) (x y : Nat) (da : Digs K a) (hl : a.length = b.length) (h : x < y) : nv K (a ++ x :: t) < nv K (b ++ y :: t) := by
  rw [nv_append, nv_append]
  simp only [nv]
  have h1 := nv_lt K a da
  rw [hl] at h1 ⊢
  have : K ^ b.length * (x + K * nv K t) + K ^ b.length ≤ K ^ b.length * (y + K * nv K t) := by
    have := Nat.mul_le_mul_left (K ^ b.length) (show x + K * nv K t + 1 ≤ y + K * nv K t by omega)
    grind
  omega
theorem nv_zeros (K k : Nat) : nv K (List.replicate k 0) = 0 := by
  induction k with
  | zero => rfl
  | succ k ih => simp [List.replicate_succ, nv, ih]
theorem digs_zeros (K k : Nat) (hK : 1 ≤ K) : Digs K (List.replicate k 0) := by
  intro d hd; have := List.eq_of_mem_replicate hd; omega
theorem digs_take {K : Nat} {l : List Nat} (h : Digs K l) (k : Nat) : Digs K (l.take k) := fun d hd => h d (List.mem_of_mem_take hd)
theorem digs_drop {K : Nat} {l : List Nat} (h : Digs K l) (k : Nat) : Digs K (l.drop k) := fun d hd => h d (List.mem_of_mem_drop hd)
theorem getD_at {l : List Nat} {i : Nat} (hi : i < l.length) : l.getD i 0 = l[i] := by simp [List.getD_eq_getElem?_getD, hi]
theorem getD_off {l : List Nat} {i : Nat} (hi : l.length ≤ i) : l.getD i 0 = 0 := by simp [List.getD_eq_getElem?_getD, hi]
theorem digs_getD {K : Nat} {l : List Nat} (h : Digs K l) (hK : 1 ≤ K) (i : Nat) : l.getD i 0 < K := by
  by_cases hi : i < l.length
  · rw [getD_at hi]; exact h _ (List.getElem_mem hi)
  · rw [getD_off (by omega)]; omega

/-- a row put to another one, digit by digit from the lowest on. -/
def alongF (f : Nat → Nat → Nat → Nat × Nat) : List Nat → List Nat → Nat → List Nat × Nat
  | [], _, c => ([], c)
  | x :: xs, ys, c =>
    let p := f x (ys.headD 0) c
    let q := alongF f xs ys.tail p.2
    (p.1 :: q.1, q.2)
theorem alongF_length (f : Nat → Nat → Nat → Nat × Nat) : ∀ xs ys c, (alongF f xs ys c).1.length = xs.length := by
  intro xs
  induction xs with
  | nil => intro ys c; rfl
  | cons x xs ih => intro ys c; simp [alongF, ih]
theorem headD_drop (l : List Nat) (i : Nat) : (l.drop i).headD 0 = l.getD i 0 := by
  induction l generalizing i with
  | nil => simp
  | cons a l ih => cases i with
    | zero => simp
    | succ i => simp
/-- one round more. -/
theorem alongF_step (f : Nat → Nat → Nat → Nat × Nat) (xs ys : List Nat) (i c : Nat) (hi : i < xs.length) :
    alongF f (xs.drop i) (ys.drop i) c =
      ((f (xs.getD i 0) (ys.getD i 0) c).1 :: (alongF f (xs.drop (i + 1)) (ys.drop (i + 1)) (f (xs.getD i 0) (ys.getD i 0) c).2).1,
       (alongF f (xs.drop (i + 1)) (ys.drop (i + 1)) (f (xs.getD i 0) (ys.getD i 0) c).2).2) := by
  have e : xs.drop i = xs.getD i 0 :: xs.drop (i + 1) := by
    rw [getD_at hi]; exact List.drop_eq_getElem_cons hi
  rw [e, alongF, headD_drop, List.tail_drop]
/-- what rounds that keep a step's equation are worth: the digits that are told, and what is carried on, K to the power of their number. -/
theorem alongF_worth (K m : Nat) (g : Nat) (f : Nat → Nat → Nat → Nat × Nat) (hf : ∀ a b c, (f a b c).1 + K * (f a b c).2 = g * a + m * b + c) :
    ∀ xs ys c, ys.length ≤ xs.length → nv K (alongF f xs ys c).1 + K ^ xs.length * (alongF f xs ys c).2 = g * nv K xs + m * nv K ys + c := by
  intro xs
  induction xs with
  | nil =>
    intro ys c h
    cases ys with
    | nil => simp [alongF, nv]
    | cons y ys => simp at h
  | cons x xs ih =>
    intro ys c h
    have h1 := hf x (ys.headD 0) c
    have h2 := ih ys.tail (f x (ys.headD 0) c).2 (by simp at h ⊢; omega)
    have hys : nv K ys = ys.headD 0 + K * nv K ys.tail := by cases ys <;> simp [nv]
    simp only [alongF, nv, List.length_cons, Nat.pow_succ]
    rw [hys]
    generalize f x (ys.headD 0) c = p at *
    generalize alongF f xs ys.tail p.2 = q at *
    grind
theorem alongF_borrow (K : Nat) (f : Nat → Nat → Nat → Nat × Nat) (hf : ∀ a b c, a < K → b < K → c ≤ 1 → (f a b c).1 + b + c = a + K * (f a b c).2 ∧ (f a b c).2 ≤ 1) :
    ∀ xs ys c, Digs K xs → Digs K ys → 1 ≤ K → c ≤ 1 → ys.length ≤ xs.length →
      nv K (alongF f xs ys c).1 + nv K ys + c = nv K xs + K ^ xs.length * (alongF f xs ys c).2 ∧ (alongF f xs ys c).2 ≤ 1 := by
  intro xs
  induction xs with
  | nil =>
    intro ys c _ _ _ hc h
    cases ys with
    | nil => simp [alongF, nv, hc]
    | cons y ys => simp at h
  | cons x xs ih =>
    intro ys c dx dy hK hc h
    have hy0 : ys.headD 0 < K := by
      cases ys with
      | nil => simp; omega
      | cons y ys => exact dy y (by simp)
    have h1 := hf x (ys.headD 0) c (dx x (by simp)) hy0 hc
    have h2 := ih ys.tail (f x (ys.headD 0) c).2 (fun d hd => dx d (by simp [hd])) (fun d hd => dy d (List.mem_of_mem_tail hd)) hK h1.2 (by simp at h ⊢; omega)
    have hys : nv K ys = ys.headD 0 + K * nv K ys.tail := by cases ys <;> simp [nv]
    simp only [alongF, nv, List.length_cons, Nat.pow_succ]
    rw [hys]
    generalize f x (ys.headD 0) c = p at *
    generalize alongF f xs ys.tail p.2 = q at *
    obtain ⟨h1, h1b⟩ := h1
    obtain ⟨h2, h2b⟩ := h2
    refine ⟨?_, h2b⟩
    grind
theorem alongF_digs (K : Nat) (f : Nat → Nat → Nat → Nat × Nat) (I : Nat → Prop) (hf : ∀ a b c, a < K → b < K → I c → (f a b c).1 < K ∧ I (f a b c).2) :
    ∀ xs ys c, Digs K xs → Digs K ys → 1 ≤ K → I c → Digs K (alongF f xs ys c).1 ∧ I (alongF f xs ys c).2 := by
  intro xs
  induction xs with
  | nil => intro ys c _ _ _ hc; exact ⟨fun d hd => by simp [alongF] at hd, hc⟩
  | cons x xs ih =>
    intro ys c dx dy hK hc
    have hy0 : ys.headD 0 < K := by
      cases ys with
      | nil => simp; omega
      | cons y ys => exact dy y (by simp)
    have h1 := hf x (ys.headD 0) c (dx x (by simp)) hy0 hc
    have h2 := ih ys.tail (f x (ys.headD 0) c).2 (fun d hd => dx d (by simp [hd])) (fun d hd => dy d (List.mem_of_mem_tail hd)) hK h1.2
    refine ⟨?_, h2.2⟩
    intro d hd
    simp only [alongF, List.mem_cons] at hd
    rcases hd with rfl | hd
    · exact h1.1
    · exact h2.1 d hd
/-- how many places are left without the noughts at the end. -/
def tlen : List Nat → Nat
  | [] => 0
  | d :: l => if tlen l = 0 then (if d = 0 then 0 else 1) else tlen l + 1
theorem tlen_snoc (a : List Nat) (d : Nat) : tlen (a ++ [d]) = if d = 0 then tlen a else a.length + 1 := by
  induction a with
  | nil => simp [tlen]
  | cons x a ih =>
    simp only [List.cons_append, tlen, ih, List.length_cons]
    by_cases hd : d = 0
    · simp [hd]
    · simp [hd]
theorem tlen_le (l : List Nat) : tlen l ≤ l.length := by
  induction l with
  | nil => simp [tlen]
  | cons x l ih => simp only [tlen, List.length_cons]; split <;> (try split) <;> omega
theorem take_succ_getD (l : List Nat) (k : Nat) (h : k < l.length) : l.take (k + 1) = l.take k ++ [l.getD k 0] := by
  rw [List.take_succ_eq_append_getElem h, getD_at h]
theorem tlen_take_zero (l : List Nat) (k : Nat) (h : k < l.length) (h0 : l.getD k 0 = 0) : tlen (l.take (k + 1)) = tlen (l.take k) := by
  rw [take_succ_getD l k h, tlen_snoc, if_pos h0]
theorem tlen_take_stop (l : List Nat) (k : Nat) (h : k < l.length) (h0 : l.getD k 0 ≠ 0) : tlen (l.take (k + 1)) = k + 1 := by
  rw [take_succ_getD l k h, tlen_snoc, if_neg h0, List.length_take, Nat.min_eq_left (by omega)]
theorem nv_tlen (K : Nat) (l : List Nat) : nv K (l.take (tlen l)) = nv K l := by
  induction l with
  | nil => simp [tlen, nv]
  | cons x l ih =>
    simp only [tlen]
    by_cases h : tlen l = 0
    · rw [h] at ih
      simp only [List.take_zero, nv] at ih
      by_cases hx : x = 0
      · simp [h, hx, nv, ← ih]
      · simp [h, hx, nv, ← ih]
    · simp only [h, if_false, List.take_succ_cons, nv, ih]
theorem tlen_eq_length (l : List Nat) (h : l.getLast? ≠ some 0) : tlen l = l.length := by
  by_cases hn : l = []
  · subst hn; rfl
  · have e := List.dropLast_concat_getLast hn
    have hd : l.getLast hn ≠ 0 := by intro e0; apply h; rw [List.getLast?_eq_some_getLast hn, e0]
    rw [← e, tlen_snoc, if_neg hd]
    simp
theorem right_take_tlen (l : List Nat) : RightL (l.take (tlen l)) := by
  induction l with
  | nil => simp [tlen, right_nil]
  | cons x l ih =>
    simp only [tlen]
    by_cases h : tlen l = 0
    · by_cases hx : x = 0
      · simp [h, hx, right_nil]
      · simp [h, hx, RightL]
    · simp only [h, if_false, List.take_succ_cons]
      have hne : l.take (tlen l) ≠ [] := by
        intro e
        have := congrArg List.length e
        rw [List.length_take, Nat.min_eq_left (tlen_le l)] at this
        exact h this
      cases hl : l.take (tlen l) with
      | nil => exact absurd hl hne
      | cons y m => rw [hl] at ih; simpa [RightL] using ih
theorem tlen_right (l : List Nat) (h : RightL l) : tlen l = l.length := tlen_eq_length l h
theorem right_iff_tlen (l : List Nat) : tlen l = l.length ↔ RightL l := by
  constructor
  · intro h; have := right_take_tlen l; rwa [h, List.take_length] at this
  · exact tlen_right l
/-- the digit at a place, under a name of its own. -/
def gd (l : List Nat) (i : Nat) : Nat := l.getD i 0
theorem gd_lt {K : Nat} {l : List Nat} (h : Digs K l) (hK : 1 ≤ K) (i : Nat) : gd l i < K := digs_getD h hK i
/-- behind k rounds: the digits that are told lie in their places, those from k on are as they were, and what is carried goes on. -/
def AlongInv (f : Nat → Nat → Nat → Nat × Nat) (N ys : List Nat) (o m c1 k c : Nat) (N' : List Nat) : Prop :=
  ∃ outs : List Nat, outs.length = k ∧ N' = N.take o ++ outs ++ N.drop (o + k) ∧
    outs ++ (alongF f (((N.drop o).take m).drop k) (ys.drop k) c).1 = (alongF f ((N.drop o).take m) ys c1).1 ∧
    (alongF f (((N.drop o).take m).drop k) (ys.drop k) c).2 = (alongF f ((N.drop o).take m) ys c1).2
theorem AlongInv.start (f : Nat → Nat → Nat → Nat × Nat) (N ys : List Nat) (o m c1 : Nat) : AlongInv f N ys o m c1 0 c1 N :=
  ⟨[], rfl, by simp, by simp, by simp⟩
theorem AlongInv.length {f : Nat → Nat → Nat → Nat × Nat} {N ys : List Nat} {o m c1 k c : Nat} {N' : List Nat} (h : AlongInv f N ys o m c1 k c N') (hk : o + k ≤ N.length) : N'.length = N.length := by
  obtain ⟨outs, hl, rfl, _, _⟩ := h
  simp only [List.length_append, List.length_take, List.length_drop, hl]
  omega
theorem AlongInv.at {f : Nat → Nat → Nat → Nat × Nat} {N ys : List Nat} {o m c1 k c : Nat} {N' : List Nat} (h : AlongInv f N ys o m c1 k c N') (hk : k < m) (ho : o + m ≤ N.length) : gd N' (o + k) = gd ((N.drop o).take m) k := by
  obtain ⟨outs, hl, rfl, _, _⟩ := h
  simp only [gd, List.getD_eq_getElem?_getD]
  congr 1
  rw [List.getElem?_append_right (by simp only [List.length_append, List.length_take, hl]; omega)]
  rw [List.getElem?_take, if_pos hk, List.getElem?_drop, List.getElem?_drop]
  congr 1
  simp only [List.length_append, List.length_take, hl]
  omega
theorem AlongInv.step {f : Nat → Nat → Nat → Nat × Nat} {N ys : List Nat} {o m c1 k c : Nat} {N' : List Nat} (h : AlongInv f N ys o m c1 k c N') (hk : k < m) (ho : o + m ≤ N.length) :
    AlongInv f N ys o m c1 (k + 1) (f (gd ((N.drop o).take m) k) (gd ys k) c).2 (N'.set (o + k) (f (gd ((N.drop o).take m) k) (gd ys k) c).1) := by
  obtain ⟨outs, hl, rfl, h1, h2⟩ := h
  have hxl : k < ((N.drop o).take m).length := by simp only [List.length_take, List.length_drop]; omega
  rw [alongF_step f _ _ k c hxl] at h1 h2
  have e : f (gd ((N.drop o).take m) k) (gd ys k) c = f (((N.drop o).take m).getD k 0) (ys.getD k 0) c := rfl
  rw [e]
  generalize f (((N.drop o).take m).getD k 0) (ys.getD k 0) c = q at *
  refine ⟨outs ++ [q.1], by simp [hl], ?_, ?_, ?_⟩
  · have hto : (N.take o ++ outs).length = o + k := by simp only [List.length_append, List.length_take, hl]; omega
    rw [List.set_append_right _ _ (by rw [hto]; omega), hto, Nat.sub_self]
    have hd : N.drop (o + k) = N[o + k]'(by omega) :: N.drop (o + k + 1) := List.drop_eq_getElem_cons (by omega)
    rw [hd, List.set_cons_zero]
    simp only [List.append_assoc, List.singleton_append]
    rfl
  · rw [← h1]; simp
  · exact h2
theorem AlongInv.done {f : Nat → Nat → Nat → Nat × Nat} {N ys : List Nat} {o m c1 c : Nat} {N' : List Nat} (h : AlongInv f N ys o m c1 m c N') :
    N' = N.take o ++ (alongF f ((N.drop o).take m) ys c1).1 ++ N.drop (o + m) ∧ c = (alongF f ((N.drop o).take m) ys c1).2 := by
  obtain ⟨outs, hl, rfl, h1, h2⟩ := h
  have e : ((N.drop o).take m).drop m = [] := by
    apply List.drop_eq_nil_of_le; simp only [List.length_take]; omega
  rw [e] at h1 h2
  simp only [alongF, List.append_nil] at h1 h2
  exact ⟨by rw [← h1], h2⟩
def addF (a b c : Nat) : Nat × Nat := ((a + b + c) % 4294967296, (a + b + c) / 4294967296)
def mulF (m a b c : Nat) : Nat × Nat := ((m * b + a + c) % 4294967296, (m * b + a + c) / 4294967296)
def scaleF (fr to a _b c : Nat) : Nat × Nat := ((a * fr + c) % to, (a * fr + c) / to)
theorem nv_pad (K : Nat) (l : List Nat) (k : Nat) : nv K (l ++ List.replicate k 0) = nv K l := by rw [nv_append, nv_zeros]; simp
/-- a sum, digit by digit. -/
theorem addF_sum (l1 ys : List Nat) (h : ys.length ≤ l1.length) (d1 : Digs 4294967296 l1) (d2 : Digs 4294967296 ys) :
    nv 4294967296 (alongF addF l1 ys 0).1 + 4294967296 ^ l1.length * (alongF addF l1 ys 0).2 = nv 4294967296 l1 + nv 4294967296 ys ∧ Digs 4294967296 (alongF addF l1 ys 0).1 ∧ (alongF addF l1 ys 0).2 ≤ 1 := by
  have h1 := alongF_worth 4294967296 1 1 addF (fun a b c => by simp only [addF]; omega) l1 ys 0 h
  have h2 := alongF_digs 4294967296 addF (fun c => c ≤ 1) (fun a b c _ _ _ => by simp only [addF]; omega) l1 ys 0 d1 d2 (by omega) (by omega)
  exact ⟨by omega, h2⟩
/-- the sum's digits, the carry behind them if there is one. -/
theorem addF_row (l1 ys : List Nat) (h : ys.length ≤ l1.length) (d1 : Digs 4294967296 l1) (d2 : Digs 4294967296 ys) :
    ((alongF addF l1 ys 0).2 = 0 → nv 4294967296 (alongF addF l1 ys 0).1 = nv 4294967296 l1 + nv 4294967296 ys) ∧
    nv 4294967296 ((alongF addF l1 ys 0).1 ++ [(alongF addF l1 ys 0).2]) = nv 4294967296 l1 + nv 4294967296 ys ∧ Digs 4294967296 ((alongF addF l1 ys 0).1 ++ [(alongF addF l1 ys 0).2]) := by
  obtain ⟨h1, h2, h3⟩ := addF_sum l1 ys h d1 d2
  refine ⟨fun e => by rw [e] at h1; omega, ?_, ?_⟩
  · rw [nv_snoc, alongF_length]; exact h1
  · rw [digs_append]
    exact ⟨h2, fun d hd => by simp only [List.mem_singleton] at hd; omega⟩
theorem nv_take_succ (K : Nat) (l : List Nat) (k : Nat) (h : k < l.length) : nv K (l.take (k + 1)) = nv K (l.take k) + K ^ k * gd l k := by
  rw [take_succ_getD l k h, nv_snoc, List.length_take, Nat.min_eq_left (by omega)]; rfl
theorem nv_split (K : Nat) (l : List Nat) (k : Nat) (h : k ≤ l.length) : nv K l = nv K (l.take k) + K ^ k * nv K (l.drop k) := by
  have e := nv_append K (l.take k) (l.drop k)
  rw [List.take_append_drop, List.length_take, Nat.min_eq_left h] at e
  exact e
/-- a product, digit by digit of the one factor: behind k of them. -/
structure MulInv (l y : List Nat) (k : Nat) (N : List Nat) : Prop where
  len : N.length = l.length + y.length
  digs : Digs 4294967296 N
  worth : nv 4294967296 N = nv 4294967296 (l.take k) * nv 4294967296 y
  rest : N.drop (k + y.length) = List.replicate (l.length - k) 0
theorem MulInv.start (l y : List Nat) : MulInv l y 0 (List.replicate (l.length + y.length) 0) :=
  ⟨by simp, digs_zeros _ _ (by omega), by rw [nv_zeros]; simp [nv], by rw [Nat.zero_add, List.drop_replicate]; congr 1; omega⟩
theorem mulF_carry (m a b c : Nat) (hm : m < 4294967296) (ha : a < 4294967296) (hb : b < 4294967296) (hc : c < 4294967296) : (mulF m a b c).1 < 4294967296 ∧ (mulF m a b c).2 < 4294967296 := by
  simp only [mulF]
  have h : m * b ≤ 4294967295 * 4294967295 := Nat.mul_le_mul (by omega) (by omega)
  omega
theorem MulInv.step {l y : List Nat} {k : Nat} {N : List Nat} (h : MulInv l y k N) (hk : k < l.length) (dl : Digs 4294967296 l) (dy : Digs 4294967296 y) :
    MulInv l y (k + 1) ((N.take k ++ (alongF (mulF (gd l k)) ((N.drop k).take y.length) y 0).1 ++ N.drop (k + y.length)).set (k + y.length) (alongF (mulF (gd l k)) ((N.drop k).take y.length) y 0).2) := by
  obtain ⟨h1, h2, h3, h4⟩ := h
  have hm : gd l k < 4294967296 := gd_lt dl (by omega) k
  have hxl : ((N.drop k).take y.length).length = y.length := by simp only [List.length_take, List.length_drop]; omega
  have hw := alongF_worth 4294967296 (gd l k) 1 (mulF (gd l k)) (fun a b c => by simp only [mulF]; omega) ((N.drop k).take y.length) y 0 (by omega)
  have hd := alongF_digs 4294967296 (mulF (gd l k)) (fun c => c < 4294967296) (fun a b c ha hb hc => mulF_carry _ a b c hm ha hb hc) ((N.drop k).take y.length) y 0 (digs_take (digs_drop h2 k) _) dy (by omega) (by omega)
  have hl := alongF_length (mulF (gd l k)) ((N.drop k).take y.length) y 0
  rw [hxl] at hl hw
  have hz : l.length - k = (l.length - (k + 1)) + 1 := by omega
  have e4 : N.drop (k + y.length) = 0 :: List.replicate (l.length - (k + 1)) 0 := by rw [h4, hz, List.replicate_succ]
  have hN : nv 4294967296 N = nv 4294967296 (N.take k) + 4294967296 ^ k * nv 4294967296 ((N.drop k).take y.length) := by
    rw [nv_split 4294967296 N k (by omega), nv_split 4294967296 (N.drop k) y.length (by simp only [List.length_drop]; omega), List.drop_drop, h4, nv_zeros]
    simp
  rw [e4]
  generalize alongF (mulF (gd l k)) ((N.drop k).take y.length) y 0 = q at *
  generalize hx : (N.drop k).take y.length = xs at *
  have hlen : (N.take k ++ q.1).length = k + y.length := by simp only [List.length_append, List.length_take, hl]; omega
  rw [List.set_append_right _ _ (by omega), hlen, Nat.sub_self, List.set_cons_zero]
  refine ⟨?_, ?_, ?_, ?_⟩
  · simp only [List.length_append, List.length_cons, List.length_replicate, List.length_take, hl]; omega
  · rw [digs_append, digs_append]
    refine ⟨⟨digs_take h2 _, hd.1⟩, ?_⟩
    intro d hd'
    rcases List.mem_cons.1 hd' with rfl | h
    · exact hd.2
    · have := List.eq_of_mem_replicate h; omega
  · rw [nv_append, nv_append, hlen, nv, nv_zeros, List.length_take, Nat.min_eq_left (by omega), nv_take_succ _ _ _ hk, Nat.add_mul, ← h3, hN]
    rw [Nat.pow_add]
    simp only [Nat.mul_zero, Nat.add_zero, Nat.one_mul] at hw ⊢
    have e : 4294967296 ^ k * nv 4294967296 q.1 + 4294967296 ^ k * 4294967296 ^ y.length * q.2 = 4294967296 ^ k * (nv 4294967296 q.1 + 4294967296 ^ y.length * q.2) := by
      rw [Nat.mul_add, Nat.mul_assoc]
    rw [Nat.add_assoc, e, hw, Nat.mul_add, ← Nat.add_assoc, Nat.mul_assoc]
  · have e5 : k + 1 + y.length = (N.take k ++ q.1).length + 1 := by omega
    rw [e5, List.drop_append, List.drop_eq_nil_of_le (by omega), Nat.add_sub_cancel_left]
    rfl
/-- rows of rows: one of them, how many digits there are, the product and the sum of what they are worth. -/
def gl (L : List (List Nat)) (i : Nat) : List Nat := L.getD i []
def tot : List (List Nat) → Nat
  | [] => 0
  | l :: L => l.length + tot L
def prodv : List (List Nat) → Nat
  | [] => 1
  | l :: L => nv 4294967296 l * prodv L
def sumv : List (List Nat) → Nat
  | [] => 0
  | l :: L => nv 4294967296 l + sumv L
theorem gl_at {L : List (List Nat)} {i : Nat} (h : i < L.length) : gl L i = L[i] := by simp [gl, List.getD_eq_getElem?_getD, h]
theorem take_gl {L : List (List Nat)} {i : Nat} (h : i < L.length) : L.take (i + 1) = L.take i ++ [gl L i] := by
  rw [List.take_succ_eq_append_getElem h, gl_at h]
theorem tot_append (A B : List (List Nat)) : tot (A ++ B) = tot A + tot B := by
  induction A with
  | nil => simp [tot]
  | cons a A ih => simp only [List.cons_append, tot, ih]; omega
theorem prodv_snoc (A : List (List Nat)) (l : List Nat) : prodv (A ++ [l]) = prodv A * nv 4294967296 l := by
  induction A with
  | nil => simp [prodv]
  | cons a A ih => simp only [List.cons_append, prodv, ih, Nat.mul_assoc]
theorem sumv_snoc (A : List (List Nat)) (l : List Nat) : sumv (A ++ [l]) = sumv A + nv 4294967296 l := by
  induction A with
  | nil => simp [sumv]
  | cons a A ih => simp only [List.cons_append, sumv, ih]; omega
theorem tot_take (L : List (List Nat)) (i : Nat) : tot (L.take i) ≤ tot L := by
  have h := tot_append (L.take i) (L.drop i)
  rw [List.take_append_drop] at h
  omega
theorem tot_step {L : List (List Nat)} {i : Nat} (h : i < L.length) : tot (L.take (i + 1)) = tot (L.take i) + (gl L i).length := by
  rw [take_gl h, tot_append]; simp [tot]
/-- a change of base, one digit further. -/
theorem scale_row (fr to : Nat) (N : List Nat) (d : Nat) (hN : Digs to N) (hR : RightL N) (ht : 2 ≤ to) (hf : 1 ≤ fr) (hd : d < fr) :
    nv to (alongF (scaleF fr to) N [] d).1 + to ^ N.length * (alongF (scaleF fr to) N [] d).2 = fr * nv to N + d ∧ Digs to (alongF (scaleF fr to) N [] d).1 ∧ (alongF (scaleF fr to) N [] d).2 < fr ∧
      ((alongF (scaleF fr to) N [] d).2 = 0 → RightL (alongF (scaleF fr to) N [] d).1) := by
  have hw := alongF_worth to 0 fr (scaleF fr to) (fun a b c => by
    simp only [scaleF, Nat.zero_mul, Nat.add_zero]
    rw [Nat.mod_add_div, Nat.mul_comm]) N [] d (by simp)
  have hdg := alongF_digs to (scaleF fr to) (fun c => c < fr) (fun a b c ha _ hc => by
    simp only [scaleF]
    refine ⟨Nat.mod_lt _ (by omega), ?_⟩
    rw [Nat.div_lt_iff_lt_mul (by omega)]
    have := Nat.mul_le_mul_right fr (show a + 1 ≤ to by omega)
    rw [Nat.add_mul] at this
    have e : fr * to = to * fr := Nat.mul_comm ..
    omega) N [] d hN (by intro x hx; simp at hx) (by omega) hd
  have hl := alongF_length (scaleF fr to) N [] d
  have e0 : nv to [] = 0 := rfl
  rw [e0, Nat.mul_zero, Nat.add_zero] at hw
  refine ⟨hw, hdg.1, hdg.2, fun hz => ?_⟩
  rw [hz, Nat.mul_zero, Nat.add_zero] at hw
  by_cases hn : N = []
  · subst hn; simp [alongF, right_nil]
  · refine right_of_ge to _ hdg.1 (.inr ?_)
    rw [hl, hw]
    have h1 := right_ge to N hR hn
    have h2 : 1 * nv to N ≤ fr * nv to N := Nat.mul_le_mul_right _ hf
    omega
theorem len_bound (to k : Nat) (N : List Nat) (ht : 2 ≤ to) (V : Nat) (hV : V < 2 ^ k) (h : to ^ N.length ≤ V) : N.length < k := by
  have h1 : 2 ^ N.length ≤ to ^ N.length := Nat.pow_le_pow_left ht _
  exact (Nat.pow_lt_pow_iff_right (by omega : 1 < 2)).1 (by omega)
theorem len_right (to k : Nat) (N : List Nat) (ht : 2 ≤ to) (hR : RightL N) (hV : nv to N < 2 ^ k) : N.length ≤ k := by
  by_cases hn : N = []
  · subst hn; simp
  · have h1 := right_ge to N hR hn
    have h2 : 2 ^ (N.length - 1) ≤ to ^ (N.length - 1) := Nat.pow_le_pow_left ht _
    have h3 := (Nat.pow_lt_pow_iff_right (by omega : 1 < 2)).1 (show 2 ^ (N.length - 1) < 2 ^ k by omega)
    omega
theorem nv_drop_lt (fr : Nat) (l : List Nat) (k : Nat) (hd : Digs fr l) (hf : fr ≤ 4294967296) : nv fr (l.drop k) < 2 ^ (32 * l.length) := by
  have h1 := nv_lt fr (l.drop k) (digs_drop hd k)
  by_cases h0 : fr = 0
  · have : l = [] := by
      cases l with
      | nil => rfl
      | cons a l => have := hd a (by simp); omega
    subst this; simp [nv]
  · have h2 : fr ^ (l.drop k).length ≤ fr ^ l.length := Nat.pow_le_pow_right (by omega) (by simp)
    have h3 : fr ^ l.length ≤ 4294967296 ^ l.length := Nat.pow_le_pow_left hf _
    have h4 : (4294967296 : Nat) ^ l.length = 2 ^ (32 * l.length) := by rw [Nat.pow_mul]
    omega
theorem nv_drop_step (fr : Nat) (l : List Nat) (k : Nat) (hk : k < l.length) : nv fr (l.drop k) = fr * nv fr (l.drop (k + 1)) + gd l k := by
  have e : l.drop k = gd l k :: l.drop (k + 1) := by unfold gd; rw [getD_at hk]; exact List.drop_eq_getElem_cons hk
  rw [e, nv]; omega
/-- one digit of what is carried, put behind. -/
theorem carry_step (to V ov : Nat) (N : List Nat) (ht : 2 ≤ to) (hov : 0 < ov) (hV : nv to N + to ^ N.length * ov = V) (hd : Digs to N) :
    nv to (N ++ [ov % to]) + to ^ (N ++ [ov % to]).length * (ov / to) = V ∧ Digs to (N ++ [ov % to]) ∧ (ov / to = 0 → RightL (N ++ [ov % to])) := by
  refine ⟨?_, ?_, ?_⟩
  · rw [nv_snoc, List.length_append, List.length_singleton, Nat.pow_succ, Nat.add_assoc, Nat.mul_assoc, ← Nat.mul_add, Nat.mod_add_div]
    exact hV
  · rw [digs_append]
    exact ⟨hd, fun x hx => by simp only [List.mem_singleton] at hx; rw [hx]; exact Nat.mod_lt _ (by omega)⟩
  · intro h
    have h2 : ov % to = ov := by have := Nat.mod_add_div ov to; rw [h] at this; omega
    rw [h2]
    simp [RightL]; omega
end Tnd
