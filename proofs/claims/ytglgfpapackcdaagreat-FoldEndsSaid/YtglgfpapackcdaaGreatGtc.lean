/- FoldEnds' drawn regions 24, 33, 34, 43, 45. -/
import Derived.Test.YtglgfpapackcdaaGreatGtb

namespace Go.Proofs.YtglgfpapackcdaaGreat
open Go.RowKit Tnr

def f24o0 : Oper := ⟨some 140, Op.load 30 (.tmp 10), 30, "law.go:83", #[], none⟩
def f24o1 : Oper := ⟨some 141, Op.move (.tmp 9), 3, "law.go:83", #[], none⟩
def f24o2 : Oper := ⟨some 142, Op.fieldAddr 30 (.tmp 10) 1, 0, "law.go:83", #[], none⟩
def f24o3 : Oper := ⟨some 143, Op.load 28 (.tmp 142), 28, "law.go:83", #[⟨2, .data⟩], none⟩
def f24o4 : Oper := ⟨some 144, Op.indexAddr 28 (.tmp 143) (.const (.int .i64 1)), 0, "law.go:83", #[⟨3, .data⟩], none⟩
def f24o5 : Oper := ⟨some 145, Op.fieldAddr 37 (.tmp 144) 0, 0, "law.go:83", #[⟨4, .data⟩], none⟩
def f24o6 : Oper := ⟨some 146, Op.load 9 (.tmp 145), 9, "law.go:83", #[⟨5, .data⟩], none⟩
def f24o7 : Oper := ⟨some 147, Op.move (.tmp 2), 26, "law.go:83", #[], none⟩
def f24o8 : Oper := ⟨some 148, Op.call { callee := Callee.value (.func 5), args := #[.tmp 140, .tmp 141, .tmp 146, .tmp 147], argTypes := #[30, 3, 9, 26] }, 4, "law.go:83", #[⟨0, .data⟩, ⟨1, .data⟩, ⟨6, .data⟩, ⟨7, .data⟩], none⟩
def f24o9 : Oper := ⟨some 149, Op.unOp UnOp.not 4 (.tmp 148), 4, "law.go:83", #[⟨8, .data⟩], none⟩
def f24Ops : Array Oper := #[f24o0, f24o1, f24o2, f24o3, f24o4, f24o5, f24o6, f24o7, f24o8, f24o9]
def f24Pre : Array Bool := #[true, true, true, true, true, true, true, true, true, true]
def f24K (bx b1 b3 bs : Nat) (c_ : Int) (nm : ByteArray) : Nat → Kc
  | 0 => Kc.val (.agg #[.slice (some ⟨b1, 0, none⟩) 4 4, .slice (some ⟨b3, 0, none⟩) 2 2])
  | 1 => Kc.val (.int .i64 c_)
  | 2 => Kc.val (.pointer (some ⟨bx, 1, none⟩))
  | 3 => Kc.val (.slice (some ⟨b3, 0, none⟩) 2 2)
  | 4 => Kc.val (.pointer (some ⟨b3, 2, none⟩))
  | 5 => Kc.val (.pointer (some ⟨b3, 2, none⟩))
  | 6 => Kc.val (.string nm)
  | 7 => Kc.val (.slice (some ⟨bs, 0, none⟩) 2 2)
  | 8 => Kc.val (.bool true)
  | 9 => Kc.val (.bool false)
  | _ => Kc.val undef
theorem f24_slots (f : Nat → Value) : slotsOf f24Ops f24Pre f = [(140, f 0), (141, f 1), (142, f 2), (143, f 3), (144, f 4), (145, f 5), (146, f 6), (147, f 7), (148, f 8), (149, f 9)] := by kernel_rfl
set_option maxHeartbeats 6400000 in
set_option maxRecDepth 100000 in
theorem f24_wp {Q : Exit → Act → World → Prop} {a0 : Act} {w : World} (bx b1 b3 bs : Nat) (c_ : Int) (nm : ByteArray) (hsize : a0.tmps.size = 258) (h10 : a0.tmps[10]? = some (.pointer (some ⟨bx, 0, none⟩)))
    (h9 : a0.tmps[9]? = some (.int .i64 c_))
    (h2 : a0.tmps[2]? = some (.slice (some ⟨bs, 0, none⟩) 2 2))
    (hc0 : w.drew.cell? ⟨bx, 0, none⟩ = some (.slice (some ⟨b1, 0, none⟩) 4 4))
    (hc1 : w.drew.cell? ⟨bx, 1, none⟩ = some (.slice (some ⟨b3, 0, none⟩) 2 2))
    (hcn : w.drew.cell? ⟨b3, 2, none⟩ = some (.string nm))
    (hf : ∀ V, Below w.drew.heap.size w.drew V → Calls Tryz.prog 5 #[.agg #[.slice (some ⟨b1, 0, none⟩) 4 4, .slice (some ⟨b3, 0, none⟩) 2 2], .int .i64 c_, .string nm, .slice (some ⟨bs, 0, none⟩) 2 2] V fun e w' => e = .returned (.bool true) ∧ Below V.heap.size V w')
    (fin : ∀ (f : Nat → Value) (y : World), (∀ j, j < 10 → f24Pre.getD j false = true → (f24K bx b1 b3 bs c_ nm j).P (f j) y) → Below w.drew.heap.size w.drew y → Q .normal (putL a0 [(140, f 0), (141, f 1), (142, f 2), (143, f 3), (144, f 4), (145, f 5), (146, f 6), (147, f 7), (148, f 8), (149, f 9)]) y) (id : Nat) :
    (Code.region id f24Ops true).wp Tryz.prog Q a0 w := by
  refine wp_region_inv f24Pre (fun j => (f24K bx b1 b3 bs c_ nm j).P) (fun x y => Below x.heap.size x y) 10 0 (by kernel_rfl) (by kernel_rfl) (by rw [hsize]; kernel_rfl) (by kernel_rfl) (by kernel_rfl) (Below.refl _ _) (fun _ _ _ h1 h2 => bl_trans h1 h2) (fun j _ _ _ h1 h2 => (f24K bx b1 b3 bs c_ nm j).keep h1 h2) ?_ (fun f y h1 h2 => by rw [f24_slots]; exact any_end (by kernel_rfl) (fin f y h1 h2) 0)
  intro i o ho hp f a x hR hbase hdeps K hK
  have hi : i < 10 := by
    rcases Nat.lt_or_ge i 10 with h | h
    · exact h
    · have : f24Ops.size ≤ i := h
      rw [Array.getElem?_eq_none this] at ho; cases ho
  have dep : ∀ j, (o.after.any fun e => Region.binds .any e && e.on == j) = true → (∀ s, slotOf f24Ops j = some s → a.tmps[s]? = some (f j)) ∧ (f24K bx b1 b3 bs c_ nm j).P (f j) x := by
    intro j h
    obtain ⟨e, he, h2⟩ := Array.any_eq_true'.1 h
    simp only [Bool.and_eq_true, beq_iff_eq] at h2
    obtain ⟨h3, rfl⟩ := h2
    exact hdeps e he h3
  have dv : ∀ (j s : Nat) {v : Value}, (o.after.any fun e => Region.binds .any e && e.on == j) = true → slotOf f24Ops j = some s → f24K bx b1 b3 bs c_ nm j = Kc.val v → a.tmps[s]? = some v := fun j s v h1 h2 h3 => by
    obtain ⟨t, g⟩ := dep j h1
    rw [h3] at g
    have e : f j = v := g
    rw [← e]; exact t s h2
  have bv : ∀ {s : Nat} {v : Value}, a0.tmps[s]? = some v → ((List.range f24Ops.size).all fun j => slotOf f24Ops j != some s) = true → a.tmps[s]? = some v := by
    intro s v h0 h
    rw [hbase s fun j hj _ e => ?_]; exact h0
    have h2 := (List.all_eq_true.1 h) j (List.mem_range.2 hj)
    rw [e] at h2; simp at h2
  match i, hi with
  | 0, _ =>
    obtain rfl : f24o0 = o := Option.some.inj (show f24Ops[0]? = some _ from ho)
    have eb10 := eval_at (bv h10 (by kernel_rfl))
    have kcell := keep_cellK hR hc0
    have kcell2 := keep_cellK hR hc1
    exact inv_stay hK rfl (by simp only [execOp, f24o0, eb10]; go_simp) (wanted_none rfl)
  | 1, _ =>
    obtain rfl : f24o1 = o := Option.some.inj (show f24Ops[1]? = some _ from ho)
    have eb9 := eval_at (bv h9 (by kernel_rfl))
    exact inv_stay hK rfl (by simp only [execOp, f24o1, eb9]; go_simp) (wanted_none rfl)
  | 2, _ =>
    obtain rfl : f24o2 = o := Option.some.inj (show f24Ops[2]? = some _ from ho)
    have eb10 := eval_at (bv h10 (by kernel_rfl))
    exact inv_stay hK rfl (by simp only [execOp, f24o2, eb10]; go_simp) (wanted_none rfl)
  | 3, _ =>
    obtain rfl : f24o3 = o := Option.some.inj (show f24Ops[3]? = some _ from ho)
    have e2 := eval_at (dv 2 142 (by kernel_rfl) rfl rfl)
    have kcell := keep_cellK hR hc1
    exact inv_stay hK rfl (by simp only [execOp, f24o3, e2]; go_simp) (wanted_none rfl)
  | 4, _ =>
    obtain rfl : f24o4 = o := Option.some.inj (show f24Ops[4]? = some _ from ho)
    have e3 := eval_at (dv 3 143 (by kernel_rfl) rfl rfl)
    exact inv_stay hK rfl (by simp only [execOp, f24o4, e3]; go_simp) (wanted_none rfl)
  | 5, _ =>
    obtain rfl : f24o5 = o := Option.some.inj (show f24Ops[5]? = some _ from ho)
    have e4 := eval_at (dv 4 144 (by kernel_rfl) rfl rfl)
    exact inv_stay hK rfl (by simp only [execOp, f24o5, e4]; go_simp) (wanted_none rfl)
  | 6, _ =>
    obtain rfl : f24o6 = o := Option.some.inj (show f24Ops[6]? = some _ from ho)
    have e5 := eval_at (dv 5 145 (by kernel_rfl) rfl rfl)
    have kcell := keep_cellK hR hcn
    exact inv_stay hK rfl (by simp only [execOp, f24o6, e5]; go_simp) (wanted_none rfl)
  | 7, _ =>
    obtain rfl : f24o7 = o := Option.some.inj (show f24Ops[7]? = some _ from ho)
    have eb2 := eval_at (bv h2 (by kernel_rfl))
    exact inv_stay hK rfl (by simp only [execOp, f24o7, eb2]; go_simp) (wanted_none rfl)
  | 8, _ =>
    obtain rfl : f24o8 = o := Option.some.inj (show f24Ops[8]? = some _ from ho)
    have q0 := dv 0 140 (by kernel_rfl) rfl rfl
    have q1 := dv 1 141 (by kernel_rfl) rfl rfl
    have q6 := dv 6 146 (by kernel_rfl) rfl rfl
    have q7 := dv 7 147 (by kernel_rfl) rfl rfl
    refine inv_enter 5 #[.agg #[.slice (some ⟨b1, 0, none⟩) 4 4, .slice (some ⟨b3, 0, none⟩) 2 2], .int .i64 c_, .string nm, .slice (some ⟨bs, 0, none⟩) 2 2] hK (by simp [go_sem, f24o8, q0, q1, q6, q7]) (wanted_none rfl) ?_
    refine (hf x hR).mono ?_
    rintro e y ⟨rfl, h⟩
    exact ⟨_, rfl, rfl, h⟩
  | 9, _ =>
    obtain rfl : f24o9 = o := Option.some.inj (show f24Ops[9]? = some _ from ho)
    have e8 := eval_at (dv 8 148 (by kernel_rfl) rfl rfl)
    exact inv_stay hK rfl (by simp only [execOp, f24o9, e8]; go_simp) (wanted_none rfl)
def f34o0 : Oper := ⟨some 168, Op.load 30 (.tmp 13), 30, "law.go:93", #[], none⟩
def f34o1 : Oper := ⟨some 169, Op.move (.tmp 11), 9, "law.go:93", #[], none⟩
def f34o2 : Oper := ⟨some 170, Op.move (.tmp 2), 26, "law.go:93", #[], none⟩
def f34o3 : Oper := ⟨some 171, Op.call { callee := Callee.value (.func 5), args := #[.tmp 168, .const (.int .i64 65), .tmp 169, .tmp 170], argTypes := #[30, 3, 9, 26] }, 4, "law.go:93", #[⟨0, .data⟩, ⟨1, .data⟩, ⟨2, .data⟩], none⟩
def f34o4 : Oper := ⟨some 172, Op.unOp UnOp.not 4 (.tmp 171), 4, "law.go:93", #[⟨3, .data⟩], none⟩
def f34o5 : Oper := ⟨some 173, Op.move (.tmp 172), 4, "law.go:93", #[⟨4, .data⟩, ⟨3, .chain⟩], none⟩
def f34o6 : Oper := ⟨some 174, Op.load 30 (.tmp 14), 30, "law.go:93", #[⟨5, .guard⟩], some (5, false)⟩
def f34o7 : Oper := ⟨some 175, Op.fieldAddr 30 (.tmp 14) 1, 0, "law.go:93", #[⟨5, .guard⟩], some (5, false)⟩
def f34o8 : Oper := ⟨some 176, Op.load 28 (.tmp 175), 28, "law.go:93", #[⟨7, .data⟩, ⟨5, .guard⟩], some (5, false)⟩
def f34o9 : Oper := ⟨some 177, Op.indexAddr 28 (.tmp 176) (.const (.int .i64 1)), 0, "law.go:93", #[⟨8, .data⟩, ⟨5, .guard⟩], some (5, false)⟩
def f34o10 : Oper := ⟨some 178, Op.fieldAddr 37 (.tmp 177) 0, 0, "law.go:93", #[⟨9, .data⟩, ⟨5, .guard⟩], some (5, false)⟩
def f34o11 : Oper := ⟨some 179, Op.load 9 (.tmp 178), 9, "law.go:93", #[⟨10, .data⟩, ⟨5, .guard⟩], some (5, false)⟩
def f34o12 : Oper := ⟨some 180, Op.move (.tmp 2), 26, "law.go:93", #[⟨5, .guard⟩], some (5, false)⟩
def f34o13 : Oper := ⟨some 181, Op.call { callee := Callee.value (.func 5), args := #[.tmp 174, .const (.int .i64 65), .tmp 179, .tmp 180], argTypes := #[30, 3, 9, 26] }, 4, "law.go:93", #[⟨6, .data⟩, ⟨11, .data⟩, ⟨12, .data⟩, ⟨5, .chain⟩, ⟨5, .guard⟩], some (5, false)⟩
def f34o14 : Oper := ⟨some 182, Op.unOp UnOp.not 4 (.tmp 181), 4, "law.go:93", #[⟨13, .data⟩, ⟨5, .guard⟩], some (5, false)⟩
def f34o15 : Oper := ⟨some 183, Op.pick (.tmp 173) (.const (Value.bool true)) (.tmp 182), 4, "law.go:93", #[⟨5, .data⟩, ⟨14, .data⟩], none⟩
def f34Ops : Array Oper := #[f34o0, f34o1, f34o2, f34o3, f34o4, f34o5, f34o6, f34o7, f34o8, f34o9, f34o10, f34o11, f34o12, f34o13, f34o14, f34o15]
def f34Pre : Array Bool := #[true, true, true, true, true, true, true, true, true, true, true, true, true, true, true, true]
def f34K (_bx by_ b1 b3 b2 b4 bs : Nat) (na nb : ByteArray) : Nat → Kc
  | 0 => Kc.val (.agg #[.slice (some ⟨b1, 0, none⟩) 4 4, .slice (some ⟨b3, 0, none⟩) 2 2])
  | 1 => Kc.val (.string na)
  | 2 => Kc.val (.slice (some ⟨bs, 0, none⟩) 2 2)
  | 3 => Kc.val (.bool true)
  | 4 => Kc.val (.bool false)
  | 5 => Kc.val (.bool false)
  | 6 => Kc.val (.agg #[.slice (some ⟨b2, 0, none⟩) 4 4, .slice (some ⟨b4, 0, none⟩) 2 2])
  | 7 => Kc.val (.pointer (some ⟨by_, 1, none⟩))
  | 8 => Kc.val (.slice (some ⟨b4, 0, none⟩) 2 2)
  | 9 => Kc.val (.pointer (some ⟨b4, 2, none⟩))
  | 10 => Kc.val (.pointer (some ⟨b4, 2, none⟩))
  | 11 => Kc.val (.string nb)
  | 12 => Kc.val (.slice (some ⟨bs, 0, none⟩) 2 2)
  | 13 => Kc.val (.bool true)
  | 14 => Kc.val (.bool false)
  | 15 => Kc.val (.bool false)
  | _ => Kc.val undef
theorem f34_slots (f : Nat → Value) : slotsOf f34Ops f34Pre f = [(168, f 0), (169, f 1), (170, f 2), (171, f 3), (172, f 4), (173, f 5), (174, f 6), (175, f 7), (176, f 8), (177, f 9), (178, f 10), (179, f 11), (180, f 12), (181, f 13), (182, f 14), (183, f 15)] := by kernel_rfl
set_option maxHeartbeats 6400000 in
set_option maxRecDepth 100000 in
theorem f34_wp {Q : Exit → Act → World → Prop} {a0 : Act} {w : World} (bx by_ b1 b3 b2 b4 bs : Nat) (na nb : ByteArray) (hsize : a0.tmps.size = 258) (h13 : a0.tmps[13]? = some (.pointer (some ⟨bx, 0, none⟩)))
    (h14 : a0.tmps[14]? = some (.pointer (some ⟨by_, 0, none⟩)))
    (h11 : a0.tmps[11]? = some (.string na))
    (h2 : a0.tmps[2]? = some (.slice (some ⟨bs, 0, none⟩) 2 2))
    (hc0 : w.drew.cell? ⟨bx, 0, none⟩ = some (.slice (some ⟨b1, 0, none⟩) 4 4))
    (hc1 : w.drew.cell? ⟨bx, 1, none⟩ = some (.slice (some ⟨b3, 0, none⟩) 2 2))
    (hd0 : w.drew.cell? ⟨by_, 0, none⟩ = some (.slice (some ⟨b2, 0, none⟩) 4 4))
    (hd1 : w.drew.cell? ⟨by_, 1, none⟩ = some (.slice (some ⟨b4, 0, none⟩) 2 2))
    (hcn : w.drew.cell? ⟨b4, 2, none⟩ = some (.string nb))
    (hf1 : ∀ V, Below w.drew.heap.size w.drew V → Calls Tryz.prog 5 #[.agg #[.slice (some ⟨b1, 0, none⟩) 4 4, .slice (some ⟨b3, 0, none⟩) 2 2], .int .i64 65, .string na, .slice (some ⟨bs, 0, none⟩) 2 2] V fun e w' => e = .returned (.bool true) ∧ Below V.heap.size V w')
    (hf2 : ∀ V, Below w.drew.heap.size w.drew V → Calls Tryz.prog 5 #[.agg #[.slice (some ⟨b2, 0, none⟩) 4 4, .slice (some ⟨b4, 0, none⟩) 2 2], .int .i64 65, .string nb, .slice (some ⟨bs, 0, none⟩) 2 2] V fun e w' => e = .returned (.bool true) ∧ Below V.heap.size V w')
    (fin : ∀ (f : Nat → Value) (y : World), (∀ j, j < 16 → f34Pre.getD j false = true → (f34K bx by_ b1 b3 b2 b4 bs na nb j).P (f j) y) → Below w.drew.heap.size w.drew y → Q .normal (putL a0 [(168, f 0), (169, f 1), (170, f 2), (171, f 3), (172, f 4), (173, f 5), (174, f 6), (175, f 7), (176, f 8), (177, f 9), (178, f 10), (179, f 11), (180, f 12), (181, f 13), (182, f 14), (183, f 15)]) y) (id : Nat) :
    (Code.region id f34Ops true).wp Tryz.prog Q a0 w := by
  refine wp_region_inv f34Pre (fun j => (f34K bx by_ b1 b3 b2 b4 bs na nb j).P) (fun x y => Below x.heap.size x y) 16 0 (by kernel_rfl) (by kernel_rfl) (by rw [hsize]; kernel_rfl) (by kernel_rfl) (by kernel_rfl) (Below.refl _ _) (fun _ _ _ h1 h2 => bl_trans h1 h2) (fun j _ _ _ h1 h2 => (f34K bx by_ b1 b3 b2 b4 bs na nb j).keep h1 h2) ?_ (fun f y h1 h2 => by rw [f34_slots]; exact any_end (by kernel_rfl) (fin f y h1 h2) 0)
  intro i o ho hp f a x hR hbase hdeps K hK
  have hi : i < 16 := by
    rcases Nat.lt_or_ge i 16 with h | h
    · exact h
    · have : f34Ops.size ≤ i := h
      rw [Array.getElem?_eq_none this] at ho; cases ho
  have dep : ∀ j, (o.after.any fun e => Region.binds .any e && e.on == j) = true → (∀ s, slotOf f34Ops j = some s → a.tmps[s]? = some (f j)) ∧ (f34K bx by_ b1 b3 b2 b4 bs na nb j).P (f j) x := by
    intro j h
    obtain ⟨e, he, h2⟩ := Array.any_eq_true'.1 h
    simp only [Bool.and_eq_true, beq_iff_eq] at h2
    obtain ⟨h3, rfl⟩ := h2
    exact hdeps e he h3
  have dv : ∀ (j s : Nat) {v : Value}, (o.after.any fun e => Region.binds .any e && e.on == j) = true → slotOf f34Ops j = some s → f34K bx by_ b1 b3 b2 b4 bs na nb j = Kc.val v → a.tmps[s]? = some v := fun j s v h1 h2 h3 => by
    obtain ⟨t, g⟩ := dep j h1
    rw [h3] at g
    have e : f j = v := g
    rw [← e]; exact t s h2
  have bv : ∀ {s : Nat} {v : Value}, a0.tmps[s]? = some v → ((List.range f34Ops.size).all fun j => slotOf f34Ops j != some s) = true → a.tmps[s]? = some v := by
    intro s v h0 h
    rw [hbase s fun j hj _ e => ?_]; exact h0
    have h2 := (List.all_eq_true.1 h) j (List.mem_range.2 hj)
    rw [e] at h2; simp at h2
  match i, hi with
  | 0, _ =>
    obtain rfl : f34o0 = o := Option.some.inj (show f34Ops[0]? = some _ from ho)
    have eb13 := eval_at (bv h13 (by kernel_rfl))
    have kcell := keep_cellK hR hc0
    have kcell2 := keep_cellK hR hc1
    exact inv_stay hK rfl (by simp only [execOp, f34o0, eb13]; go_simp) (wanted_none rfl)
  | 1, _ =>
    obtain rfl : f34o1 = o := Option.some.inj (show f34Ops[1]? = some _ from ho)
    have eb11 := eval_at (bv h11 (by kernel_rfl))
    exact inv_stay hK rfl (by simp only [execOp, f34o1, eb11]; go_simp) (wanted_none rfl)
  | 2, _ =>
    obtain rfl : f34o2 = o := Option.some.inj (show f34Ops[2]? = some _ from ho)
    have eb2 := eval_at (bv h2 (by kernel_rfl))
    exact inv_stay hK rfl (by simp only [execOp, f34o2, eb2]; go_simp) (wanted_none rfl)
  | 3, _ =>
    obtain rfl : f34o3 = o := Option.some.inj (show f34Ops[3]? = some _ from ho)
    have q0 := dv 0 168 (by kernel_rfl) rfl rfl
    have q1 := dv 1 169 (by kernel_rfl) rfl rfl
    have q2 := dv 2 170 (by kernel_rfl) rfl rfl
    refine inv_enter 5 #[.agg #[.slice (some ⟨b1, 0, none⟩) 4 4, .slice (some ⟨b3, 0, none⟩) 2 2], .int .i64 65, .string na, .slice (some ⟨bs, 0, none⟩) 2 2] hK (by simp [go_sem, f34o3, q0, q1, q2]) (wanted_none rfl) ?_
    refine (hf1 x hR).mono ?_
    rintro e y ⟨rfl, h⟩
    exact ⟨_, rfl, rfl, h⟩
  | 4, _ =>
    obtain rfl : f34o4 = o := Option.some.inj (show f34Ops[4]? = some _ from ho)
    have e3 := eval_at (dv 3 171 (by kernel_rfl) rfl rfl)
    exact inv_stay hK rfl (by simp only [execOp, f34o4, e3]; go_simp) (wanted_none rfl)
  | 5, _ =>
    obtain rfl : f34o5 = o := Option.some.inj (show f34Ops[5]? = some _ from ho)
    have e4 := eval_at (dv 4 172 (by kernel_rfl) rfl rfl)
    exact inv_stay hK rfl (by simp only [execOp, f34o5, e4]; go_simp) (wanted_none rfl)
  | 6, _ =>
    obtain rfl : f34o6 = o := Option.some.inj (show f34Ops[6]? = some _ from ho)
    have q5 := dv 5 173 (by kernel_rfl) rfl rfl
    have eb14 := eval_at (bv h14 (by kernel_rfl))
    have kcell := keep_cellK hR hd0
    have kcell2 := keep_cellK hR hd1
    exact inv_stay hK rfl (by simp only [execOp, f34o6, eb14]; go_simp) (wanted_t q5 rfl rfl)
  | 7, _ =>
    obtain rfl : f34o7 = o := Option.some.inj (show f34Ops[7]? = some _ from ho)
    have q5 := dv 5 173 (by kernel_rfl) rfl rfl
    have eb14 := eval_at (bv h14 (by kernel_rfl))
    exact inv_stay hK rfl (by simp only [execOp, f34o7, eb14]; go_simp) (wanted_t q5 rfl rfl)
  | 8, _ =>
    obtain rfl : f34o8 = o := Option.some.inj (show f34Ops[8]? = some _ from ho)
    have q5 := dv 5 173 (by kernel_rfl) rfl rfl
    have e7 := eval_at (dv 7 175 (by kernel_rfl) rfl rfl)
    have kcell := keep_cellK hR hd1
    exact inv_stay hK rfl (by simp only [execOp, f34o8, e7]; go_simp) (wanted_t q5 rfl rfl)
  | 9, _ =>
    obtain rfl : f34o9 = o := Option.some.inj (show f34Ops[9]? = some _ from ho)
    have q5 := dv 5 173 (by kernel_rfl) rfl rfl
    have e8 := eval_at (dv 8 176 (by kernel_rfl) rfl rfl)
    exact inv_stay hK rfl (by simp only [execOp, f34o9, e8]; go_simp) (wanted_t q5 rfl rfl)
  | 10, _ =>
    obtain rfl : f34o10 = o := Option.some.inj (show f34Ops[10]? = some _ from ho)
    have q5 := dv 5 173 (by kernel_rfl) rfl rfl
    have e9 := eval_at (dv 9 177 (by kernel_rfl) rfl rfl)
    exact inv_stay hK rfl (by simp only [execOp, f34o10, e9]; go_simp) (wanted_t q5 rfl rfl)
  | 11, _ =>
    obtain rfl : f34o11 = o := Option.some.inj (show f34Ops[11]? = some _ from ho)
    have q5 := dv 5 173 (by kernel_rfl) rfl rfl
    have e10 := eval_at (dv 10 178 (by kernel_rfl) rfl rfl)
    have kcell := keep_cellK hR hcn
    exact inv_stay hK rfl (by simp only [execOp, f34o11, e10]; go_simp) (wanted_t q5 rfl rfl)
  | 12, _ =>
    obtain rfl : f34o12 = o := Option.some.inj (show f34Ops[12]? = some _ from ho)
    have q5 := dv 5 173 (by kernel_rfl) rfl rfl
    have eb2 := eval_at (bv h2 (by kernel_rfl))
    exact inv_stay hK rfl (by simp only [execOp, f34o12, eb2]; go_simp) (wanted_t q5 rfl rfl)
  | 13, _ =>
    obtain rfl : f34o13 = o := Option.some.inj (show f34Ops[13]? = some _ from ho)
    have q5 := dv 5 173 (by kernel_rfl) rfl rfl
    have q6 := dv 6 174 (by kernel_rfl) rfl rfl
    have q11 := dv 11 179 (by kernel_rfl) rfl rfl
    have q12 := dv 12 180 (by kernel_rfl) rfl rfl
    refine inv_enter 5 #[.agg #[.slice (some ⟨b2, 0, none⟩) 4 4, .slice (some ⟨b4, 0, none⟩) 2 2], .int .i64 65, .string nb, .slice (some ⟨bs, 0, none⟩) 2 2] hK (by simp [go_sem, f34o13, q6, q11, q12]) (wanted_t q5 rfl rfl) ?_
    refine (hf2 x hR).mono ?_
    rintro e y ⟨rfl, h⟩
    exact ⟨_, rfl, rfl, h⟩
  | 14, _ =>
    obtain rfl : f34o14 = o := Option.some.inj (show f34Ops[14]? = some _ from ho)
    have q5 := dv 5 173 (by kernel_rfl) rfl rfl
    have e13 := eval_at (dv 13 181 (by kernel_rfl) rfl rfl)
    exact inv_stay hK rfl (by simp only [execOp, f34o14, e13]; go_simp) (wanted_t q5 rfl rfl)
  | 15, _ =>
    obtain rfl : f34o15 = o := Option.some.inj (show f34Ops[15]? = some _ from ho)
    have e5 := eval_at (dv 5 173 (by kernel_rfl) rfl rfl)
    have e14 := eval_at (dv 14 182 (by kernel_rfl) rfl rfl)
    exact inv_stay hK rfl (by simp only [execOp, f34o15, e5, e14]; go_simp) (wanted_none rfl)
def f43o0 : Oper := ⟨some 202, Op.load 30 (.tmp 15), 30, "law.go:102", #[], none⟩
def f43o1 : Oper := ⟨some 203, Op.call ⟨.value (.func 7), #[.tmp 202], #[30]⟩, 4, "law.go:102", #[⟨0, .data⟩], none⟩
def f43o2 : Oper := ⟨some 204, Op.fieldAddr 30 (.tmp 15) 1, 0, "law.go:102", #[], none⟩
def f43o3 : Oper := ⟨some 205, Op.load 28 (.tmp 204), 28, "law.go:102", #[⟨2, .data⟩], none⟩
def f43o4 : Oper := ⟨some 206, Op.indexAddr 28 (.tmp 205) (.const (.int .i64 1)), 0, "law.go:102", #[⟨3, .data⟩], none⟩
def f43o5 : Oper := ⟨some 207, Op.fieldAddr 37 (.tmp 206) 1, 0, "law.go:102", #[⟨4, .data⟩], none⟩
def f43o6 : Oper := ⟨some 208, Op.load 25 (.tmp 207), 25, "law.go:102", #[⟨5, .data⟩], none⟩
def f43o7 : Oper := ⟨some 209, Op.call { callee := Callee.builtin Builtin.len, args := #[.tmp 208], argTypes := #[25] }, 3, "law.go:102", #[⟨6, .data⟩], none⟩
def f43o8 : Oper := ⟨some 210, Op.binOp BinOp.leq 3 (.tmp 209) (.const (.int .i64 2000)) 3, 4, "law.go:102", #[⟨7, .data⟩], none⟩
def f43o9 : Oper := ⟨some 211, Op.binOp BinOp.neq 4 (.tmp 203) (.tmp 210) 4, 4, "law.go:102", #[⟨1, .data⟩, ⟨8, .data⟩], none⟩
def f43Ops : Array Oper := #[f43o0, f43o1, f43o2, f43o3, f43o4, f43o5, f43o6, f43o7, f43o8, f43o9]
def f43Pre : Array Bool := #[true, true, true, true, true, true, true, true, true, true]
def f43K (bx b1 b3 n_ c_ : Nat) (q_ : Option Addr) (r : Bool) : Nat → Kc
  | 0 => Kc.val (.agg #[.slice (some ⟨b1, 0, none⟩) 4 4, .slice (some ⟨b3, 0, none⟩) 2 2])
  | 1 => Kc.val (.bool r)
  | 2 => Kc.val (.pointer (some ⟨bx, 1, none⟩))
  | 3 => Kc.val (.slice (some ⟨b3, 0, none⟩) 2 2)
  | 4 => Kc.val (.pointer (some ⟨b3, 2, none⟩))
  | 5 => Kc.val (.pointer (some ⟨b3, 3, none⟩))
  | 6 => Kc.val (.slice q_ n_ c_)
  | 7 => Kc.val (.int .i64 ((n_ : Nat) : Int))
  | 8 => Kc.val (.bool r)
  | 9 => Kc.val (.bool false)
  | _ => Kc.val undef
theorem f43_slots (f : Nat → Value) : slotsOf f43Ops f43Pre f = [(202, f 0), (203, f 1), (204, f 2), (205, f 3), (206, f 4), (207, f 5), (208, f 6), (209, f 7), (210, f 8), (211, f 9)] := by kernel_rfl
set_option maxHeartbeats 6400000 in
set_option maxRecDepth 100000 in
theorem f43_wp {Q : Exit → Act → World → Prop} {a0 : Act} {w : World} (bx b1 b3 n_ c_ : Nat) (q_ : Option Addr) (r : Bool) (hsize : a0.tmps.size = 258) (h15 : a0.tmps[15]? = some (.pointer (some ⟨bx, 0, none⟩)))
    (hc0 : w.drew.cell? ⟨bx, 0, none⟩ = some (.slice (some ⟨b1, 0, none⟩) 4 4))
    (hc1 : w.drew.cell? ⟨bx, 1, none⟩ = some (.slice (some ⟨b3, 0, none⟩) 2 2))
    (hcs : w.drew.cell? ⟨b3, 3, none⟩ = some (.slice q_ n_ c_))
    (hr : Hid (decide (n_ ≤ 2000) = r)) (hnn : n_ ≤ 5000)
    (hf : ∀ V, Below w.drew.heap.size w.drew V → Calls Tryz.prog 7 #[.agg #[.slice (some ⟨b1, 0, none⟩) 4 4, .slice (some ⟨b3, 0, none⟩) 2 2]] V fun e w' => e = .returned (.bool r) ∧ Below V.heap.size V w')
    (fin : ∀ (f : Nat → Value) (y : World), (∀ j, j < 10 → f43Pre.getD j false = true → (f43K bx b1 b3 n_ c_ q_ r j).P (f j) y) → Below w.drew.heap.size w.drew y → Q .normal (putL a0 [(202, f 0), (203, f 1), (204, f 2), (205, f 3), (206, f 4), (207, f 5), (208, f 6), (209, f 7), (210, f 8), (211, f 9)]) y) (id : Nat) :
    (Code.region id f43Ops true).wp Tryz.prog Q a0 w := by
  refine wp_region_inv f43Pre (fun j => (f43K bx b1 b3 n_ c_ q_ r j).P) (fun x y => Below x.heap.size x y) 10 0 (by kernel_rfl) (by kernel_rfl) (by rw [hsize]; kernel_rfl) (by kernel_rfl) (by kernel_rfl) (Below.refl _ _) (fun _ _ _ h1 h2 => bl_trans h1 h2) (fun j _ _ _ h1 h2 => (f43K bx b1 b3 n_ c_ q_ r j).keep h1 h2) ?_ (fun f y h1 h2 => by rw [f43_slots]; exact any_end (by kernel_rfl) (fin f y h1 h2) 0)
  intro i o ho hp f a x hR hbase hdeps K hK
  have hi : i < 10 := by
    rcases Nat.lt_or_ge i 10 with h | h
    · exact h
    · have : f43Ops.size ≤ i := h
      rw [Array.getElem?_eq_none this] at ho; cases ho
  have dep : ∀ j, (o.after.any fun e => Region.binds .any e && e.on == j) = true → (∀ s, slotOf f43Ops j = some s → a.tmps[s]? = some (f j)) ∧ (f43K bx b1 b3 n_ c_ q_ r j).P (f j) x := by
    intro j h
    obtain ⟨e, he, h2⟩ := Array.any_eq_true'.1 h
    simp only [Bool.and_eq_true, beq_iff_eq] at h2
    obtain ⟨h3, rfl⟩ := h2
    exact hdeps e he h3
  have dv : ∀ (j s : Nat) {v : Value}, (o.after.any fun e => Region.binds .any e && e.on == j) = true → slotOf f43Ops j = some s → f43K bx b1 b3 n_ c_ q_ r j = Kc.val v → a.tmps[s]? = some v := fun j s v h1 h2 h3 => by
    obtain ⟨t, g⟩ := dep j h1
    rw [h3] at g
    have e : f j = v := g
    rw [← e]; exact t s h2
  have bv : ∀ {s : Nat} {v : Value}, a0.tmps[s]? = some v → ((List.range f43Ops.size).all fun j => slotOf f43Ops j != some s) = true → a.tmps[s]? = some v := by
    intro s v h0 h
    rw [hbase s fun j hj _ e => ?_]; exact h0
    have h2 := (List.all_eq_true.1 h) j (List.mem_range.2 hj)
    rw [e] at h2; simp at h2
  match i, hi with
  | 0, _ =>
    obtain rfl : f43o0 = o := Option.some.inj (show f43Ops[0]? = some _ from ho)
    have eb15 := eval_at (bv h15 (by kernel_rfl))
    have kcell := keep_cellK hR hc0
    have kcell2 := keep_cellK hR hc1
    exact inv_stay hK rfl (by simp only [execOp, f43o0, eb15]; go_simp) (wanted_none rfl)
  | 1, _ =>
    obtain rfl : f43o1 = o := Option.some.inj (show f43Ops[1]? = some _ from ho)
    have q0 := dv 0 202 (by kernel_rfl) rfl rfl
    refine inv_enter 7 #[.agg #[.slice (some ⟨b1, 0, none⟩) 4 4, .slice (some ⟨b3, 0, none⟩) 2 2]] hK (by simp [go_sem, f43o1, q0]) (wanted_none rfl) ?_
    refine (hf x hR).mono ?_
    rintro e y ⟨rfl, h⟩
    exact ⟨_, rfl, rfl, h⟩
  | 2, _ =>
    obtain rfl : f43o2 = o := Option.some.inj (show f43Ops[2]? = some _ from ho)
    have eb15 := eval_at (bv h15 (by kernel_rfl))
    exact inv_stay hK rfl (by simp only [execOp, f43o2, eb15]; go_simp) (wanted_none rfl)
  | 3, _ =>
    obtain rfl : f43o3 = o := Option.some.inj (show f43Ops[3]? = some _ from ho)
    have e2 := eval_at (dv 2 204 (by kernel_rfl) rfl rfl)
    have kcell := keep_cellK hR hc1
    exact inv_stay hK rfl (by simp only [execOp, f43o3, e2]; go_simp) (wanted_none rfl)
  | 4, _ =>
    obtain rfl : f43o4 = o := Option.some.inj (show f43Ops[4]? = some _ from ho)
    have e3 := eval_at (dv 3 205 (by kernel_rfl) rfl rfl)
    exact inv_stay hK rfl (by simp only [execOp, f43o4, e3]; go_simp) (wanted_none rfl)
  | 5, _ =>
    obtain rfl : f43o5 = o := Option.some.inj (show f43Ops[5]? = some _ from ho)
    have e4 := eval_at (dv 4 206 (by kernel_rfl) rfl rfl)
    exact inv_stay hK rfl (by simp only [execOp, f43o5, e4]; go_simp) (wanted_none rfl)
  | 6, _ =>
    obtain rfl : f43o6 = o := Option.some.inj (show f43Ops[6]? = some _ from ho)
    have e5 := eval_at (dv 5 207 (by kernel_rfl) rfl rfl)
    have kcell := keep_cellK hR hcs
    exact inv_stay hK rfl (by simp only [execOp, f43o6, e5]; go_simp) (wanted_none rfl)
  | 7, _ =>
    obtain rfl : f43o7 = o := Option.some.inj (show f43Ops[7]? = some _ from ho)
    have q6 := dv 6 208 (by kernel_rfl) rfl rfl
    exact inv_stay hK rfl (by simp only [execOp, f43o7]; go_simp) (wanted_none rfl)
  | 8, _ =>
    obtain rfl : f43o8 = o := Option.some.inj (show f43Ops[8]? = some _ from ho)
    have e7 := eval_at (dv 7 209 (by kernel_rfl) rfl rfl)
    have hd : decide (((n_ : Nat) : Int) ≤ 2000) = r := by rw [← hr.out]; congr 1; exact propext ⟨fun h => by omega, fun h => by omega⟩
    exact inv_stay hK (show Value.bool (decide (((n_ : Nat) : Int) ≤ 2000)) = _ by rw [hd]) (by simp only [execOp, f43o8, e7]; go_simp) (wanted_none rfl)
  | 9, _ =>
    obtain rfl : f43o9 = o := Option.some.inj (show f43Ops[9]? = some _ from ho)
    have e1 := eval_at (dv 1 203 (by kernel_rfl) rfl rfl)
    have e8 := eval_at (dv 8 210 (by kernel_rfl) rfl rfl)
    exact inv_stay hK rfl (by cases r <;> (simp only [execOp, f43o9, e1, e8]; go_simp)) (wanted_none rfl)
def f33o0 : Oper := ⟨some 161, Op.fieldAddr 30 (.tmp 14) 1, 0, "law.go:92", #[], none⟩
def f33o1 : Oper := ⟨some 162, Op.load 28 (.tmp 161), 28, "law.go:92", #[⟨0, .data⟩], none⟩
def f33o2 : Oper := ⟨some 163, Op.move (.tmp 12), 3, "law.go:92", #[], none⟩
def f33o3 : Oper := ⟨some 164, Op.call ⟨.value (.func 6), #[.const (Value.string { data := #[121] }), .tmp 163], #[9, 3]⟩, 9, "law.go:92", #[⟨2, .data⟩], none⟩
def f33o4 : Oper := ⟨some 165, Op.binOp BinOp.add 9 (.const (Value.string { data := #[90] })) (.tmp 164) 9, 9, "law.go:92", #[⟨3, .data⟩], none⟩
def f33o5 : Oper := ⟨some 166, Op.indexAddr 28 (.tmp 162) (.const (.int .i64 1)), 0, "law.go:92", #[⟨1, .data⟩, ⟨0, .phase⟩, ⟨1, .phase⟩, ⟨2, .phase⟩, ⟨3, .phase⟩, ⟨4, .phase⟩], none⟩
def f33o6 : Oper := ⟨some 167, Op.fieldAddr 37 (.tmp 166) 0, 0, "law.go:92", #[⟨5, .data⟩, ⟨0, .phase⟩, ⟨1, .phase⟩, ⟨2, .phase⟩, ⟨3, .phase⟩, ⟨4, .phase⟩], none⟩
def f33o7 : Oper := ⟨none, Op.store 9 (.tmp 167) (.tmp 165), 0, "law.go:92", #[⟨6, .data⟩, ⟨4, .data⟩, ⟨3, .chain⟩, ⟨0, .phase⟩, ⟨1, .phase⟩, ⟨2, .phase⟩, ⟨3, .phase⟩, ⟨4, .phase⟩], none⟩
def f33Ops : Array Oper := #[f33o0, f33o1, f33o2, f33o3, f33o4, f33o5, f33o6, f33o7]
def f33Pre : Array Bool := #[true, true, true, true, true, false, false, false]
def f33K (bx b3 n_ : Nat) (rep : ByteArray) : Nat → Kc
  | 0 => Kc.val (.pointer (some ⟨bx, 1, none⟩))
  | 1 => Kc.val (.slice (some ⟨b3, 0, none⟩) 2 2)
  | 2 => Kc.val (.int .i64 ((n_ : Nat) : Int))
  | 3 => Kc.val (.string rep)
  | 4 => Kc.val (.string (⟨#[90]⟩ ++ rep))
  | _ => Kc.val undef
theorem f33_slots (f : Nat → Value) : slotsOf f33Ops f33Pre f = [(161, f 0), (162, f 1), (163, f 2), (164, f 3), (165, f 4)] := by kernel_rfl
set_option maxHeartbeats 6400000 in
set_option maxRecDepth 100000 in
theorem f33_wp {Q : Exit → Act → World → Prop} {a0 : Act} {w : World} (bx b3 n_ : Nat) (rep : ByteArray) (hsize : a0.tmps.size = 258) (hrs : rep.size ≤ 1000)
    (h14 : a0.tmps[14]? = some (.pointer (some ⟨bx, 0, none⟩)))
    (h12 : a0.tmps[12]? = some (.int .i64 ((n_ : Nat) : Int)))
    (hc1 : w.drew.cell? ⟨bx, 1, none⟩ = some (.slice (some ⟨b3, 0, none⟩) 2 2))
    (hrep : ∀ V, Below w.drew.heap.size w.drew V → Calls Tryz.prog 6 #[.string ⟨#[121]⟩, .int .i64 ((n_ : Nat) : Int)] V fun e w' => e = .returned (.string rep) ∧ Below V.heap.size V w')
    (fin : ∀ (f : Nat → Value) (y : World), (∀ j, j < 8 → f33Pre.getD j false = true → (f33K bx b3 n_ rep j).P (f j) y) → Below w.drew.heap.size w.drew y → wpAny Tryz.prog .any f33Ops Q 3 f33Pre (putL a0 [(161, f 0), (162, f 1), (163, f 2), (164, f 3), (165, f 4)]) y) (id : Nat) :
    (Code.region id f33Ops true).wp Tryz.prog Q a0 w := by
  refine wp_region_inv f33Pre (fun j => (f33K bx b3 n_ rep j).P) (fun x y => Below x.heap.size x y) 5 3 (by kernel_rfl) (by kernel_rfl) (by rw [hsize]; kernel_rfl) (by kernel_rfl) (by kernel_rfl) (Below.refl _ _) (fun _ _ _ h1 h2 => bl_trans h1 h2) (fun j _ _ _ h1 h2 => (f33K bx b3 n_ rep j).keep h1 h2) ?_ (fun f y h1 h2 => by rw [f33_slots]; exact fin f y h1 h2)
  intro i o ho hp f a x hR hbase hdeps K hK
  have hi : i < 8 := by
    rcases Nat.lt_or_ge i 8 with h | h
    · exact h
    · have : f33Ops.size ≤ i := h
      rw [Array.getElem?_eq_none this] at ho; cases ho
  have dep : ∀ j, (o.after.any fun e => Region.binds .any e && e.on == j) = true → (∀ s, slotOf f33Ops j = some s → a.tmps[s]? = some (f j)) ∧ (f33K bx b3 n_ rep j).P (f j) x := by
    intro j h
    obtain ⟨e, he, h2⟩ := Array.any_eq_true'.1 h
    simp only [Bool.and_eq_true, beq_iff_eq] at h2
    obtain ⟨h3, rfl⟩ := h2
    exact hdeps e he h3
  have dv : ∀ (j s : Nat) {v : Value}, (o.after.any fun e => Region.binds .any e && e.on == j) = true → slotOf f33Ops j = some s → f33K bx b3 n_ rep j = Kc.val v → a.tmps[s]? = some v := fun j s v h1 h2 h3 => by
    obtain ⟨t, g⟩ := dep j h1
    rw [h3] at g
    have e : f j = v := g
    rw [← e]; exact t s h2
  have bv : ∀ {s : Nat} {v : Value}, a0.tmps[s]? = some v → ((List.range f33Ops.size).all fun j => slotOf f33Ops j != some s) = true → a.tmps[s]? = some v := by
    intro s v h0 h
    rw [hbase s fun j hj _ e => ?_]; exact h0
    have h2 := (List.all_eq_true.1 h) j (List.mem_range.2 hj)
    rw [e] at h2; simp at h2
  match i, hi with
  | 0, _ =>
    obtain rfl : f33o0 = o := Option.some.inj (show f33Ops[0]? = some _ from ho)
    have eb14 := eval_at (bv h14 (by kernel_rfl))
    exact inv_stay hK rfl (by simp only [execOp, f33o0, eb14]; go_simp) (wanted_none rfl)
  | 1, _ =>
    obtain rfl : f33o1 = o := Option.some.inj (show f33Ops[1]? = some _ from ho)
    have e0 := eval_at (dv 0 161 (by kernel_rfl) rfl rfl)
    have kcell := keep_cellK hR hc1
    exact inv_stay hK rfl (by simp only [execOp, f33o1, e0]; go_simp) (wanted_none rfl)
  | 2, _ =>
    obtain rfl : f33o2 = o := Option.some.inj (show f33Ops[2]? = some _ from ho)
    have eb12 := eval_at (bv h12 (by kernel_rfl))
    exact inv_stay hK rfl (by simp only [execOp, f33o2, eb12]; go_simp) (wanted_none rfl)
  | 3, _ =>
    obtain rfl : f33o3 = o := Option.some.inj (show f33Ops[3]? = some _ from ho)
    have q2 := dv 2 163 (by kernel_rfl) rfl rfl
    refine inv_enter 6 #[.string ⟨#[121]⟩, .int .i64 ((n_ : Nat) : Int)] hK (by simp [go_sem, f33o3, q2]) (wanted_none rfl) ?_
    refine (hrep x hR).mono ?_
    rintro e y ⟨rfl, h⟩
    exact ⟨_, rfl, rfl, h⟩
  | 4, _ =>
    obtain rfl : f33o4 = o := Option.some.inj (show f33Ops[4]? = some _ from ho)
    have e3 := eval_at (dv 3 164 (by kernel_rfl) rfl rfl)
    have hz : 1 + rep.size ≤ 9223372036854775807 := by omega
    exact inv_stay hK rfl (by simp only [execOp, f33o4, e3]; go_simp) (wanted_none rfl)
  | 5, _ => exact absurd (show f33Pre.getD 5 false = true from hp) (by decide)
  | 6, _ => exact absurd (show f33Pre.getD 6 false = true from hp) (by decide)
  | 7, _ => exact absurd (show f33Pre.getD 7 false = true from hp) (by decide)
set_option maxHeartbeats 3200000 in
set_option maxRecDepth 100000 in
theorem f33_all {Q : Exit → Act → World → Prop} {a0 : Act} {w : World} (bx b3 n_ : Nat) (rep : ByteArray) (s0 : ByteArray) (hsize : a0.tmps.size = 258) (hrs : rep.size ≤ 1000)
    (h14 : a0.tmps[14]? = some (.pointer (some ⟨bx, 0, none⟩)))
    (h12 : a0.tmps[12]? = some (.int .i64 ((n_ : Nat) : Int)))
    (hc1 : w.drew.cell? ⟨bx, 1, none⟩ = some (.slice (some ⟨b3, 0, none⟩) 2 2))
    (hrep : ∀ V, Below w.drew.heap.size w.drew V → Calls Tryz.prog 6 #[.string ⟨#[121]⟩, .int .i64 ((n_ : Nat) : Int)] V fun e w' => e = .returned (.string rep) ∧ Below V.heap.size V w')
    (hn : w.drew.cell? ⟨b3, 2, none⟩ = some (.string s0)) (hfz : ∀ V, Below w.drew.heap.size w.drew V → V.frozen? ⟨b3, 2, none⟩ = false)
    (fin : ∀ y, Below w.drew.heap.size w.drew y → Q .normal (((putL a0 [(161, .pointer (some ⟨bx, 1, none⟩)), (162, .slice (some ⟨b3, 0, none⟩) 2 2), (163, .int .i64 ((n_ : Nat) : Int)), (164, .string rep), (165, .string (⟨#[90]⟩ ++ rep))]).put (some 166) (.pointer (some ⟨b3, 2, none⟩))).put (some 167) (.pointer (some ⟨b3, 2, none⟩))) (y.setCell ⟨b3, 2, none⟩ (.string (⟨#[90]⟩ ++ rep)))) (id : Nat) :
    (Code.region id f33Ops true).wp Tryz.prog Q a0 w := by
  refine f33_wp bx b3 n_ rep hsize hrs h14 h12 hc1 hrep ?_ id
  intro f y hk hb
  have e0 : f 0 = .pointer (some ⟨bx, 1, none⟩) := hk 0 (by decide) (by decide)
  have e1 : f 1 = .slice (some ⟨b3, 0, none⟩) 2 2 := hk 1 (by decide) (by decide)
  have e2 : f 2 = .int .i64 ((n_ : Nat) : Int) := hk 2 (by decide) (by decide)
  have e3 : f 3 = .string rep := hk 3 (by decide) (by decide)
  have e4 : f 4 = .string (⟨#[90]⟩ ++ rep) := hk 4 (by decide) (by decide)
  rw [e0, e1, e2, e3, e4]
  have fin' := fin y hb
  have kn := keep_cellK hb hn
  have kf := hfz y hb
  clear fin hk e0 e1 e2 e3 e4 hrep hb
  have H : Has 258 (putL a0 [(161, .pointer (some ⟨bx, 1, none⟩)), (162, .slice (some ⟨b3, 0, none⟩) 2 2), (163, .int .i64 ((n_ : Nat) : Int)), (164, .string rep), (165, .string (⟨#[90]⟩ ++ rep))]) [(162, .slice (some ⟨b3, 0, none⟩) 2 2), (165, .string (⟨#[90]⟩ ++ rep))] := by
    refine ⟨by rw [putL_size]; exact hsize, fun s v hm => ?_⟩
    have h1 := putL_get [(161, .pointer (some ⟨bx, 1, none⟩)), (162, .slice (some ⟨b3, 0, none⟩) 2 2), (163, .int .i64 ((n_ : Nat) : Int)), (164, .string rep), (165, .string (⟨#[90]⟩ ++ rep))] a0 s (by simp) (by rw [hsize]; simp)
    simp only [List.mem_cons, Prod.mk.injEq, List.not_mem_nil, or_false] at hm
    rcases hm with ⟨rfl, rfl⟩ | ⟨rfl, rfl⟩
    · exact h1.2 _ (by simp)
    · exact h1.2 _ (by simp)
  generalize putL a0 [(161, .pointer (some ⟨bx, 1, none⟩)), (162, .slice (some ⟨b3, 0, none⟩) 2 2), (163, .int .i64 ((n_ : Nat) : Int)), (164, .string rep), (165, .string (⟨#[90]⟩ ++ rep))] = a at H fin' ⊢
  refine any_one (i := 5) (o := f33o5) (by kernel_rfl) rfl ?_
  have d1 := eval_at (H.2 162 (.slice (some ⟨b3, 0, none⟩) 2 2) (by simp))
  refine inv_val (G := fun u V => u = .pointer (some ⟨b3, 2, none⟩) ∧ y = V) (R := fun _ _ => True) (wanted_none rfl) (v := .pointer (some ⟨b3, 2, none⟩)) (w2 := y) (by simp only [execOp, f33o5, d1]; go_simp) ?_ ⟨rfl, rfl⟩ trivial
  rintro _ _ ⟨rfl, rfl⟩ _
  rw [show f33o5.dst = some 166 from rfl]
  have H := H.put 166 (.pointer (some ⟨b3, 2, none⟩)) (by decide) (by simp)
  obtain ⟨a2, ha2⟩ : ∃ a_, a_ = a.put (some 166) (.pointer (some ⟨b3, 2, none⟩)) := ⟨_, rfl⟩
  rw [← ha2] at H fin' ⊢
  clear ha2
  refine any_one (i := 6) (o := f33o6) (by kernel_rfl) rfl ?_
  have d2 := eval_at (H.2 166 (.pointer (some ⟨b3, 2, none⟩)) (by simp))
  refine inv_val (G := fun u V => u = .pointer (some ⟨b3, 2, none⟩) ∧ y = V) (R := fun _ _ => True) (wanted_none rfl) (v := .pointer (some ⟨b3, 2, none⟩)) (w2 := y) (by simp only [execOp, f33o6, d2]; go_simp) ?_ ⟨rfl, rfl⟩ trivial
  rintro _ _ ⟨rfl, rfl⟩ _
  rw [show f33o6.dst = some 167 from rfl]
  have H := H.put 167 (.pointer (some ⟨b3, 2, none⟩)) (by decide) (by simp)
  obtain ⟨a3, ha3⟩ : ∃ a_, a_ = a2.put (some 167) (.pointer (some ⟨b3, 2, none⟩)) := ⟨_, rfl⟩
  rw [← ha3] at H fin' ⊢
  clear ha3
  refine any_one (i := 7) (o := f33o7) (by kernel_rfl) rfl ?_
  have d3 := eval_at (H.2 167 (.pointer (some ⟨b3, 2, none⟩)) (by simp))
  have d4 := eval_at (H.2 165 (.string (⟨#[90]⟩ ++ rep)) (by simp))
  refine inv_skip (wanted_none rfl) (w2 := y.setCell ⟨b3, 2, none⟩ (.string (⟨#[90]⟩ ++ rep))) (by simp only [execOp, f33o7, d3, d4]; go_simp) ?_
  refine any_end (by kernel_rfl) ?_ 0
  exact fin'
end Go.Proofs.YtglgfpapackcdaaGreat
