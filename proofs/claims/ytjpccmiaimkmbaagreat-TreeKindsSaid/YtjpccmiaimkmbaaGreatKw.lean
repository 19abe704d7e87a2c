/- TreeKinds: orders' drawn regions. -/
/- TreeKinds: a group above a tree, in a drawn region. -/
/- TreeKinds: ends' drawn regions 12 and 37. -/
import Derived.Test.YtjpccmiaimkmbaaGreatKr
import Derived.Test.YtjpccmiaimkmbaaGreatLn

namespace Go.Proofs.YtjpccmiaimkmbaaGreat
open Go.RowKit Tnr Tnt

def ord4o0 : Oper := ⟨some 18, Op.call ⟨.value (.func 20), #[.const (.int .i64 97)], #[3]⟩, 28, "law.go:114", #[], none⟩
def ord4o1 : Oper := ⟨some 19, Op.call ⟨.value (.func 20), #[.const (.int .i64 98)], #[3]⟩, 28, "law.go:114", #[⟨0, .chain⟩], none⟩
def ord4o2 : Oper := ⟨some 20, Op.move (.tmp 1), 3, "law.go:114", #[], none⟩
def ord4o3 : Oper := ⟨some 21, Op.binOp BinOp.rem 3 (.tmp 20) (.const (.int .i64 5)) 3, 3, "law.go:114", #[⟨2, .data⟩], none⟩
def ord4o4 : Oper := ⟨some 22, Op.binOp BinOp.sub 3 (.tmp 21) (.const (.int .i64 1)) 3, 3, "law.go:114", #[⟨3, .data⟩], none⟩
def ord4o5 : Oper := ⟨some 23, Op.move (.tmp 1), 3, "law.go:114", #[], none⟩
def ord4o6 : Oper := ⟨some 24, Op.binOp BinOp.quo 3 (.tmp 23) (.const (.int .i64 5)) 3, 3, "law.go:114", #[⟨5, .data⟩], none⟩
def ord4o7 : Oper := ⟨some 25, Op.binOp BinOp.rem 3 (.tmp 24) (.const (.int .i64 5)) 3, 3, "law.go:114", #[⟨6, .data⟩], none⟩
def ord4o8 : Oper := ⟨some 26, Op.buildSlice 24 2 #[(0, .tmp 22), (1, .tmp 25)], 24, "law.go:114", #[⟨4, .data⟩, ⟨7, .data⟩], none⟩
def ord4o9 : Oper := ⟨some 27, Op.build 28 #[(0, .const (.int .u8 3)), (2, .tmp 26)], 28, "law.go:114", #[⟨8, .data⟩], none⟩
def ord4o10 : Oper := ⟨some 28, Op.call ⟨.value (.func 20), #[.const (.int .i64 99)], #[3]⟩, 28, "law.go:114", #[⟨1, .chain⟩], none⟩
def ord4o11 : Oper := ⟨some 29, Op.move (.tmp 1), 3, "law.go:114", #[], none⟩
def ord4o12 : Oper := ⟨some 30, Op.binOp BinOp.quo 3 (.tmp 29) (.const (.int .i64 25)) 3, 3, "law.go:114", #[⟨11, .data⟩], none⟩
def ord4o13 : Oper := ⟨some 31, Op.binOp BinOp.rem 3 (.tmp 30) (.const (.int .i64 5)) 3, 3, "law.go:114", #[⟨12, .data⟩], none⟩
def ord4o14 : Oper := ⟨some 32, Op.move (.tmp 1), 3, "law.go:114", #[], none⟩
def ord4o15 : Oper := ⟨some 33, Op.binOp BinOp.quo 3 (.tmp 32) (.const (.int .i64 125)) 3, 3, "law.go:114", #[⟨14, .data⟩], none⟩
def ord4o16 : Oper := ⟨some 34, Op.binOp BinOp.rem 3 (.tmp 33) (.const (.int .i64 5)) 3, 3, "law.go:114", #[⟨15, .data⟩], none⟩
def ord4o17 : Oper := ⟨some 35, Op.move (.tmp 1), 3, "law.go:114", #[], none⟩
def ord4o18 : Oper := ⟨some 36, Op.binOp BinOp.quo 3 (.tmp 35) (.const (.int .i64 625)) 3, 3, "law.go:114", #[⟨17, .data⟩], none⟩
def ord4o19 : Oper := ⟨some 37, Op.buildSlice 24 3 #[(0, .tmp 31), (1, .tmp 34), (2, .tmp 36)], 24, "law.go:114", #[⟨13, .data⟩, ⟨16, .data⟩, ⟨18, .data⟩], none⟩
def ord4o20 : Oper := ⟨some 38, Op.move (.tmp 1), 3, "law.go:114", #[], none⟩
def ord4o21 : Oper := ⟨some 39, Op.binOp BinOp.rem 3 (.tmp 38) (.const (.int .i64 2)) 3, 3, "law.go:114", #[⟨20, .data⟩], none⟩
def ord4o22 : Oper := ⟨some 40, Op.binOp BinOp.add 3 (.const (.int .i64 2)) (.tmp 39) 3, 3, "law.go:114", #[⟨21, .data⟩], none⟩
def ord4o23 : Oper := ⟨some 41, Op.slice 24 (.tmp 37) none (some (.tmp 40)) none, 24, "law.go:114", #[⟨19, .data⟩, ⟨22, .data⟩], none⟩
def ord4o24 : Oper := ⟨some 42, Op.build 28 #[(0, .const (.int .u8 4)), (2, .tmp 41)], 28, "law.go:114", #[⟨23, .data⟩], none⟩
def ord4o25 : Oper := ⟨some 43, Op.buildSlice 31 5 #[(0, .tmp 18), (1, .tmp 19), (2, .tmp 27), (3, .tmp 28), (4, .tmp 42)], 31, "law.go:114", #[⟨0, .data⟩, ⟨1, .data⟩, ⟨9, .data⟩, ⟨10, .data⟩, ⟨24, .data⟩], none⟩
def ord4o26 : Oper := ⟨some 44, Op.build 34 #[(0, .tmp 43)], 34, "law.go:114", #[⟨25, .data⟩], none⟩
def ord4o27 : Oper := ⟨some 2, Op.alloc 34, 0, "law.go:114", #[], none⟩
def ord4o28 : Oper := ⟨none, Op.store 34 (.tmp 2) (.tmp 44), 0, "law.go:114", #[⟨27, .data⟩, ⟨26, .data⟩, ⟨10, .chain⟩, ⟨0, .phase⟩, ⟨1, .phase⟩, ⟨2, .phase⟩, ⟨3, .phase⟩, ⟨4, .phase⟩, ⟨5, .phase⟩, ⟨6, .phase⟩, ⟨7, .phase⟩, ⟨8, .phase⟩, ⟨9, .phase⟩, ⟨10, .phase⟩, ⟨11, .phase⟩, ⟨12, .phase⟩, ⟨13, .phase⟩, ⟨14, .phase⟩, ⟨15, .phase⟩, ⟨16, .phase⟩, ⟨17, .phase⟩, ⟨18, .phase⟩, ⟨19, .phase⟩, ⟨20, .phase⟩, ⟨21, .phase⟩, ⟨22, .phase⟩, ⟨23, .phase⟩, ⟨24, .phase⟩, ⟨25, .phase⟩, ⟨26, .phase⟩, ⟨27, .phase⟩], none⟩
def ord4Ops : Array Oper := #[ord4o0, ord4o1, ord4o2, ord4o3, ord4o4, ord4o5, ord4o6, ord4o7, ord4o8, ord4o9, ord4o10, ord4o11, ord4o12, ord4o13, ord4o14, ord4o15, ord4o16, ord4o17, ord4o18, ord4o19, ord4o20, ord4o21, ord4o22, ord4o23, ord4o24, ord4o25, ord4o26, ord4o27, ord4o28]
def ord4Pre : Array Bool := #[true, true, true, true, true, true, true, true, true, true, true, true, true, true, true, true, true, true, true, true, true, true, true, true, true, true, true, true, false]
def ord4K (n : Nat) (zw : Nat) : Nat → Kc
  | 0 => Kc.node
  | 1 => Kc.node
  | 2 => Kc.val (.int .i64 (n : Nat))
  | 3 => Kc.num
  | 4 => Kc.num
  | 5 => Kc.val (.int .i64 (n : Nat))
  | 6 => Kc.num
  | 7 => Kc.num
  | 8 => Kc.ints 2 2
  | 9 => Kc.node
  | 10 => Kc.node
  | 11 => Kc.val (.int .i64 (n : Nat))
  | 12 => Kc.num
  | 13 => Kc.num
  | 14 => Kc.val (.int .i64 (n : Nat))
  | 15 => Kc.num
  | 16 => Kc.num
  | 17 => Kc.val (.int .i64 (n : Nat))
  | 18 => Kc.num
  | 19 => Kc.ints 3 3
  | 20 => Kc.val (.int .i64 (n : Nat))
  | 21 => Kc.cnt 0 1
  | 22 => Kc.cnt 2 3
  | 23 => Kc.intsTo 3
  | 24 => Kc.node
  | 25 => Kc.nodes 5
  | 26 => Kc.tree5 5
  | 27 => Kc.box zw 34 #[.slice none 0 0, .slice none 0 0]
  | _ => Kc.val undef
theorem ord4_slots (f : Nat → Value) : slotsOf ord4Ops ord4Pre f = [(18, f 0), (19, f 1), (20, f 2), (21, f 3), (22, f 4), (23, f 5), (24, f 6), (25, f 7), (26, f 8), (27, f 9), (28, f 10), (29, f 11), (30, f 12), (31, f 13), (32, f 14), (33, f 15), (34, f 16), (35, f 17), (36, f 18), (37, f 19), (38, f 20), (39, f 21), (40, f 22), (41, f 23), (42, f 24), (43, f 25), (44, f 26), (2, f 27)] := by kernel_rfl
set_option maxHeartbeats 6400000 in
set_option maxRecDepth 100000 in
theorem ord4_wp {Q : Exit → Act → World → Prop} {a0 : Act} {w : World} (n : Nat) (zw : Nat) (hsize : a0.tmps.size = 125) (h1 : a0.tmps[1]? = some (.int .i64 (n : Nat))) (_hn : n < 3125) (hset : ∀ (c : Int) (V : World), Calls Tryz.prog 20 #[.int .i64 c] V fun e w' => ∃ x : NV, e = .returned (.agg (encN x).toArray) ∧ NodeIn w' x ∧ FwN x.nd ∧ Below V.heap.size V w') (hzw : zw = w.drew.heap.size)
    (fin : ∀ (f : Nat → Value) (y : World), (∀ j, j < 29 → ord4Pre.getD j false = true → (ord4K n zw j).P (f j) y) → Below w.drew.heap.size w.drew y → wpAny Tryz.prog .any ord4Ops Q 1 ord4Pre (putL a0 [(18, f 0), (19, f 1), (20, f 2), (21, f 3), (22, f 4), (23, f 5), (24, f 6), (25, f 7), (26, f 8), (27, f 9), (28, f 10), (29, f 11), (30, f 12), (31, f 13), (32, f 14), (33, f 15), (34, f 16), (35, f 17), (36, f 18), (37, f 19), (38, f 20), (39, f 21), (40, f 22), (41, f 23), (42, f 24), (43, f 25), (44, f 26), (2, f 27)]) y) (id : Nat) :
    (Code.region id ord4Ops true).wp Tryz.prog Q a0 w := by
  refine wp_region_inv ord4Pre (fun j => (ord4K n zw j).P) (fun x y => Below x.heap.size x y) 28 1 (by kernel_rfl) (by kernel_rfl) (by rw [hsize]; kernel_rfl) (by kernel_rfl) (by kernel_rfl) (Below.refl _ _) (fun _ _ _ h1 h2 => bl_trans h1 h2) (fun j _ _ _ h1 h2 => (ord4K n zw j).keep h1 h2) ?_ (fun f y h1 h2 => by rw [ord4_slots]; exact fin f y h1 h2)
  intro i o ho hp f a x hR hbase hdeps K hK
  have hi : i < 29 := by
    rcases Nat.lt_or_ge i 29 with h | h
    · exact h
    · have : ord4Ops.size ≤ i := h
      rw [Array.getElem?_eq_none this] at ho; cases ho
  have dep : ∀ j, (o.after.any fun e => Region.binds .any e && e.on == j) = true → (∀ s, slotOf ord4Ops j = some s → a.tmps[s]? = some (f j)) ∧ (ord4K n zw j).P (f j) x := by
    intro j h
    obtain ⟨e, he, h2⟩ := Array.any_eq_true'.1 h
    simp only [Bool.and_eq_true, beq_iff_eq] at h2
    obtain ⟨h3, rfl⟩ := h2
    exact hdeps e he h3
  have bas : ∀ s, ((List.range ord4Ops.size).all fun j => slotOf ord4Ops j != some s) = true → a.tmps[s]? = a0.tmps[s]? := by
    intro s h
    refine hbase s fun j hj _ e => ?_
    have h2 := (List.all_eq_true.1 h) j (List.mem_range.2 hj)
    rw [e] at h2; simp at h2
  match i, hi with
  | 0, _ =>
    obtain rfl : ord4o0 = o := Option.some.inj (show ord4Ops[0]? = some _ from ho)
    refine inv_call (G := (ord4K n zw 0).P) (R := fun x y => Below x.heap.size x y) (wanted_none rfl) (F := 20) (args := #[.int .i64 97]) (by simp [go_sem, ord4o0]) hK ?_
    refine (hset 97 x).mono ?_
    rintro e y ⟨nx, rfl, h1, h2, h3⟩
    exact ⟨_, rfl, ⟨nx, rfl, h1, h2⟩, h3⟩
  | 1, _ =>
    obtain rfl : ord4o1 = o := Option.some.inj (show ord4Ops[1]? = some _ from ho)
    refine inv_call (G := (ord4K n zw 1).P) (R := fun x y => Below x.heap.size x y) (wanted_none rfl) (F := 20) (args := #[.int .i64 98]) (by simp [go_sem, ord4o1]) hK ?_
    refine (hset 98 x).mono ?_
    rintro e y ⟨nx, rfl, h1, h2, h3⟩
    exact ⟨_, rfl, ⟨nx, rfl, h1, h2⟩, h3⟩
  | 2, _ =>
    obtain rfl : ord4o2 = o := Option.some.inj (show ord4Ops[2]? = some _ from ho)
    have qb1 := (bas 1 (by kernel_rfl)).trans h1
    have eb1 := eval_at qb1
    refine inv_val (G := (ord4K n zw 2).P) (R := fun x y => Below x.heap.size x y) (wanted_none rfl) (v := .int .i64 (n : Nat)) (w2 := x) (by simp only [execOp, ord4o2, eb1]; go_simp) hK rfl (Below.refl _ _)
  | 3, _ =>
    obtain rfl : ord4o3 = o := Option.some.inj (show ord4Ops[3]? = some _ from ho)
    obtain ⟨t2, g2⟩ := dep 2 (by kernel_rfl)
    have q2 := t2 20 (by rfl)
    have e2 := eval_at q2
    have w2 : f 2 = .int .i64 (n : Nat) := g2
    rw [w2] at e2
    rw [w2] at q2
    refine inv_val (G := (ord4K n zw 3).P) (R := fun x y => Below x.heap.size x y) (wanted_none rfl) (v := .int .i64 ((((n : Nat) : Int)).tmod 5)) (w2 := x) (by simp only [execOp, ord4o3, e2]; go_simp) hK ⟨_, rfl⟩ (Below.refl _ _)
  | 4, _ =>
    obtain rfl : ord4o4 = o := Option.some.inj (show ord4Ops[4]? = some _ from ho)
    obtain ⟨t3, g3⟩ := dep 3 (by kernel_rfl)
    have q3 := t3 21 (by rfl)
    have e3 := eval_at q3
    obtain ⟨z, hz⟩ := g3
    rw [hz] at e3
    refine inv_val (G := (ord4K n zw 4).P) (R := fun x y => Below x.heap.size x y) (wanted_none rfl) (v := .int .i64 (IntKind.i64.wrap (z - 1))) (w2 := x) (by simp only [execOp, ord4o4, e3]; go_simp) hK ⟨_, rfl⟩ (Below.refl _ _)
  | 5, _ =>
    obtain rfl : ord4o5 = o := Option.some.inj (show ord4Ops[5]? = some _ from ho)
    have qb1 := (bas 1 (by kernel_rfl)).trans h1
    have eb1 := eval_at qb1
    refine inv_val (G := (ord4K n zw 5).P) (R := fun x y => Below x.heap.size x y) (wanted_none rfl) (v := .int .i64 (n : Nat)) (w2 := x) (by simp only [execOp, ord4o5, eb1]; go_simp) hK rfl (Below.refl _ _)
  | 6, _ =>
    obtain rfl : ord4o6 = o := Option.some.inj (show ord4Ops[6]? = some _ from ho)
    obtain ⟨t5, g5⟩ := dep 5 (by kernel_rfl)
    have q5 := t5 23 (by rfl)
    have e5 := eval_at q5
    have w5 : f 5 = .int .i64 (n : Nat) := g5
    rw [w5] at e5
    rw [w5] at q5
    refine inv_val (G := (ord4K n zw 6).P) (R := fun x y => Below x.heap.size x y) (wanted_none rfl) (v := .int .i64 (IntKind.i64.wrap ((((n : Nat) : Int)).tdiv 5))) (w2 := x) (by simp only [execOp, ord4o6, e5]; go_simp) hK ⟨_, rfl⟩ (Below.refl _ _)
  | 7, _ =>
    obtain rfl : ord4o7 = o := Option.some.inj (show ord4Ops[7]? = some _ from ho)
    obtain ⟨t6, g6⟩ := dep 6 (by kernel_rfl)
    have q6 := t6 24 (by rfl)
    have e6 := eval_at q6
    obtain ⟨z, hz⟩ := g6
    rw [hz] at e6
    refine inv_val (G := (ord4K n zw 7).P) (R := fun x y => Below x.heap.size x y) (wanted_none rfl) (v := .int .i64 ((z).tmod 5)) (w2 := x) (by simp only [execOp, ord4o7, e6]; go_simp) hK ⟨_, rfl⟩ (Below.refl _ _)
  | 8, _ =>
    obtain rfl : ord4o8 = o := Option.some.inj (show ord4Ops[8]? = some _ from ho)
    obtain ⟨t4, g4⟩ := dep 4 (by kernel_rfl)
    have q4 := t4 22 (by rfl)
    have e4 := eval_at q4
    obtain ⟨t7, g7⟩ := dep 7 (by kernel_rfl)
    have q7 := t7 25 (by rfl)
    have e7 := eval_at q7
    obtain ⟨z1, hz1⟩ := g4
    obtain ⟨z2, hz2⟩ := g7
    rw [hz1] at e4
    rw [hz2] at e7
    refine inv_val (G := (ord4K n zw 8).P) (R := fun x y => Below x.heap.size x y) (wanted_none rfl) (v := .slice (some ⟨x.heap.size, 0, none⟩) 2 2) (w2 := x.alloc (.cells #[.int .i64 z1, .int .i64 z2] 3)) (by simp only [execOp, ord4o8]; go_simp) hK ⟨_, [z1, z2], rfl, rfl, slz_new x [z1, z2] _⟩ (bl_alloc _ _)
  | 9, _ =>
    obtain rfl : ord4o9 = o := Option.some.inj (show ord4Ops[9]? = some _ from ho)
    obtain ⟨t8, g8⟩ := dep 8 (by kernel_rfl)
    have q8 := t8 26 (by rfl)
    have e8 := eval_at q8
    obtain ⟨g, l, hv, hn, hl⟩ := g8
    rw [hv] at e8
    refine inv_val (G := (ord4K n zw 9).P) (R := fun x y => Below x.heap.size x y) (wanted_none rfl) (v := .agg (encN ⟨⟨3, [], l, 0, 0, 0, 0, 0, false⟩, none, 0, some ⟨g, 0, none⟩, 2⟩).toArray) (w2 := x) (by simp only [execOp, ord4o9]; unfold encN; go_simp) hK ⟨_, rfl, ⟨.inl rfl, hl, fun _ => rfl, fun h => (by cases h), Nat.le_refl _, by show l.length ≤ 2; omega⟩, by show l.length ≤ 5000; omega, Nat.zero_le _, by show (0 : Int) ≤ 3 ∧ (3 : Int) < 256; decide⟩ (Below.refl _ _)
  | 10, _ =>
    obtain rfl : ord4o10 = o := Option.some.inj (show ord4Ops[10]? = some _ from ho)
    refine inv_call (G := (ord4K n zw 10).P) (R := fun x y => Below x.heap.size x y) (wanted_none rfl) (F := 20) (args := #[.int .i64 99]) (by simp [go_sem, ord4o10]) hK ?_
    refine (hset 99 x).mono ?_
    rintro e y ⟨nx, rfl, h1, h2, h3⟩
    exact ⟨_, rfl, ⟨nx, rfl, h1, h2⟩, h3⟩
  | 11, _ =>
    obtain rfl : ord4o11 = o := Option.some.inj (show ord4Ops[11]? = some _ from ho)
    have qb1 := (bas 1 (by kernel_rfl)).trans h1
    have eb1 := eval_at qb1
    refine inv_val (G := (ord4K n zw 11).P) (R := fun x y => Below x.heap.size x y) (wanted_none rfl) (v := .int .i64 (n : Nat)) (w2 := x) (by simp only [execOp, ord4o11, eb1]; go_simp) hK rfl (Below.refl _ _)
  | 12, _ =>
    obtain rfl : ord4o12 = o := Option.some.inj (show ord4Ops[12]? = some _ from ho)
    obtain ⟨t11, g11⟩ := dep 11 (by kernel_rfl)
    have q11 := t11 29 (by rfl)
    have e11 := eval_at q11
    have w11 : f 11 = .int .i64 (n : Nat) := g11
    rw [w11] at e11
    rw [w11] at q11
    refine inv_val (G := (ord4K n zw 12).P) (R := fun x y => Below x.heap.size x y) (wanted_none rfl) (v := .int .i64 (IntKind.i64.wrap ((((n : Nat) : Int)).tdiv 25))) (w2 := x) (by simp only [execOp, ord4o12, e11]; go_simp) hK ⟨_, rfl⟩ (Below.refl _ _)
  | 13, _ =>
    obtain rfl : ord4o13 = o := Option.some.inj (show ord4Ops[13]? = some _ from ho)
    obtain ⟨t12, g12⟩ := dep 12 (by kernel_rfl)
    have q12 := t12 30 (by rfl)
    have e12 := eval_at q12
    obtain ⟨z, hz⟩ := g12
    rw [hz] at e12
    refine inv_val (G := (ord4K n zw 13).P) (R := fun x y => Below x.heap.size x y) (wanted_none rfl) (v := .int .i64 ((z).tmod 5)) (w2 := x) (by simp only [execOp, ord4o13, e12]; go_simp) hK ⟨_, rfl⟩ (Below.refl _ _)
  | 14, _ =>
    obtain rfl : ord4o14 = o := Option.some.inj (show ord4Ops[14]? = some _ from ho)
    have qb1 := (bas 1 (by kernel_rfl)).trans h1
    have eb1 := eval_at qb1
    refine inv_val (G := (ord4K n zw 14).P) (R := fun x y => Below x.heap.size x y) (wanted_none rfl) (v := .int .i64 (n : Nat)) (w2 := x) (by simp only [execOp, ord4o14, eb1]; go_simp) hK rfl (Below.refl _ _)
  | 15, _ =>
    obtain rfl : ord4o15 = o := Option.some.inj (show ord4Ops[15]? = some _ from ho)
    obtain ⟨t14, g14⟩ := dep 14 (by kernel_rfl)
    have q14 := t14 32 (by rfl)
    have e14 := eval_at q14
    have w14 : f 14 = .int .i64 (n : Nat) := g14
    rw [w14] at e14
    rw [w14] at q14
    refine inv_val (G := (ord4K n zw 15).P) (R := fun x y => Below x.heap.size x y) (wanted_none rfl) (v := .int .i64 (IntKind.i64.wrap ((((n : Nat) : Int)).tdiv 125))) (w2 := x) (by simp only [execOp, ord4o15, e14]; go_simp) hK ⟨_, rfl⟩ (Below.refl _ _)
  | 16, _ =>
    obtain rfl : ord4o16 = o := Option.some.inj (show ord4Ops[16]? = some _ from ho)
    obtain ⟨t15, g15⟩ := dep 15 (by kernel_rfl)
    have q15 := t15 33 (by rfl)
    have e15 := eval_at q15
    obtain ⟨z, hz⟩ := g15
    rw [hz] at e15
    refine inv_val (G := (ord4K n zw 16).P) (R := fun x y => Below x.heap.size x y) (wanted_none rfl) (v := .int .i64 ((z).tmod 5)) (w2 := x) (by simp only [execOp, ord4o16, e15]; go_simp) hK ⟨_, rfl⟩ (Below.refl _ _)
  | 17, _ =>
    obtain rfl : ord4o17 = o := Option.some.inj (show ord4Ops[17]? = some _ from ho)
    have qb1 := (bas 1 (by kernel_rfl)).trans h1
    have eb1 := eval_at qb1
    refine inv_val (G := (ord4K n zw 17).P) (R := fun x y => Below x.heap.size x y) (wanted_none rfl) (v := .int .i64 (n : Nat)) (w2 := x) (by simp only [execOp, ord4o17, eb1]; go_simp) hK rfl (Below.refl _ _)
  | 18, _ =>
    obtain rfl : ord4o18 = o := Option.some.inj (show ord4Ops[18]? = some _ from ho)
    obtain ⟨t17, g17⟩ := dep 17 (by kernel_rfl)
    have q17 := t17 35 (by rfl)
    have e17 := eval_at q17
    have w17 : f 17 = .int .i64 (n : Nat) := g17
    rw [w17] at e17
    rw [w17] at q17
    refine inv_val (G := (ord4K n zw 18).P) (R := fun x y => Below x.heap.size x y) (wanted_none rfl) (v := .int .i64 (IntKind.i64.wrap ((((n : Nat) : Int)).tdiv 625))) (w2 := x) (by simp only [execOp, ord4o18, e17]; go_simp) hK ⟨_, rfl⟩ (Below.refl _ _)
  | 19, _ =>
    obtain rfl : ord4o19 = o := Option.some.inj (show ord4Ops[19]? = some _ from ho)
    obtain ⟨t13, g13⟩ := dep 13 (by kernel_rfl)
    have q13 := t13 31 (by rfl)
    have e13 := eval_at q13
    obtain ⟨t16, g16⟩ := dep 16 (by kernel_rfl)
    have q16 := t16 34 (by rfl)
    have e16 := eval_at q16
    obtain ⟨t18, g18⟩ := dep 18 (by kernel_rfl)
    have q18 := t18 36 (by rfl)
    have e18 := eval_at q18
    obtain ⟨z1, hz1⟩ := g13
    obtain ⟨z2, hz2⟩ := g16
    obtain ⟨z3, hz3⟩ := g18
    rw [hz1] at e13
    rw [hz2] at e16
    rw [hz3] at e18
    refine inv_val (G := (ord4K n zw 19).P) (R := fun x y => Below x.heap.size x y) (wanted_none rfl) (v := .slice (some ⟨x.heap.size, 0, none⟩) 3 3) (w2 := x.alloc (.cells #[.int .i64 z1, .int .i64 z2, .int .i64 z3] 3)) (by simp only [execOp, ord4o19]; go_simp) hK ⟨_, [z1, z2, z3], rfl, rfl, slz_new x [z1, z2, z3] _⟩ (bl_alloc _ _)
  | 20, _ =>
    obtain rfl : ord4o20 = o := Option.some.inj (show ord4Ops[20]? = some _ from ho)
    have qb1 := (bas 1 (by kernel_rfl)).trans h1
    have eb1 := eval_at qb1
    refine inv_val (G := (ord4K n zw 20).P) (R := fun x y => Below x.heap.size x y) (wanted_none rfl) (v := .int .i64 (n : Nat)) (w2 := x) (by simp only [execOp, ord4o20, eb1]; go_simp) hK rfl (Below.refl _ _)
  | 21, _ =>
    obtain rfl : ord4o21 = o := Option.some.inj (show ord4Ops[21]? = some _ from ho)
    obtain ⟨t20, g20⟩ := dep 20 (by kernel_rfl)
    have q20 := t20 38 (by rfl)
    have e20 := eval_at q20
    have w20 : f 20 = .int .i64 (n : Nat) := g20
    rw [w20] at e20
    rw [w20] at q20
    have hm : ((n : Nat) : Int).tmod 2 = ((n % 2 : Nat) : Int) := rfl
    refine inv_val (G := (ord4K n zw 21).P) (R := fun x y => Below x.heap.size x y) (wanted_none rfl) (v := .int .i64 ((n % 2 : Nat) : Int)) (w2 := x) (by simp only [execOp, ord4o21, e20]; go_simp) hK ⟨n % 2, rfl, by omega, by omega⟩ (Below.refl _ _)
  | 22, _ =>
    obtain rfl : ord4o22 = o := Option.some.inj (show ord4Ops[22]? = some _ from ho)
    obtain ⟨t21, g21⟩ := dep 21 (by kernel_rfl)
    have q21 := t21 39 (by rfl)
    have e21 := eval_at q21
    obtain ⟨k, hk, h1, h2⟩ := g21
    rw [hk] at e21
    have hw : IntKind.i64.wrap (2 + ((k : Nat) : Int)) = ((2 + k : Nat) : Int) := by rcases (show k = 0 ∨ k = 1 by omega) with rfl | rfl <;> rfl
    refine inv_val (G := (ord4K n zw 22).P) (R := fun x y => Below x.heap.size x y) (wanted_none rfl) (v := .int .i64 ((2 + k : Nat) : Int)) (w2 := x) (by simp only [execOp, ord4o22, e21]; go_simp) hK ⟨2 + k, rfl, by omega, by omega⟩ (Below.refl _ _)
  | 23, _ =>
    obtain rfl : ord4o23 = o := Option.some.inj (show ord4Ops[23]? = some _ from ho)
    obtain ⟨t19, g19⟩ := dep 19 (by kernel_rfl)
    have q19 := t19 37 (by rfl)
    have e19 := eval_at q19
    obtain ⟨t22, g22⟩ := dep 22 (by kernel_rfl)
    have q22 := t22 40 (by rfl)
    have e22 := eval_at q22
    obtain ⟨k, hk, h1, h2⟩ := g22
    rw [hk] at e22
    have hkI : ((k : Nat) : Int) ≤ 3 := by omega
    obtain ⟨g, l, hv, hn, hl⟩ := g19
    rw [hv] at e19
    refine inv_val (G := (ord4K n zw 23).P) (R := fun x y => Below x.heap.size x y) (wanted_none rfl) (v := .slice (some ⟨g, 0, none⟩) k 3) (w2 := x) (by simp only [execOp, ord4o23, e19]; go_simp) hK ⟨g, k, l.take k, rfl, by rw [List.length_take]; omega, by omega, slz_take hl k⟩ (Below.refl _ _)
  | 24, _ =>
    obtain rfl : ord4o24 = o := Option.some.inj (show ord4Ops[24]? = some _ from ho)
    obtain ⟨t23, g23⟩ := dep 23 (by kernel_rfl)
    have q23 := t23 41 (by rfl)
    have e23 := eval_at q23
    obtain ⟨g, k, l, hv, hn, hkc, hl⟩ := g23
    rw [hv] at e23
    refine inv_val (G := (ord4K n zw 24).P) (R := fun x y => Below x.heap.size x y) (wanted_none rfl) (v := .agg (encN ⟨⟨4, [], l, 0, 0, 0, 0, 0, false⟩, none, 0, some ⟨g, 0, none⟩, 3⟩).toArray) (w2 := x) (by simp only [execOp, ord4o24]; unfold encN; go_simp) hK ⟨_, rfl, ⟨.inl rfl, hl, fun _ => rfl, fun h => (by cases h), Nat.le_refl _, by show l.length ≤ 3; omega⟩, by show l.length ≤ 5000; omega, Nat.zero_le _, by show (0 : Int) ≤ 4 ∧ (4 : Int) < 256; decide⟩ (Below.refl _ _)
  | 25, _ =>
    obtain rfl : ord4o25 = o := Option.some.inj (show ord4Ops[25]? = some _ from ho)
    obtain ⟨t0, g0⟩ := dep 0 (by kernel_rfl)
    have q0 := t0 18 (by rfl)
    have e0 := eval_at q0
    obtain ⟨t1, g1⟩ := dep 1 (by kernel_rfl)
    have q1 := t1 19 (by rfl)
    have e1 := eval_at q1
    obtain ⟨t9, g9⟩ := dep 9 (by kernel_rfl)
    have q9 := t9 27 (by rfl)
    have e9 := eval_at q9
    obtain ⟨t10, g10⟩ := dep 10 (by kernel_rfl)
    have q10 := t10 28 (by rfl)
    have e10 := eval_at q10
    obtain ⟨t24, g24⟩ := dep 24 (by kernel_rfl)
    have q24 := t24 42 (by rfl)
    have e24 := eval_at q24
    obtain ⟨x0, hv0, hi0, hf0⟩ := g0
    obtain ⟨x1, hv1, hi1, hf1⟩ := g1
    obtain ⟨x2, hv2, hi2, hf2⟩ := g9
    obtain ⟨x3, hv3, hi3, hf3⟩ := g10
    obtain ⟨x4, hv4, hi4, hf4⟩ := g24
    rw [hv0] at e0
    rw [hv1] at e1
    rw [hv2] at e9
    rw [hv3] at e10
    rw [hv4] at e24
    have hall : ∀ y ∈ [x0, x1, x2, x3, x4], NodeIn x y ∧ FwN y.nd := by
      intro y hy
      simp only [List.mem_cons, List.not_mem_nil, or_false] at hy
      rcases hy with rfl | rfl | rfl | rfl | rfl
      · exact ⟨hi0, hf0⟩
      · exact ⟨hi1, hf1⟩
      · exact ⟨hi2, hf2⟩
      · exact ⟨hi3, hf3⟩
      · exact ⟨hi4, hf4⟩
    have hW : ([x0, x1, x2, x3, x4].flatMap encN).toArray = #[.int .u8 x0.nd.kind, .slice x0.ps x0.nd.set.length x0.cs, .slice x0.pk x0.nd.kids.length x0.ck, .int .i64 x0.nd.group, .int .i64 x0.nd.mn, .int .i64 x0.nd.mx, .int .u8 x0.nd.mode, .int .u8 x0.nd.spot, .bool x0.nd.neg, .int .u8 x1.nd.kind, .slice x1.ps x1.nd.set.length x1.cs, .slice x1.pk x1.nd.kids.length x1.ck, .int .i64 x1.nd.group, .int .i64 x1.nd.mn, .int .i64 x1.nd.mx, .int .u8 x1.nd.mode, .int .u8 x1.nd.spot, .bool x1.nd.neg, .int .u8 x2.nd.kind, .slice x2.ps x2.nd.set.length x2.cs, .slice x2.pk x2.nd.kids.length x2.ck, .int .i64 x2.nd.group, .int .i64 x2.nd.mn, .int .i64 x2.nd.mx, .int .u8 x2.nd.mode, .int .u8 x2.nd.spot, .bool x2.nd.neg, .int .u8 x3.nd.kind, .slice x3.ps x3.nd.set.length x3.cs, .slice x3.pk x3.nd.kids.length x3.ck, .int .i64 x3.nd.group, .int .i64 x3.nd.mn, .int .i64 x3.nd.mx, .int .u8 x3.nd.mode, .int .u8 x3.nd.spot, .bool x3.nd.neg, .int .u8 x4.nd.kind, .slice x4.ps x4.nd.set.length x4.cs, .slice x4.pk x4.nd.kids.length x4.ck, .int .i64 x4.nd.group, .int .i64 x4.nd.mn, .int .i64 x4.nd.mx, .int .u8 x4.nd.mode, .int .u8 x4.nd.spot, .bool x4.nd.neg] := rfl
    rw [show (encN x0).toArray = #[.int .u8 x0.nd.kind, .slice x0.ps x0.nd.set.length x0.cs, .slice x0.pk x0.nd.kids.length x0.ck, .int .i64 x0.nd.group, .int .i64 x0.nd.mn, .int .i64 x0.nd.mx, .int .u8 x0.nd.mode, .int .u8 x0.nd.spot, .bool x0.nd.neg] from rfl] at e0
    rw [show (encN x1).toArray = #[.int .u8 x1.nd.kind, .slice x1.ps x1.nd.set.length x1.cs, .slice x1.pk x1.nd.kids.length x1.ck, .int .i64 x1.nd.group, .int .i64 x1.nd.mn, .int .i64 x1.nd.mx, .int .u8 x1.nd.mode, .int .u8 x1.nd.spot, .bool x1.nd.neg] from rfl] at e1
    rw [show (encN x2).toArray = #[.int .u8 x2.nd.kind, .slice x2.ps x2.nd.set.length x2.cs, .slice x2.pk x2.nd.kids.length x2.ck, .int .i64 x2.nd.group, .int .i64 x2.nd.mn, .int .i64 x2.nd.mx, .int .u8 x2.nd.mode, .int .u8 x2.nd.spot, .bool x2.nd.neg] from rfl] at e9
    rw [show (encN x3).toArray = #[.int .u8 x3.nd.kind, .slice x3.ps x3.nd.set.length x3.cs, .slice x3.pk x3.nd.kids.length x3.ck, .int .i64 x3.nd.group, .int .i64 x3.nd.mn, .int .i64 x3.nd.mx, .int .u8 x3.nd.mode, .int .u8 x3.nd.spot, .bool x3.nd.neg] from rfl] at e10
    rw [show (encN x4).toArray = #[.int .u8 x4.nd.kind, .slice x4.ps x4.nd.set.length x4.cs, .slice x4.pk x4.nd.kids.length x4.ck, .int .i64 x4.nd.group, .int .i64 x4.nd.mn, .int .i64 x4.nd.mx, .int .u8 x4.nd.mode, .int .u8 x4.nd.spot, .bool x4.nd.neg] from rfl] at e24
    rw [hv0, show (encN x0).toArray = #[.int .u8 x0.nd.kind, .slice x0.ps x0.nd.set.length x0.cs, .slice x0.pk x0.nd.kids.length x0.ck, .int .i64 x0.nd.group, .int .i64 x0.nd.mn, .int .i64 x0.nd.mx, .int .u8 x0.nd.mode, .int .u8 x0.nd.spot, .bool x0.nd.neg] from rfl] at q0
    rw [hv1, show (encN x1).toArray = #[.int .u8 x1.nd.kind, .slice x1.ps x1.nd.set.length x1.cs, .slice x1.pk x1.nd.kids.length x1.ck, .int .i64 x1.nd.group, .int .i64 x1.nd.mn, .int .i64 x1.nd.mx, .int .u8 x1.nd.mode, .int .u8 x1.nd.spot, .bool x1.nd.neg] from rfl] at q1
    rw [hv2, show (encN x2).toArray = #[.int .u8 x2.nd.kind, .slice x2.ps x2.nd.set.length x2.cs, .slice x2.pk x2.nd.kids.length x2.ck, .int .i64 x2.nd.group, .int .i64 x2.nd.mn, .int .i64 x2.nd.mx, .int .u8 x2.nd.mode, .int .u8 x2.nd.spot, .bool x2.nd.neg] from rfl] at q9
    rw [hv3, show (encN x3).toArray = #[.int .u8 x3.nd.kind, .slice x3.ps x3.nd.set.length x3.cs, .slice x3.pk x3.nd.kids.length x3.ck, .int .i64 x3.nd.group, .int .i64 x3.nd.mn, .int .i64 x3.nd.mx, .int .u8 x3.nd.mode, .int .u8 x3.nd.spot, .bool x3.nd.neg] from rfl] at q10
    rw [hv4, show (encN x4).toArray = #[.int .u8 x4.nd.kind, .slice x4.ps x4.nd.set.length x4.cs, .slice x4.pk x4.nd.kids.length x4.ck, .int .i64 x4.nd.group, .int .i64 x4.nd.mn, .int .i64 x4.nd.mx, .int .u8 x4.nd.mode, .int .u8 x4.nd.spot, .bool x4.nd.neg] from rfl] at q24
    clear hv0 hv1 hv2 hv3 hv4
    refine inv_val (G := (ord4K n zw 25).P) (R := fun x y => Below x.heap.size x y) (wanted_none rfl) (v := .slice (some ⟨x.heap.size, 0, none⟩) 5 5) (w2 := x.alloc (.cells ([x0, x1, x2, x3, x4].flatMap encN).toArray 28)) (by simp only [execOp, ord4o25]; rw [hW]; go_simp) hK ⟨_, [x0, x1, x2, x3, x4], rfl, rfl, sln_new _ (fun y hy => (hall y hy).1) _, fun y hy => (hall y hy).2⟩ (bl_alloc _ _)
  | 26, _ =>
    obtain rfl : ord4o26 = o := Option.some.inj (show ord4Ops[26]? = some _ from ho)
    obtain ⟨t25, g25⟩ := dep 25 (by kernel_rfl)
    have q25 := t25 43 (by rfl)
    have e25 := eval_at q25
    obtain ⟨g, ys, hv, h1, h2, h3⟩ := g25
    rw [hv] at e25
    refine inv_val (G := (ord4K n zw 26).P) (R := fun x y => Below x.heap.size x y) (wanted_none rfl) (v := .agg #[.slice (some ⟨g, 0, none⟩) 5 5, .slice none 0 0]) (w2 := x) (by simp only [execOp, ord4o26]; go_simp) hK ⟨g, ys, rfl, h1, h2, h3⟩ (Below.refl _ _)
  | 27, _ =>
    obtain rfl : ord4o27 = o := Option.some.inj (show ord4Ops[27]? = some _ from ho)
    refine inv_val (G := (ord4K n zw 27).P) (R := fun x y => Below x.heap.size x y) (wanted_none rfl) (v := .pointer (some ⟨x.heap.size, 0, none⟩)) (w2 := x.alloc (.cells #[.slice none 0 0, .slice none 0 0] 34)) (by simp only [execOp, ord4o27]; go_simp) hK ⟨_, rfl, (hzw ▸ hR.size), Bx.new _ _ _⟩ (bl_alloc _ _)
  | 28, _ => exact absurd (show ord4Pre.getD 28 false = true from hp) (by decide)
set_option maxHeartbeats 3200000 in
set_option maxRecDepth 100000 in
theorem ord4_all {Q : Exit → Act → World → Prop} {a0 : Act} {w : World} (n : Nat) (zw : Nat) (hsize : a0.tmps.size = 125) (h1 : a0.tmps[1]? = some (.int .i64 (n : Nat))) (hn : n < 3125) (hset : ∀ (c : Int) (V : World), Calls Tryz.prog 20 #[.int .i64 c] V fun e w' => ∃ x : NV, e = .returned (.agg (encN x).toArray) ∧ NodeIn w' x ∧ FwN x.nd ∧ Below V.heap.size V w') (hzw : zw = w.drew.heap.size)
    (fin : ∀ (f : Nat → Value) (b : Nat) (q : Option Addr) (m cq : Nat) (y y2 : World), f 26 = .agg #[.slice q m cq, .slice none 0 0] → (∀ j, j < 29 → ord4Pre.getD j false = true → (ord4K n zw j).P (f j) y) → w.drew.heap.size ≤ b → Below w.drew.heap.size w.drew y → Below w.drew.heap.size w.drew y2 → y2 = (y.setCell ⟨b, 0, none⟩ (.slice q m cq)).setCell ⟨b, 1, none⟩ (.slice none 0 0) → Bx y b 34 #[.slice none 0 0, .slice none 0 0] → Bx y2 b 34 #[.slice q m cq, .slice none 0 0] → Q .normal (putL a0 [(18, f 0), (19, f 1), (20, f 2), (21, f 3), (22, f 4), (23, f 5), (24, f 6), (25, f 7), (26, f 8), (27, f 9), (28, f 10), (29, f 11), (30, f 12), (31, f 13), (32, f 14), (33, f 15), (34, f 16), (35, f 17), (36, f 18), (37, f 19), (38, f 20), (39, f 21), (40, f 22), (41, f 23), (42, f 24), (43, f 25), (44, .agg #[.slice q m cq, .slice none 0 0]), (2, .pointer (some ⟨b, 0, none⟩))]) y2) (id : Nat) :
    (Code.region id ord4Ops true).wp Tryz.prog Q a0 w := by
  refine ord4_wp n zw hsize h1 hn hset hzw ?_ id
  intro f y hk hb
  obtain ⟨b, hp, hzb, hbx⟩ : (Kc.box _ 34 #[.slice none 0 0, .slice none 0 0]).P (f 27) y := hk 27 (by decide) (by decide)
  have kv := hk 26 (by decide) (by decide)
  obtain ⟨q, m, cq, hv⟩ : ∃ q m cq, f 26 = .agg #[.slice q m cq, .slice none 0 0] := by obtain ⟨g, ys, hv, _⟩ := kv; exact ⟨_, _, _, hv⟩
  rw [hp, hv]
  have get : ∀ s v, (s, v) ∈ [(18, f 0), (19, f 1), (20, f 2), (21, f 3), (22, f 4), (23, f 5), (24, f 6), (25, f 7), (26, f 8), (27, f 9), (28, f 10), (29, f 11), (30, f 12), (31, f 13), (32, f 14), (33, f 15), (34, f 16), (35, f 17), (36, f 18), (37, f 19), (38, f 20), (39, f 21), (40, f 22), (41, f 23), (42, f 24), (43, f 25), (44, .agg #[.slice q m cq, .slice none 0 0]), (2, .pointer (some ⟨b, 0, none⟩))] → (putL a0 [(18, f 0), (19, f 1), (20, f 2), (21, f 3), (22, f 4), (23, f 5), (24, f 6), (25, f 7), (26, f 8), (27, f 9), (28, f 10), (29, f 11), (30, f 12), (31, f 13), (32, f 14), (33, f 15), (34, f 16), (35, f 17), (36, f 18), (37, f 19), (38, f 20), (39, f 21), (40, f 22), (41, f 23), (42, f 24), (43, f 25), (44, .agg #[.slice q m cq, .slice none 0 0]), (2, .pointer (some ⟨b, 0, none⟩))]).tmps[s]? = some v := fun s v hm => (putL_get _ a0 s (by simp) (by rw [hsize]; simp)).2 v hm
  have gp := eval_at (get 2 (.pointer (some ⟨b, 0, none⟩)) (by simp))
  have gv := eval_at (get 44 (.agg #[.slice q m cq, .slice none 0 0]) (by simp))
  generalize hl : ([(18, f 0), (19, f 1), (20, f 2), (21, f 3), (22, f 4), (23, f 5), (24, f 6), (25, f 7), (26, f 8), (27, f 9), (28, f 10), (29, f 11), (30, f 12), (31, f 13), (32, f 14), (33, f 15), (34, f 16), (35, f 17), (36, f 18), (37, f 19), (38, f 20), (39, f 21), (40, f 22), (41, f 23), (42, f 24), (43, f 25), (44, .agg #[.slice q m cq, .slice none 0 0]), (2, .pointer (some ⟨b, 0, none⟩))] : List (Nat × Value)) = L at gp gv ⊢
  have b0 : y.cell? ⟨b, 0, none⟩ = some (.slice none 0 0) := hbx.cell rfl
  have b1 : y.cell? ⟨b, 1, none⟩ = some (.slice none 0 0) := hbx.cell rfl
  have hlt := hbx.lt
  have f0 := hbx.free 0
  have f1 := hbx.free 1
  refine any_one (i := 28) (o := ord4o28) (by kernel_rfl) rfl ?_
  refine inv_skip (wanted_none rfl) (w2 := (y.setCell ⟨b, 0, none⟩ (.slice q m cq)).setCell ⟨b, 1, none⟩ (.slice none 0 0)) (by simp only [execOp, ord4o28, gp, gv]; go_simp) ?_
  refine any_end (by kernel_rfl) ?_ 0
  show Q .normal (putL a0 L) _
  subst hl
  have hx2 : Bx ((y.setCell ⟨b, 0, none⟩ (.slice q m cq)).setCell ⟨b, 1, none⟩ (.slice none 0 0)) b 34 #[.slice q m cq, .slice none 0 0] := (hbx.set 0 (.slice q m cq)).set 1 (.slice none 0 0)
  exact fin f b q m cq y _ hv hk (by first | exact hzb | (show _ ≤ b; omega)) hb ((hb.setCell (p := ⟨b, 0, none⟩) (by show _ ≤ b; first | exact hzb | omega) _).setCell (p := ⟨b, 1, none⟩) (by show _ ≤ b; first | exact hzb | omega) _) rfl hbx hx2
def ord5o0 : Oper := ⟨some 45, Op.load 34 (.tmp 2), 34, "law.go:115", #[], none⟩
def ord5o1 : Oper := ⟨some 46, Op.call ⟨.value (.func 21), #[.tmp 45], #[34]⟩, 4, "law.go:115", #[⟨0, .data⟩], none⟩
def ord5o2 : Oper := ⟨some 47, Op.unOp UnOp.not 4 (.tmp 46), 4, "law.go:115", #[⟨1, .data⟩], none⟩
def ord5o3 : Oper := ⟨some 48, Op.move (.tmp 47), 4, "law.go:115", #[⟨2, .data⟩, ⟨1, .chain⟩], none⟩
def ord5o4 : Oper := ⟨some 49, Op.load 34 (.tmp 2), 34, "law.go:115", #[⟨3, .guard⟩], some (3, false)⟩
def ord5o5 : Oper := ⟨some 50, Op.move (.tmp 1), 3, "law.go:115", #[⟨3, .guard⟩], some (3, false)⟩
def ord5o6 : Oper := ⟨some 51, Op.binOp BinOp.rem 3 (.tmp 50) (.const (.int .i64 6)) 3, 3, "law.go:115", #[⟨5, .data⟩, ⟨3, .guard⟩], some (3, false)⟩
def ord5o7 : Oper := ⟨some 52, Op.call ⟨.value (.func 12), #[.tmp 49, .tmp 51], #[34, 3]⟩, 34, "law.go:115", #[⟨4, .data⟩, ⟨6, .data⟩, ⟨3, .chain⟩, ⟨3, .guard⟩], some (3, false)⟩
def ord5o8 : Oper := ⟨some 53, Op.load 34 (.tmp 2), 34, "law.go:115", #[⟨3, .guard⟩], some (3, false)⟩
def ord5o9 : Oper := ⟨some 54, Op.move (.tmp 1), 3, "law.go:115", #[⟨3, .guard⟩], some (3, false)⟩
def ord5o10 : Oper := ⟨some 55, Op.binOp BinOp.rem 3 (.tmp 54) (.const (.int .i64 6)) 3, 3, "law.go:115", #[⟨9, .data⟩, ⟨3, .guard⟩], some (3, false)⟩
def ord5o11 : Oper := ⟨some 56, Op.call ⟨.value (.func 13), #[.tmp 53, .tmp 55], #[34, 3]⟩, 34, "law.go:115", #[⟨8, .data⟩, ⟨10, .data⟩, ⟨7, .chain⟩, ⟨3, .guard⟩], some (3, false)⟩
def ord5o12 : Oper := ⟨some 57, Op.call ⟨.value (.func 11), #[.tmp 52, .tmp 56], #[34, 34]⟩, 4, "law.go:115", #[⟨7, .data⟩, ⟨11, .data⟩, ⟨11, .chain⟩, ⟨3, .guard⟩], some (3, false)⟩
def ord5o13 : Oper := ⟨some 58, Op.unOp UnOp.not 4 (.tmp 57), 4, "law.go:115", #[⟨12, .data⟩, ⟨3, .guard⟩], some (3, false)⟩
def ord5o14 : Oper := ⟨some 59, Op.pick (.tmp 48) (.const (Value.bool true)) (.tmp 58), 4, "law.go:115", #[⟨3, .data⟩, ⟨13, .data⟩], none⟩
def ord5Ops : Array Oper := #[ord5o0, ord5o1, ord5o2, ord5o3, ord5o4, ord5o5, ord5o6, ord5o7, ord5o8, ord5o9, ord5o10, ord5o11, ord5o12, ord5o13, ord5o14]
def ord5Pre : Array Bool := #[true, true, true, true, true, true, true, true, true, true, true, true, true, true, true]
def ord5K (n _b : Nat) (q : Option Addr) (m cq : Nat) (L : List Nd) : Nat → Kc
  | 0 => Kc.val (.agg #[.slice q m cq, .slice none 0 0])
  | 1 => Kc.val (.bool true)
  | 2 => Kc.val (.bool false)
  | 3 => Kc.val (.bool false)
  | 4 => Kc.val (.agg #[.slice q m cq, .slice none 0 0])
  | 5 => Kc.val (.int .i64 (n : Nat))
  | 6 => Kc.val (.int .i64 ((n % 6 : Nat) : Int))
  | 7 => Kc.treeL L
  | 8 => Kc.val (.agg #[.slice q m cq, .slice none 0 0])
  | 9 => Kc.val (.int .i64 (n : Nat))
  | 10 => Kc.val (.int .i64 ((n % 6 : Nat) : Int))
  | 11 => Kc.treeL L
  | 12 => Kc.val (.bool true)
  | 13 => Kc.val (.bool false)
  | 14 => Kc.val (.bool false)
  | _ => Kc.val undef
theorem ord5_slots (f : Nat → Value) : slotsOf ord5Ops ord5Pre f = [(45, f 0), (46, f 1), (47, f 2), (48, f 3), (49, f 4), (50, f 5), (51, f 6), (52, f 7), (53, f 8), (54, f 9), (55, f 10), (56, f 11), (57, f 12), (58, f 13), (59, f 14)] := by kernel_rfl
set_option maxHeartbeats 6400000 in
set_option maxRecDepth 100000 in
theorem ord5_wp {Q : Exit → Act → World → Prop} {a0 : Act} {w : World} (n b : Nat) (q : Option Addr) (m cq : Nat) (L : List Nd) (hsize : a0.tmps.size = 125) (h1 : a0.tmps[1]? = some (.int .i64 (n : Nat))) (h2 : a0.tmps[2]? = some (.pointer (some ⟨b, 0, none⟩))) (hb0 : w.drew.cell? ⟨b, 0, none⟩ = some (.slice q m cq)) (hb1 : w.drew.cell? ⟨b, 1, none⟩ = some (.slice none 0 0))
    (htells : ∀ V, Below w.drew.heap.size w.drew V → Calls Tryz.prog 21 #[.agg #[.slice q m cq, .slice none 0 0]] V fun e w' => e = .returned (.bool true) ∧ Below V.heap.size V w')
    (hof : ∀ V, Below w.drew.heap.size w.drew V → Calls Tryz.prog 12 #[.agg #[.slice q m cq, .slice none 0 0], .int .i64 ((n % 6 : Nat) : Int)] V fun e w' => ∃ q m cq zs, m = zs.length ∧ e = .returned (.agg #[.slice q m cq, .slice none 0 0]) ∧ SlN w' q zs ∧ nds zs = L ∧ Below V.heap.size V w')
    (hrof : ∀ V, Below w.drew.heap.size w.drew V → Calls Tryz.prog 13 #[.agg #[.slice q m cq, .slice none 0 0], .int .i64 ((n % 6 : Nat) : Int)] V fun e w' => ∃ q m cq zs, m = zs.length ∧ e = .returned (.agg #[.slice q m cq, .slice none 0 0]) ∧ SlN w' q zs ∧ nds zs = L ∧ Below V.heap.size V w')
    (hsame : ∀ (V : World) (q1 q2 : Option Addr) (m1 c1 m2 c2 : Nat) (xs zs : List NV), Below w.drew.heap.size w.drew V → m1 = xs.length → m2 = zs.length → SlN V q1 xs → SlN V q2 zs → nds xs = L → nds zs = L → Calls Tryz.prog 11 #[.agg #[.slice q1 m1 c1, .slice none 0 0], .agg #[.slice q2 m2 c2, .slice none 0 0]] V fun e w' => e = .returned (.bool true) ∧ Below V.heap.size V w')
    (fin : ∀ (f : Nat → Value) (y : World), (∀ j, j < 15 → ord5Pre.getD j false = true → (ord5K n b q m cq L j).P (f j) y) → Below w.drew.heap.size w.drew y → Q .normal (putL a0 [(45, f 0), (46, f 1), (47, f 2), (48, f 3), (49, f 4), (50, f 5), (51, f 6), (52, f 7), (53, f 8), (54, f 9), (55, f 10), (56, f 11), (57, f 12), (58, f 13), (59, f 14)]) y) (id : Nat) :
    (Code.region id ord5Ops true).wp Tryz.prog Q a0 w := by
  refine wp_region_inv ord5Pre (fun j => (ord5K n b q m cq L j).P) (fun x y => Below x.heap.size x y) 15 0 (by kernel_rfl) (by kernel_rfl) (by rw [hsize]; kernel_rfl) (by kernel_rfl) (by kernel_rfl) (Below.refl _ _) (fun _ _ _ h1 h2 => bl_trans h1 h2) (fun j _ _ _ h1 h2 => (ord5K n b q m cq L j).keep h1 h2) ?_ (fun f y h1 h2 => by rw [ord5_slots]; exact any_end (by kernel_rfl) (fin f y h1 h2) 0)
  intro i o ho hp f a x hR hbase hdeps K hK
  have hi : i < 15 := by
    rcases Nat.lt_or_ge i 15 with h | h
    · exact h
    · have : ord5Ops.size ≤ i := h
      rw [Array.getElem?_eq_none this] at ho; cases ho
  have dep : ∀ j, (o.after.any fun e => Region.binds .any e && e.on == j) = true → (∀ s, slotOf ord5Ops j = some s → a.tmps[s]? = some (f j)) ∧ (ord5K n b q m cq L j).P (f j) x := by
    intro j h
    obtain ⟨e, he, h2⟩ := Array.any_eq_true'.1 h
    simp only [Bool.and_eq_true, beq_iff_eq] at h2
    obtain ⟨h3, rfl⟩ := h2
    exact hdeps e he h3
  have bas : ∀ s, ((List.range ord5Ops.size).all fun j => slotOf ord5Ops j != some s) = true → a.tmps[s]? = a0.tmps[s]? := by
    intro s h
    refine hbase s fun j hj _ e => ?_
    have h2 := (List.all_eq_true.1 h) j (List.mem_range.2 hj)
    rw [e] at h2; simp at h2
  match i, hi with
  | 0, _ =>
    obtain rfl : ord5o0 = o := Option.some.inj (show ord5Ops[0]? = some _ from ho)
    have qb2 := (bas 2 (by kernel_rfl)).trans h2
    have eb2 := eval_at qb2
    have hc0 := keep_cellK hR hb0
    have hc1 := keep_cellK hR hb1
    refine inv_val (G := (ord5K n b q m cq L 0).P) (R := fun x y => Below x.heap.size x y) (wanted_none rfl) (v := .agg #[.slice q m cq, .slice none 0 0]) (w2 := x) (by simp only [execOp, ord5o0, eb2]; go_simp) hK rfl (Below.refl _ _)
  | 1, _ =>
    obtain rfl : ord5o1 = o := Option.some.inj (show ord5Ops[1]? = some _ from ho)
    obtain ⟨t0, g0⟩ := dep 0 (by kernel_rfl)
    have q0 := t0 45 (by rfl)
    have e0 := eval_at q0
    have w0 : f 0 = .agg #[.slice q m cq, .slice none 0 0] := g0
    rw [w0] at e0
    rw [w0] at q0
    refine inv_call (G := (ord5K n b q m cq L 1).P) (R := fun x y => Below x.heap.size x y) (wanted_none rfl) (F := 21) (args := #[.agg #[.slice q m cq, .slice none 0 0]]) (by simp [go_sem, ord5o1, q0]) hK ?_
    refine (htells x hR).mono ?_
    rintro e y ⟨rfl, h⟩
    exact ⟨_, rfl, rfl, h⟩
  | 2, _ =>
    obtain rfl : ord5o2 = o := Option.some.inj (show ord5Ops[2]? = some _ from ho)
    obtain ⟨t1, g1⟩ := dep 1 (by kernel_rfl)
    have q1 := t1 46 (by rfl)
    have e1 := eval_at q1
    have w1 : f 1 = .bool true := g1
    rw [w1] at e1
    rw [w1] at q1
    refine inv_val (G := (ord5K n b q m cq L 2).P) (R := fun x y => Below x.heap.size x y) (wanted_none rfl) (v := .bool false) (w2 := x) (by simp only [execOp, ord5o2, e1]; go_simp) hK rfl (Below.refl _ _)
  | 3, _ =>
    obtain rfl : ord5o3 = o := Option.some.inj (show ord5Ops[3]? = some _ from ho)
    obtain ⟨t2, g2⟩ := dep 2 (by kernel_rfl)
    have q2 := t2 47 (by rfl)
    have e2 := eval_at q2
    have w2 : f 2 = .bool false := g2
    rw [w2] at e2
    rw [w2] at q2
    refine inv_val (G := (ord5K n b q m cq L 3).P) (R := fun x y => Below x.heap.size x y) (wanted_none rfl) (v := .bool false) (w2 := x) (by simp only [execOp, ord5o3, e2]; go_simp) hK rfl (Below.refl _ _)
  | 4, _ =>
    obtain rfl : ord5o4 = o := Option.some.inj (show ord5Ops[4]? = some _ from ho)
    obtain ⟨t3, g3⟩ := dep 3 (by kernel_rfl)
    have q3 := t3 48 (by rfl)
    have e3 := eval_at q3
    have w3 : f 3 = .bool false := g3
    rw [w3] at e3
    rw [w3] at q3
    have hw := wanted_some (ops := ord5Ops) (o := ord5o4) (a := a) (j := 3) (s := 48) (b := false) (c := false) rfl (by rfl) q3
    have qb2 := (bas 2 (by kernel_rfl)).trans h2
    have eb2 := eval_at qb2
    have hc0 := keep_cellK hR hb0
    have hc1 := keep_cellK hR hb1
    refine inv_val (G := (ord5K n b q m cq L 4).P) (R := fun x y => Below x.heap.size x y) (hw.trans (by decide)) (v := .agg #[.slice q m cq, .slice none 0 0]) (w2 := x) (by simp only [execOp, ord5o4, eb2]; go_simp) hK rfl (Below.refl _ _)
  | 5, _ =>
    obtain rfl : ord5o5 = o := Option.some.inj (show ord5Ops[5]? = some _ from ho)
    obtain ⟨t3, g3⟩ := dep 3 (by kernel_rfl)
    have q3 := t3 48 (by rfl)
    have e3 := eval_at q3
    have w3 : f 3 = .bool false := g3
    rw [w3] at e3
    rw [w3] at q3
    have hw := wanted_some (ops := ord5Ops) (o := ord5o5) (a := a) (j := 3) (s := 48) (b := false) (c := false) rfl (by rfl) q3
    have qb1 := (bas 1 (by kernel_rfl)).trans h1
    have eb1 := eval_at qb1
    refine inv_val (G := (ord5K n b q m cq L 5).P) (R := fun x y => Below x.heap.size x y) (hw.trans (by decide)) (v := .int .i64 (n : Nat)) (w2 := x) (by simp only [execOp, ord5o5, eb1]; go_simp) hK rfl (Below.refl _ _)
  | 6, _ =>
    obtain rfl : ord5o6 = o := Option.some.inj (show ord5Ops[6]? = some _ from ho)
    obtain ⟨t3, g3⟩ := dep 3 (by kernel_rfl)
    have q3 := t3 48 (by rfl)
    have e3 := eval_at q3
    have w3 : f 3 = .bool false := g3
    rw [w3] at e3
    rw [w3] at q3
    have hw := wanted_some (ops := ord5Ops) (o := ord5o6) (a := a) (j := 3) (s := 48) (b := false) (c := false) rfl (by rfl) q3
    obtain ⟨t5, g5⟩ := dep 5 (by kernel_rfl)
    have q5 := t5 50 (by rfl)
    have e5 := eval_at q5
    have w5 : f 5 = .int .i64 (n : Nat) := g5
    rw [w5] at e5
    rw [w5] at q5
    have hm : ((n : Nat) : Int).tmod 6 = ((n % 6 : Nat) : Int) := rfl
    refine inv_val (G := (ord5K n b q m cq L 6).P) (R := fun x y => Below x.heap.size x y) (hw.trans (by decide)) (v := .int .i64 ((n % 6 : Nat) : Int)) (w2 := x) (by simp only [execOp, ord5o6, e5]; go_simp) hK rfl (Below.refl _ _)
  | 7, _ =>
    obtain rfl : ord5o7 = o := Option.some.inj (show ord5Ops[7]? = some _ from ho)
    obtain ⟨t3, g3⟩ := dep 3 (by kernel_rfl)
    have q3 := t3 48 (by rfl)
    have e3 := eval_at q3
    have w3 : f 3 = .bool false := g3
    rw [w3] at e3
    rw [w3] at q3
    have hw := wanted_some (ops := ord5Ops) (o := ord5o7) (a := a) (j := 3) (s := 48) (b := false) (c := false) rfl (by rfl) q3
    obtain ⟨t4, g4⟩ := dep 4 (by kernel_rfl)
    have q4 := t4 49 (by rfl)
    have e4 := eval_at q4
    have w4 : f 4 = .agg #[.slice q m cq, .slice none 0 0] := g4
    rw [w4] at e4
    rw [w4] at q4
    obtain ⟨t6, g6⟩ := dep 6 (by kernel_rfl)
    have q6 := t6 51 (by rfl)
    have e6 := eval_at q6
    have w6 : f 6 = .int .i64 ((n % 6 : Nat) : Int) := g6
    rw [w6] at e6
    rw [w6] at q6
    refine inv_call (G := (ord5K n b q m cq L 7).P) (R := fun x y => Below x.heap.size x y) (hw.trans (by decide)) (F := 12) (args := #[.agg #[.slice q m cq, .slice none 0 0], .int .i64 ((n % 6 : Nat) : Int)]) (by simp [go_sem, ord5o7, q4, q6]) hK ?_
    refine (hof x hR).mono ?_
    rintro e y ⟨q1, m1, c1, zs, h1, rfl, h2, h3, h⟩
    exact ⟨_, rfl, ⟨q1, m1, c1, zs, rfl, h1, h2, h3⟩, h⟩
  | 8, _ =>
    obtain rfl : ord5o8 = o := Option.some.inj (show ord5Ops[8]? = some _ from ho)
    obtain ⟨t3, g3⟩ := dep 3 (by kernel_rfl)
    have q3 := t3 48 (by rfl)
    have e3 := eval_at q3
    have w3 : f 3 = .bool false := g3
    rw [w3] at e3
    rw [w3] at q3
    have hw := wanted_some (ops := ord5Ops) (o := ord5o8) (a := a) (j := 3) (s := 48) (b := false) (c := false) rfl (by rfl) q3
    have qb2 := (bas 2 (by kernel_rfl)).trans h2
    have eb2 := eval_at qb2
    have hc0 := keep_cellK hR hb0
    have hc1 := keep_cellK hR hb1
    refine inv_val (G := (ord5K n b q m cq L 8).P) (R := fun x y => Below x.heap.size x y) (hw.trans (by decide)) (v := .agg #[.slice q m cq, .slice none 0 0]) (w2 := x) (by simp only [execOp, ord5o8, eb2]; go_simp) hK rfl (Below.refl _ _)
  | 9, _ =>
    obtain rfl : ord5o9 = o := Option.some.inj (show ord5Ops[9]? = some _ from ho)
    obtain ⟨t3, g3⟩ := dep 3 (by kernel_rfl)
    have q3 := t3 48 (by rfl)
    have e3 := eval_at q3
    have w3 : f 3 = .bool false := g3
    rw [w3] at e3
    rw [w3] at q3
    have hw := wanted_some (ops := ord5Ops) (o := ord5o9) (a := a) (j := 3) (s := 48) (b := false) (c := false) rfl (by rfl) q3
    have qb1 := (bas 1 (by kernel_rfl)).trans h1
    have eb1 := eval_at qb1
    refine inv_val (G := (ord5K n b q m cq L 9).P) (R := fun x y => Below x.heap.size x y) (hw.trans (by decide)) (v := .int .i64 (n : Nat)) (w2 := x) (by simp only [execOp, ord5o9, eb1]; go_simp) hK rfl (Below.refl _ _)
  | 10, _ =>
    obtain rfl : ord5o10 = o := Option.some.inj (show ord5Ops[10]? = some _ from ho)
    obtain ⟨t3, g3⟩ := dep 3 (by kernel_rfl)
    have q3 := t3 48 (by rfl)
    have e3 := eval_at q3
    have w3 : f 3 = .bool false := g3
    rw [w3] at e3
    rw [w3] at q3
    have hw := wanted_some (ops := ord5Ops) (o := ord5o10) (a := a) (j := 3) (s := 48) (b := false) (c := false) rfl (by rfl) q3
    obtain ⟨t9, g9⟩ := dep 9 (by kernel_rfl)
    have q9 := t9 54 (by rfl)
    have e9 := eval_at q9
    have w9 : f 9 = .int .i64 (n : Nat) := g9
    rw [w9] at e9
    rw [w9] at q9
    have hm : ((n : Nat) : Int).tmod 6 = ((n % 6 : Nat) : Int) := rfl
    refine inv_val (G := (ord5K n b q m cq L 10).P) (R := fun x y => Below x.heap.size x y) (hw.trans (by decide)) (v := .int .i64 ((n % 6 : Nat) : Int)) (w2 := x) (by simp only [execOp, ord5o10, e9]; go_simp) hK rfl (Below.refl _ _)
  | 11, _ =>
    obtain rfl : ord5o11 = o := Option.some.inj (show ord5Ops[11]? = some _ from ho)
    obtain ⟨t3, g3⟩ := dep 3 (by kernel_rfl)
    have q3 := t3 48 (by rfl)
    have e3 := eval_at q3
    have w3 : f 3 = .bool false := g3
    rw [w3] at e3
    rw [w3] at q3
    have hw := wanted_some (ops := ord5Ops) (o := ord5o11) (a := a) (j := 3) (s := 48) (b := false) (c := false) rfl (by rfl) q3
    obtain ⟨t8, g8⟩ := dep 8 (by kernel_rfl)
    have q8 := t8 53 (by rfl)
    have e8 := eval_at q8
    have w8 : f 8 = .agg #[.slice q m cq, .slice none 0 0] := g8
    rw [w8] at e8
    rw [w8] at q8
    obtain ⟨t10, g10⟩ := dep 10 (by kernel_rfl)
    have q10 := t10 55 (by rfl)
    have e10 := eval_at q10
    have w10 : f 10 = .int .i64 ((n % 6 : Nat) : Int) := g10
    rw [w10] at e10
    rw [w10] at q10
    refine inv_call (G := (ord5K n b q m cq L 11).P) (R := fun x y => Below x.heap.size x y) (hw.trans (by decide)) (F := 13) (args := #[.agg #[.slice q m cq, .slice none 0 0], .int .i64 ((n % 6 : Nat) : Int)]) (by simp [go_sem, ord5o11, q8, q10]) hK ?_
    refine (hrof x hR).mono ?_
    rintro e y ⟨q1, m1, c1, zs, h1, rfl, h2, h3, h⟩
    exact ⟨_, rfl, ⟨q1, m1, c1, zs, rfl, h1, h2, h3⟩, h⟩
  | 12, _ =>
    obtain rfl : ord5o12 = o := Option.some.inj (show ord5Ops[12]? = some _ from ho)
    obtain ⟨t3, g3⟩ := dep 3 (by kernel_rfl)
    have q3 := t3 48 (by rfl)
    have e3 := eval_at q3
    have w3 : f 3 = .bool false := g3
    rw [w3] at e3
    rw [w3] at q3
    have hw := wanted_some (ops := ord5Ops) (o := ord5o12) (a := a) (j := 3) (s := 48) (b := false) (c := false) rfl (by rfl) q3
    obtain ⟨t7, g7⟩ := dep 7 (by kernel_rfl)
    have q7 := t7 52 (by rfl)
    have e7 := eval_at q7
    obtain ⟨t11, g11⟩ := dep 11 (by kernel_rfl)
    have q11 := t11 56 (by rfl)
    have e11 := eval_at q11
    obtain ⟨q1, m1, c1, xs, hv1, hl1, hs1, hn1⟩ := g7
    obtain ⟨q2, m2, c2, zs, hv2, hl2, hs2, hn2⟩ := g11
    rw [hv1] at q7
    rw [hv2] at q11
    refine inv_call (G := (ord5K n b q m cq L 12).P) (R := fun x y => Below x.heap.size x y) (hw.trans (by decide)) (F := 11) (args := #[.agg #[.slice q1 m1 c1, .slice none 0 0], .agg #[.slice q2 m2 c2, .slice none 0 0]]) (by simp [go_sem, ord5o12, q7, q11]) hK ?_
    refine (hsame x q1 q2 m1 c1 m2 c2 xs zs hR hl1 hl2 hs1 hs2 hn1 hn2).mono ?_
    rintro e y ⟨rfl, h⟩
    exact ⟨_, rfl, rfl, h⟩
  | 13, _ =>
    obtain rfl : ord5o13 = o := Option.some.inj (show ord5Ops[13]? = some _ from ho)
    obtain ⟨t3, g3⟩ := dep 3 (by kernel_rfl)
    have q3 := t3 48 (by rfl)
    have e3 := eval_at q3
    have w3 : f 3 = .bool false := g3
    rw [w3] at e3
    rw [w3] at q3
    have hw := wanted_some (ops := ord5Ops) (o := ord5o13) (a := a) (j := 3) (s := 48) (b := false) (c := false) rfl (by rfl) q3
    obtain ⟨t12, g12⟩ := dep 12 (by kernel_rfl)
    have q12 := t12 57 (by rfl)
    have e12 := eval_at q12
    have w12 : f 12 = .bool true := g12
    rw [w12] at e12
    rw [w12] at q12
    refine inv_val (G := (ord5K n b q m cq L 13).P) (R := fun x y => Below x.heap.size x y) (hw.trans (by decide)) (v := .bool false) (w2 := x) (by simp only [execOp, ord5o13, e12]; go_simp) hK rfl (Below.refl _ _)
  | 14, _ =>
    obtain rfl : ord5o14 = o := Option.some.inj (show ord5Ops[14]? = some _ from ho)
    obtain ⟨t3, g3⟩ := dep 3 (by kernel_rfl)
    have q3 := t3 48 (by rfl)
    have e3 := eval_at q3
    have w3 : f 3 = .bool false := g3
    rw [w3] at e3
    rw [w3] at q3
    obtain ⟨t13, g13⟩ := dep 13 (by kernel_rfl)
    have q13 := t13 58 (by rfl)
    have e13 := eval_at q13
    have w13 : f 13 = .bool false := g13
    rw [w13] at e13
    rw [w13] at q13
    refine inv_val (G := (ord5K n b q m cq L 14).P) (R := fun x y => Below x.heap.size x y) (wanted_none rfl) (v := .bool false) (w2 := x) (by simp only [execOp, ord5o14, e3, e13]; go_simp) hK rfl (Below.refl _ _)
end Go.Proofs.YtjpccmiaimkmbaaGreat


namespace Go.Proofs.YtjpccmiaimkmbaaGreat
open Go.RowKit Tnr Tnt

def ord11o0 : Oper := ⟨some 71, Op.move (.tmp 3), 3, "law.go:121", #[], none⟩
def ord11o1 : Oper := ⟨some 72, Op.binOp BinOp.shr 3 (.tmp 71) (.const (.int .u64 2)) 49, 3, "law.go:121", #[⟨0, .data⟩], none⟩
def ord11o2 : Oper := ⟨some 73, Op.binOp BinOp.and 3 (.tmp 72) (.const (.int .i64 3)) 3, 3, "law.go:121", #[⟨1, .data⟩], none⟩
def ord11o3 : Oper := ⟨some 74, Op.call ⟨.value (.func 31), #[.tmp 73], #[3]⟩, 28, "law.go:121", #[⟨2, .data⟩], none⟩
def ord11o4 : Oper := ⟨some 75, Op.load 34 (.tmp 4), 34, "law.go:121", #[], none⟩
def ord11o5 : Oper := ⟨some 76, Op.buildSlice 29 1 #[(0, .tmp 75)], 29, "law.go:121", #[⟨4, .data⟩], none⟩
def ord11o6 : Oper := ⟨some 77, Op.call { callee := Callee.value (.func 10), args := #[.tmp 74, .tmp 76], argTypes := #[28, 29] }, 34, "law.go:121", #[⟨3, .data⟩, ⟨5, .data⟩, ⟨3, .chain⟩], none⟩
def ord11o7 : Oper := ⟨some 5, Op.alloc 34, 0, "law.go:121", #[], none⟩
def ord11o8 : Oper := ⟨none, Op.store 34 (.tmp 5) (.tmp 77), 0, "law.go:121", #[⟨7, .data⟩, ⟨6, .data⟩, ⟨6, .chain⟩, ⟨0, .phase⟩, ⟨1, .phase⟩, ⟨2, .phase⟩, ⟨3, .phase⟩, ⟨4, .phase⟩, ⟨5, .phase⟩, ⟨6, .phase⟩, ⟨7, .phase⟩], none⟩
def ord11Ops : Array Oper := #[ord11o0, ord11o1, ord11o2, ord11o3, ord11o4, ord11o5, ord11o6, ord11o7, ord11o8]
def ord11Pre : Array Bool := #[true, true, true, true, true, true, true, true, false]
def ord11K (n : Nat) (_b B : Nat) (q : Option Addr) (m cq : Nat) (zw : Nat) : Nat → Kc
  | 0 => Kc.val (.int .i64 (n : Nat))
  | 1 => Kc.num
  | 2 => Kc.num
  | 3 => Kc.node
  | 4 => Kc.val (.agg #[.slice q m cq, .slice none 0 0])
  | 5 => Kc.row1 34 #[.slice q m cq, .slice none 0 0]
  | 6 => Kc.treeW B (m + 1)
  | 7 => Kc.box zw 34 #[.slice none 0 0, .slice none 0 0]
  | _ => Kc.val undef
theorem ord11_slots (f : Nat → Value) : slotsOf ord11Ops ord11Pre f = [(71, f 0), (72, f 1), (73, f 2), (74, f 3), (75, f 4), (76, f 5), (77, f 6), (5, f 7)] := by kernel_rfl
set_option maxHeartbeats 6400000 in
set_option maxRecDepth 100000 in
theorem ord11_wp {Q : Exit → Act → World → Prop} {a0 : Act} {w : World} (n : Nat) (b B : Nat) (q : Option Addr) (m cq : Nat) (zw : Nat) (hsize : a0.tmps.size = 125) (h3 : a0.tmps[3]? = some (.int .i64 (n : Nat))) (h4 : a0.tmps[4]? = some (.pointer (some ⟨b, 0, none⟩))) (hb0 : w.drew.cell? ⟨b, 0, none⟩ = some (.slice q m cq)) (hb1 : w.drew.cell? ⟨b, 1, none⟩ = some (.slice none 0 0))
    (hgrp : ∀ (c : Int) (V : World), Calls Tryz.prog 31 #[.int .i64 c] V fun e w' => ∃ x : NV, e = .returned (.agg (encN x).toArray) ∧ NodeIn w' x ∧ FwN x.nd ∧ Below V.heap.size V w')
    (hjoin : ∀ (x : NV) (bb : Nat) (V : World), Below w.drew.heap.size w.drew V → NodeIn V x → FwN x.nd → Bx V bb 34 #[.slice q m cq, .slice none 0 0] → Calls Tryz.prog 10 #[.agg (encN x).toArray, .slice (some ⟨bb, 0, none⟩) 1 1] V fun e w' => ∃ q' cq' ys', e = .returned (.agg #[.slice q' (m + 1) cq', .slice none 0 0]) ∧ TW w' B q' (m + 1) cq' ys' ∧ Below V.heap.size V w') (hzw : zw = w.drew.heap.size)
    (fin : ∀ (f : Nat → Value) (y : World), (∀ j, j < 9 → ord11Pre.getD j false = true → (ord11K n b B q m cq zw j).P (f j) y) → Below w.drew.heap.size w.drew y → wpAny Tryz.prog .any ord11Ops Q 1 ord11Pre (putL a0 [(71, f 0), (72, f 1), (73, f 2), (74, f 3), (75, f 4), (76, f 5), (77, f 6), (5, f 7)]) y) (id : Nat) :
    (Code.region id ord11Ops true).wp Tryz.prog Q a0 w := by
  refine wp_region_inv ord11Pre (fun j => (ord11K n b B q m cq zw j).P) (fun x y => Below x.heap.size x y) 8 1 (by kernel_rfl) (by kernel_rfl) (by rw [hsize]; kernel_rfl) (by kernel_rfl) (by kernel_rfl) (Below.refl _ _) (fun _ _ _ h1 h2 => bl_trans h1 h2) (fun j _ _ _ h1 h2 => (ord11K n b B q m cq zw j).keep h1 h2) ?_ (fun f y h1 h2 => by rw [ord11_slots]; exact fin f y h1 h2)
  intro i o ho hp f a x hR hbase hdeps K hK
  have hi : i < 9 := by
    rcases Nat.lt_or_ge i 9 with h | h
    · exact h
    · have : ord11Ops.size ≤ i := h
      rw [Array.getElem?_eq_none this] at ho; cases ho
  have dep : ∀ j, (o.after.any fun e => Region.binds .any e && e.on == j) = true → (∀ s, slotOf ord11Ops j = some s → a.tmps[s]? = some (f j)) ∧ (ord11K n b B q m cq zw j).P (f j) x := by
    intro j h
    obtain ⟨e, he, h2⟩ := Array.any_eq_true'.1 h
    simp only [Bool.and_eq_true, beq_iff_eq] at h2
    obtain ⟨h3, rfl⟩ := h2
    exact hdeps e he h3
  have bas : ∀ s, ((List.range ord11Ops.size).all fun j => slotOf ord11Ops j != some s) = true → a.tmps[s]? = a0.tmps[s]? := by
    intro s h
    refine hbase s fun j hj _ e => ?_
    have h2 := (List.all_eq_true.1 h) j (List.mem_range.2 hj)
    rw [e] at h2; simp at h2
  match i, hi with
  | 0, _ =>
    obtain rfl : ord11o0 = o := Option.some.inj (show ord11Ops[0]? = some _ from ho)
    have qb3 := (bas 3 (by kernel_rfl)).trans h3
    have eb3 := eval_at qb3
    refine inv_val (G := (ord11K n b B q m cq zw 0).P) (R := fun x y => Below x.heap.size x y) (wanted_none rfl) (v := .int .i64 (n : Nat)) (w2 := x) (by simp only [execOp, ord11o0, eb3]; go_simp) hK rfl (Below.refl _ _)
  | 1, _ =>
    obtain rfl : ord11o1 = o := Option.some.inj (show ord11Ops[1]? = some _ from ho)
    obtain ⟨t0, g0⟩ := dep 0 (by kernel_rfl)
    have q0 := t0 71 (by rfl)
    have e0 := eval_at q0
    have w0 : f 0 = .int .i64 (n : Nat) := g0
    rw [w0] at e0
    rw [w0] at q0
    refine inv_val (G := (ord11K n b B q m cq zw 1).P) (R := fun x y => Below x.heap.size x y) (wanted_none rfl) (v := .int .i64 (((n : Nat) : Int) / 4)) (w2 := x) (by simp only [execOp, ord11o1, e0]; go_simp) hK ⟨_, rfl⟩ (Below.refl _ _)
  | 2, _ =>
    obtain rfl : ord11o2 = o := Option.some.inj (show ord11Ops[2]? = some _ from ho)
    obtain ⟨t1, g1⟩ := dep 1 (by kernel_rfl)
    have q1 := t1 72 (by rfl)
    have e1 := eval_at q1
    obtain ⟨z, hz⟩ := g1
    rw [hz] at e1
    refine inv_val (G := (ord11K n b B q m cq zw 2).P) (R := fun x y => Below x.heap.size x y) (wanted_none rfl) (v := .int .i64 (bits BinOp.and IntKind.i64 z 3)) (w2 := x) (by simp only [execOp, ord11o2, e1]; go_simp) hK ⟨_, rfl⟩ (Below.refl _ _)
  | 3, _ =>
    obtain rfl : ord11o3 = o := Option.some.inj (show ord11Ops[3]? = some _ from ho)
    obtain ⟨t2, g2⟩ := dep 2 (by kernel_rfl)
    have q2 := t2 73 (by rfl)
    have e2 := eval_at q2
    obtain ⟨z, hz⟩ := g2
    rw [hz] at q2
    refine inv_call (G := (ord11K n b B q m cq zw 3).P) (R := fun x y => Below x.heap.size x y) (wanted_none rfl) (F := 31) (args := #[.int .i64 z]) (by simp [go_sem, ord11o3, q2]) hK ?_
    refine (hgrp z x).mono ?_
    rintro e y ⟨nx, rfl, h1, h2, h3⟩
    exact ⟨_, rfl, ⟨nx, rfl, h1, h2⟩, h3⟩
  | 4, _ =>
    obtain rfl : ord11o4 = o := Option.some.inj (show ord11Ops[4]? = some _ from ho)
    have qb4 := (bas 4 (by kernel_rfl)).trans h4
    have eb4 := eval_at qb4
    have hc0 := keep_cellK hR hb0
    have hc1 := keep_cellK hR hb1
    refine inv_val (G := (ord11K n b B q m cq zw 4).P) (R := fun x y => Below x.heap.size x y) (wanted_none rfl) (v := .agg #[.slice q m cq, .slice none 0 0]) (w2 := x) (by simp only [execOp, ord11o4, eb4]; go_simp) hK rfl (Below.refl _ _)
  | 5, _ =>
    obtain rfl : ord11o5 = o := Option.some.inj (show ord11Ops[5]? = some _ from ho)
    obtain ⟨t4, g4⟩ := dep 4 (by kernel_rfl)
    have q4 := t4 75 (by rfl)
    have e4 := eval_at q4
    have w4 : f 4 = .agg #[.slice q m cq, .slice none 0 0] := g4
    rw [w4] at e4
    rw [w4] at q4
    refine inv_val (G := (ord11K n b B q m cq zw 5).P) (R := fun x y => Below x.heap.size x y) (wanted_none rfl) (v := .slice (some ⟨x.heap.size, 0, none⟩) 1 1) (w2 := x.alloc (.cells #[.slice q m cq, .slice none 0 0] 34)) (by simp only [execOp, ord11o5]; go_simp) hK ⟨_, rfl, Bx.new _ _ _⟩ (bl_alloc _ _)
  | 6, _ =>
    obtain rfl : ord11o6 = o := Option.some.inj (show ord11Ops[6]? = some _ from ho)
    obtain ⟨t3, g3⟩ := dep 3 (by kernel_rfl)
    have q3 := t3 74 (by rfl)
    have e3 := eval_at q3
    obtain ⟨t5, g5⟩ := dep 5 (by kernel_rfl)
    have q5 := t5 76 (by rfl)
    have e5 := eval_at q5
    obtain ⟨nx, hv, hi, hf⟩ := g3
    obtain ⟨bb, hvb, hbx⟩ := g5
    rw [hv] at q3
    rw [hvb] at q5
    refine inv_call (G := (ord11K n b B q m cq zw 6).P) (R := fun x y => Below x.heap.size x y) (wanted_none rfl) (F := 10) (args := #[.agg (encN nx).toArray, .slice (some ⟨bb, 0, none⟩) 1 1]) (by simp [go_sem, ord11o6, q3, q5]) hK ?_
    refine (hjoin nx bb x hR hi hf hbx).mono ?_
    rintro e y ⟨q1, c1, ys1, rfl, h1, h⟩
    exact ⟨_, rfl, ⟨q1, c1, ys1, rfl, h1⟩, h⟩
  | 7, _ =>
    obtain rfl : ord11o7 = o := Option.some.inj (show ord11Ops[7]? = some _ from ho)
    refine inv_val (G := (ord11K n b B q m cq zw 7).P) (R := fun x y => Below x.heap.size x y) (wanted_none rfl) (v := .pointer (some ⟨x.heap.size, 0, none⟩)) (w2 := x.alloc (.cells #[.slice none 0 0, .slice none 0 0] 34)) (by simp only [execOp, ord11o7]; go_simp) hK ⟨_, rfl, (hzw ▸ hR.size), Bx.new _ _ _⟩ (bl_alloc _ _)
  | 8, _ => exact absurd (show ord11Pre.getD 8 false = true from hp) (by decide)
set_option maxHeartbeats 3200000 in
set_option maxRecDepth 100000 in
theorem ord11_all {Q : Exit → Act → World → Prop} {a0 : Act} {w : World} (n : Nat) (b B : Nat) (q : Option Addr) (m cq : Nat) (zw : Nat) (hsize : a0.tmps.size = 125) (h3 : a0.tmps[3]? = some (.int .i64 (n : Nat))) (h4 : a0.tmps[4]? = some (.pointer (some ⟨b, 0, none⟩))) (hb0 : w.drew.cell? ⟨b, 0, none⟩ = some (.slice q m cq)) (hb1 : w.drew.cell? ⟨b, 1, none⟩ = some (.slice none 0 0))
    (hgrp : ∀ (c : Int) (V : World), Calls Tryz.prog 31 #[.int .i64 c] V fun e w' => ∃ x : NV, e = .returned (.agg (encN x).toArray) ∧ NodeIn w' x ∧ FwN x.nd ∧ Below V.heap.size V w')
    (hjoin : ∀ (x : NV) (bb : Nat) (V : World), Below w.drew.heap.size w.drew V → NodeIn V x → FwN x.nd → Bx V bb 34 #[.slice q m cq, .slice none 0 0] → Calls Tryz.prog 10 #[.agg (encN x).toArray, .slice (some ⟨bb, 0, none⟩) 1 1] V fun e w' => ∃ q' cq' ys', e = .returned (.agg #[.slice q' (m + 1) cq', .slice none 0 0]) ∧ TW w' B q' (m + 1) cq' ys' ∧ Below V.heap.size V w') (hzw : zw = w.drew.heap.size)
    (fin : ∀ (f : Nat → Value) (b : Nat) (q' : Option Addr) (m' cq' : Nat) (y y2 : World), f 6 = .agg #[.slice q' m' cq', .slice none 0 0] → (∀ j, j < 9 → ord11Pre.getD j false = true → (ord11K n b B q m cq zw j).P (f j) y) → w.drew.heap.size ≤ b → Below w.drew.heap.size w.drew y → Below w.drew.heap.size w.drew y2 → y2 = (y.setCell ⟨b, 0, none⟩ (.slice q' m' cq')).setCell ⟨b, 1, none⟩ (.slice none 0 0) → Bx y b 34 #[.slice none 0 0, .slice none 0 0] → Bx y2 b 34 #[.slice q' m' cq', .slice none 0 0] → Q .normal (putL a0 [(71, f 0), (72, f 1), (73, f 2), (74, f 3), (75, f 4), (76, f 5), (77, .agg #[.slice q' m' cq', .slice none 0 0]), (5, .pointer (some ⟨b, 0, none⟩))]) y2) (id : Nat) :
    (Code.region id ord11Ops true).wp Tryz.prog Q a0 w := by
  refine ord11_wp n b B q m cq zw hsize h3 h4 hb0 hb1 hgrp hjoin hzw ?_ id
  intro f y hk hb
  obtain ⟨b, hp, hzb, hbx⟩ : (Kc.box _ 34 #[.slice none 0 0, .slice none 0 0]).P (f 7) y := hk 7 (by decide) (by decide)
  have kv := hk 6 (by decide) (by decide)
  obtain ⟨q', m', cq', hv⟩ : ∃ q m cq, f 6 = .agg #[.slice q m cq, .slice none 0 0] := by obtain ⟨q, cq, ys, hv, _⟩ := kv; exact ⟨_, _, _, hv⟩
  rw [hp, hv]
  have get : ∀ s v, (s, v) ∈ [(71, f 0), (72, f 1), (73, f 2), (74, f 3), (75, f 4), (76, f 5), (77, .agg #[.slice q' m' cq', .slice none 0 0]), (5, .pointer (some ⟨b, 0, none⟩))] → (putL a0 [(71, f 0), (72, f 1), (73, f 2), (74, f 3), (75, f 4), (76, f 5), (77, .agg #[.slice q' m' cq', .slice none 0 0]), (5, .pointer (some ⟨b, 0, none⟩))]).tmps[s]? = some v := fun s v hm => (putL_get _ a0 s (by simp) (by rw [hsize]; simp)).2 v hm
  have gp := eval_at (get 5 (.pointer (some ⟨b, 0, none⟩)) (by simp))
  have gv := eval_at (get 77 (.agg #[.slice q' m' cq', .slice none 0 0]) (by simp))
  generalize hl : ([(71, f 0), (72, f 1), (73, f 2), (74, f 3), (75, f 4), (76, f 5), (77, .agg #[.slice q' m' cq', .slice none 0 0]), (5, .pointer (some ⟨b, 0, none⟩))] : List (Nat × Value)) = L at gp gv ⊢
  have b0 : y.cell? ⟨b, 0, none⟩ = some (.slice none 0 0) := hbx.cell rfl
  have b1 : y.cell? ⟨b, 1, none⟩ = some (.slice none 0 0) := hbx.cell rfl
  have hlt := hbx.lt
  have f0 := hbx.free 0
  have f1 := hbx.free 1
  refine any_one (i := 8) (o := ord11o8) (by kernel_rfl) rfl ?_
  refine inv_skip (wanted_none rfl) (w2 := (y.setCell ⟨b, 0, none⟩ (.slice q' m' cq')).setCell ⟨b, 1, none⟩ (.slice none 0 0)) (by simp only [execOp, ord11o8, gp, gv]; go_simp) ?_
  refine any_end (by kernel_rfl) ?_ 0
  show Q .normal (putL a0 L) _
  subst hl
  have hx2 : Bx ((y.setCell ⟨b, 0, none⟩ (.slice q' m' cq')).setCell ⟨b, 1, none⟩ (.slice none 0 0)) b 34 #[.slice q' m' cq', .slice none 0 0] := (hbx.set 0 (.slice q' m' cq')).set 1 (.slice none 0 0)
  exact fin f b q' m' cq' y _ hv hk (by first | exact hzb | (show _ ≤ b; omega)) hb ((hb.setCell (p := ⟨b, 0, none⟩) (by show _ ≤ b; first | exact hzb | omega) _).setCell (p := ⟨b, 1, none⟩) (by show _ ≤ b; first | exact hzb | omega) _) rfl hbx hx2
def ord13o0 : Oper := ⟨some 83, Op.move (.tmp 3), 3, "law.go:123", #[], none⟩
def ord13o1 : Oper := ⟨some 84, Op.binOp BinOp.shr 3 (.tmp 83) (.const (.int .u64 6)) 49, 3, "law.go:123", #[⟨0, .data⟩], none⟩
def ord13o2 : Oper := ⟨some 85, Op.call ⟨.value (.func 31), #[.tmp 84], #[3]⟩, 28, "law.go:123", #[⟨1, .data⟩], none⟩
def ord13o3 : Oper := ⟨some 86, Op.load 34 (.tmp 6), 34, "law.go:123", #[], none⟩
def ord13o4 : Oper := ⟨some 87, Op.buildSlice 29 1 #[(0, .tmp 86)], 29, "law.go:123", #[⟨3, .data⟩], none⟩
def ord13o5 : Oper := ⟨some 88, Op.call { callee := Callee.value (.func 10), args := #[.tmp 85, .tmp 87], argTypes := #[28, 29] }, 34, "law.go:123", #[⟨2, .data⟩, ⟨4, .data⟩, ⟨2, .chain⟩], none⟩
def ord13o6 : Oper := ⟨some 7, Op.alloc 34, 0, "law.go:123", #[], none⟩
def ord13o7 : Oper := ⟨none, Op.store 34 (.tmp 7) (.tmp 88), 0, "law.go:123", #[⟨6, .data⟩, ⟨5, .data⟩, ⟨5, .chain⟩, ⟨0, .phase⟩, ⟨1, .phase⟩, ⟨2, .phase⟩, ⟨3, .phase⟩, ⟨4, .phase⟩, ⟨5, .phase⟩, ⟨6, .phase⟩], none⟩
def ord13Ops : Array Oper := #[ord13o0, ord13o1, ord13o2, ord13o3, ord13o4, ord13o5, ord13o6, ord13o7]
def ord13Pre : Array Bool := #[true, true, true, true, true, true, true, false]
def ord13K (n : Nat) (_b B : Nat) (q : Option Addr) (m cq : Nat) (zw : Nat) : Nat → Kc
  | 0 => Kc.val (.int .i64 (n : Nat))
  | 1 => Kc.num
  | 2 => Kc.node
  | 3 => Kc.val (.agg #[.slice q m cq, .slice none 0 0])
  | 4 => Kc.row1 34 #[.slice q m cq, .slice none 0 0]
  | 5 => Kc.treeW B (m + 1)
  | 6 => Kc.box zw 34 #[.slice none 0 0, .slice none 0 0]
  | _ => Kc.val undef
theorem ord13_slots (f : Nat → Value) : slotsOf ord13Ops ord13Pre f = [(83, f 0), (84, f 1), (85, f 2), (86, f 3), (87, f 4), (88, f 5), (7, f 6)] := by kernel_rfl
set_option maxHeartbeats 6400000 in
set_option maxRecDepth 100000 in
theorem ord13_wp {Q : Exit → Act → World → Prop} {a0 : Act} {w : World} (n : Nat) (b B : Nat) (q : Option Addr) (m cq : Nat) (zw : Nat) (hsize : a0.tmps.size = 125) (h3 : a0.tmps[3]? = some (.int .i64 (n : Nat))) (h6 : a0.tmps[6]? = some (.pointer (some ⟨b, 0, none⟩))) (hb0 : w.drew.cell? ⟨b, 0, none⟩ = some (.slice q m cq)) (hb1 : w.drew.cell? ⟨b, 1, none⟩ = some (.slice none 0 0))
    (hgrp : ∀ (c : Int) (V : World), Calls Tryz.prog 31 #[.int .i64 c] V fun e w' => ∃ x : NV, e = .returned (.agg (encN x).toArray) ∧ NodeIn w' x ∧ FwN x.nd ∧ Below V.heap.size V w')
    (hjoin : ∀ (x : NV) (bb : Nat) (V : World), Below w.drew.heap.size w.drew V → NodeIn V x → FwN x.nd → Bx V bb 34 #[.slice q m cq, .slice none 0 0] → Calls Tryz.prog 10 #[.agg (encN x).toArray, .slice (some ⟨bb, 0, none⟩) 1 1] V fun e w' => ∃ q' cq' ys', e = .returned (.agg #[.slice q' (m + 1) cq', .slice none 0 0]) ∧ TW w' B q' (m + 1) cq' ys' ∧ Below V.heap.size V w') (hzw : zw = w.drew.heap.size)
    (fin : ∀ (f : Nat → Value) (y : World), (∀ j, j < 8 → ord13Pre.getD j false = true → (ord13K n b B q m cq zw j).P (f j) y) → Below w.drew.heap.size w.drew y → wpAny Tryz.prog .any ord13Ops Q 1 ord13Pre (putL a0 [(83, f 0), (84, f 1), (85, f 2), (86, f 3), (87, f 4), (88, f 5), (7, f 6)]) y) (id : Nat) :
    (Code.region id ord13Ops true).wp Tryz.prog Q a0 w := by
  refine wp_region_inv ord13Pre (fun j => (ord13K n b B q m cq zw j).P) (fun x y => Below x.heap.size x y) 7 1 (by kernel_rfl) (by kernel_rfl) (by rw [hsize]; kernel_rfl) (by kernel_rfl) (by kernel_rfl) (Below.refl _ _) (fun _ _ _ h1 h2 => bl_trans h1 h2) (fun j _ _ _ h1 h2 => (ord13K n b B q m cq zw j).keep h1 h2) ?_ (fun f y h1 h2 => by rw [ord13_slots]; exact fin f y h1 h2)
  intro i o ho hp f a x hR hbase hdeps K hK
  have hi : i < 8 := by
    rcases Nat.lt_or_ge i 8 with h | h
    · exact h
    · have : ord13Ops.size ≤ i := h
      rw [Array.getElem?_eq_none this] at ho; cases ho
  have dep : ∀ j, (o.after.any fun e => Region.binds .any e && e.on == j) = true → (∀ s, slotOf ord13Ops j = some s → a.tmps[s]? = some (f j)) ∧ (ord13K n b B q m cq zw j).P (f j) x := by
    intro j h
    obtain ⟨e, he, h2⟩ := Array.any_eq_true'.1 h
    simp only [Bool.and_eq_true, beq_iff_eq] at h2
    obtain ⟨h3, rfl⟩ := h2
    exact hdeps e he h3
  have bas : ∀ s, ((List.range ord13Ops.size).all fun j => slotOf ord13Ops j != some s) = true → a.tmps[s]? = a0.tmps[s]? := by
    intro s h
    refine hbase s fun j hj _ e => ?_
    have h2 := (List.all_eq_true.1 h) j (List.mem_range.2 hj)
    rw [e] at h2; simp at h2
  match i, hi with
  | 0, _ =>
    obtain rfl : ord13o0 = o := Option.some.inj (show ord13Ops[0]? = some _ from ho)
    have qb3 := (bas 3 (by kernel_rfl)).trans h3
    have eb3 := eval_at qb3
    refine inv_val (G := (ord13K n b B q m cq zw 0).P) (R := fun x y => Below x.heap.size x y) (wanted_none rfl) (v := .int .i64 (n : Nat)) (w2 := x) (by simp only [execOp, ord13o0, eb3]; go_simp) hK rfl (Below.refl _ _)
  | 1, _ =>
    obtain rfl : ord13o1 = o := Option.some.inj (show ord13Ops[1]? = some _ from ho)
    obtain ⟨t0, g0⟩ := dep 0 (by kernel_rfl)
    have q0 := t0 83 (by rfl)
    have e0 := eval_at q0
    have w0 : f 0 = .int .i64 (n : Nat) := g0
    rw [w0] at e0
    rw [w0] at q0
    refine inv_val (G := (ord13K n b B q m cq zw 1).P) (R := fun x y => Below x.heap.size x y) (wanted_none rfl) (v := .int .i64 (((n : Nat) : Int) / 64)) (w2 := x) (by simp only [execOp, ord13o1, e0]; go_simp) hK ⟨_, rfl⟩ (Below.refl _ _)
  | 2, _ =>
    obtain rfl : ord13o2 = o := Option.some.inj (show ord13Ops[2]? = some _ from ho)
    obtain ⟨t1, g1⟩ := dep 1 (by kernel_rfl)
    have q1 := t1 84 (by rfl)
    have e1 := eval_at q1
    obtain ⟨z, hz⟩ := g1
    rw [hz] at q1
    refine inv_call (G := (ord13K n b B q m cq zw 2).P) (R := fun x y => Below x.heap.size x y) (wanted_none rfl) (F := 31) (args := #[.int .i64 z]) (by simp [go_sem, ord13o2, q1]) hK ?_
    refine (hgrp z x).mono ?_
    rintro e y ⟨nx, rfl, h1, h2, h3⟩
    exact ⟨_, rfl, ⟨nx, rfl, h1, h2⟩, h3⟩
  | 3, _ =>
    obtain rfl : ord13o3 = o := Option.some.inj (show ord13Ops[3]? = some _ from ho)
    have qb6 := (bas 6 (by kernel_rfl)).trans h6
    have eb6 := eval_at qb6
    have hc0 := keep_cellK hR hb0
    have hc1 := keep_cellK hR hb1
    refine inv_val (G := (ord13K n b B q m cq zw 3).P) (R := fun x y => Below x.heap.size x y) (wanted_none rfl) (v := .agg #[.slice q m cq, .slice none 0 0]) (w2 := x) (by simp only [execOp, ord13o3, eb6]; go_simp) hK rfl (Below.refl _ _)
  | 4, _ =>
    obtain rfl : ord13o4 = o := Option.some.inj (show ord13Ops[4]? = some _ from ho)
    obtain ⟨t3, g3⟩ := dep 3 (by kernel_rfl)
    have q3 := t3 86 (by rfl)
    have e3 := eval_at q3
    have w3 : f 3 = .agg #[.slice q m cq, .slice none 0 0] := g3
    rw [w3] at e3
    rw [w3] at q3
    refine inv_val (G := (ord13K n b B q m cq zw 4).P) (R := fun x y => Below x.heap.size x y) (wanted_none rfl) (v := .slice (some ⟨x.heap.size, 0, none⟩) 1 1) (w2 := x.alloc (.cells #[.slice q m cq, .slice none 0 0] 34)) (by simp only [execOp, ord13o4]; go_simp) hK ⟨_, rfl, Bx.new _ _ _⟩ (bl_alloc _ _)
  | 5, _ =>
    obtain rfl : ord13o5 = o := Option.some.inj (show ord13Ops[5]? = some _ from ho)
    obtain ⟨t2, g2⟩ := dep 2 (by kernel_rfl)
    have q2 := t2 85 (by rfl)
    have e2 := eval_at q2
    obtain ⟨t4, g4⟩ := dep 4 (by kernel_rfl)
    have q4 := t4 87 (by rfl)
    have e4 := eval_at q4
    obtain ⟨nx, hv, hi, hf⟩ := g2
    obtain ⟨bb, hvb, hbx⟩ := g4
    rw [hv] at q2
    rw [hvb] at q4
    refine inv_call (G := (ord13K n b B q m cq zw 5).P) (R := fun x y => Below x.heap.size x y) (wanted_none rfl) (F := 10) (args := #[.agg (encN nx).toArray, .slice (some ⟨bb, 0, none⟩) 1 1]) (by simp [go_sem, ord13o5, q2, q4]) hK ?_
    refine (hjoin nx bb x hR hi hf hbx).mono ?_
    rintro e y ⟨q1, c1, ys1, rfl, h1, h⟩
    exact ⟨_, rfl, ⟨q1, c1, ys1, rfl, h1⟩, h⟩
  | 6, _ =>
    obtain rfl : ord13o6 = o := Option.some.inj (show ord13Ops[6]? = some _ from ho)
    refine inv_val (G := (ord13K n b B q m cq zw 6).P) (R := fun x y => Below x.heap.size x y) (wanted_none rfl) (v := .pointer (some ⟨x.heap.size, 0, none⟩)) (w2 := x.alloc (.cells #[.slice none 0 0, .slice none 0 0] 34)) (by simp only [execOp, ord13o6]; go_simp) hK ⟨_, rfl, (hzw ▸ hR.size), Bx.new _ _ _⟩ (bl_alloc _ _)
  | 7, _ => exact absurd (show ord13Pre.getD 7 false = true from hp) (by decide)
set_option maxHeartbeats 3200000 in
set_option maxRecDepth 100000 in
theorem ord13_all {Q : Exit → Act → World → Prop} {a0 : Act} {w : World} (n : Nat) (b B : Nat) (q : Option Addr) (m cq : Nat) (zw : Nat) (hsize : a0.tmps.size = 125) (h3 : a0.tmps[3]? = some (.int .i64 (n : Nat))) (h6 : a0.tmps[6]? = some (.pointer (some ⟨b, 0, none⟩))) (hb0 : w.drew.cell? ⟨b, 0, none⟩ = some (.slice q m cq)) (hb1 : w.drew.cell? ⟨b, 1, none⟩ = some (.slice none 0 0))
    (hgrp : ∀ (c : Int) (V : World), Calls Tryz.prog 31 #[.int .i64 c] V fun e w' => ∃ x : NV, e = .returned (.agg (encN x).toArray) ∧ NodeIn w' x ∧ FwN x.nd ∧ Below V.heap.size V w')
    (hjoin : ∀ (x : NV) (bb : Nat) (V : World), Below w.drew.heap.size w.drew V → NodeIn V x → FwN x.nd → Bx V bb 34 #[.slice q m cq, .slice none 0 0] → Calls Tryz.prog 10 #[.agg (encN x).toArray, .slice (some ⟨bb, 0, none⟩) 1 1] V fun e w' => ∃ q' cq' ys', e = .returned (.agg #[.slice q' (m + 1) cq', .slice none 0 0]) ∧ TW w' B q' (m + 1) cq' ys' ∧ Below V.heap.size V w') (hzw : zw = w.drew.heap.size)
    (fin : ∀ (f : Nat → Value) (b : Nat) (q' : Option Addr) (m' cq' : Nat) (y y2 : World), f 5 = .agg #[.slice q' m' cq', .slice none 0 0] → (∀ j, j < 8 → ord13Pre.getD j false = true → (ord13K n b B q m cq zw j).P (f j) y) → w.drew.heap.size ≤ b → Below w.drew.heap.size w.drew y → Below w.drew.heap.size w.drew y2 → y2 = (y.setCell ⟨b, 0, none⟩ (.slice q' m' cq')).setCell ⟨b, 1, none⟩ (.slice none 0 0) → Bx y b 34 #[.slice none 0 0, .slice none 0 0] → Bx y2 b 34 #[.slice q' m' cq', .slice none 0 0] → Q .normal (putL a0 [(83, f 0), (84, f 1), (85, f 2), (86, f 3), (87, f 4), (88, .agg #[.slice q' m' cq', .slice none 0 0]), (7, .pointer (some ⟨b, 0, none⟩))]) y2) (id : Nat) :
    (Code.region id ord13Ops true).wp Tryz.prog Q a0 w := by
  refine ord13_wp n b B q m cq zw hsize h3 h6 hb0 hb1 hgrp hjoin hzw ?_ id
  intro f y hk hb
  obtain ⟨b, hp, hzb, hbx⟩ : (Kc.box _ 34 #[.slice none 0 0, .slice none 0 0]).P (f 6) y := hk 6 (by decide) (by decide)
  have kv := hk 5 (by decide) (by decide)
  obtain ⟨q', m', cq', hv⟩ : ∃ q m cq, f 5 = .agg #[.slice q m cq, .slice none 0 0] := by obtain ⟨q, cq, ys, hv, _⟩ := kv; exact ⟨_, _, _, hv⟩
  rw [hp, hv]
  have get : ∀ s v, (s, v) ∈ [(83, f 0), (84, f 1), (85, f 2), (86, f 3), (87, f 4), (88, .agg #[.slice q' m' cq', .slice none 0 0]), (7, .pointer (some ⟨b, 0, none⟩))] → (putL a0 [(83, f 0), (84, f 1), (85, f 2), (86, f 3), (87, f 4), (88, .agg #[.slice q' m' cq', .slice none 0 0]), (7, .pointer (some ⟨b, 0, none⟩))]).tmps[s]? = some v := fun s v hm => (putL_get _ a0 s (by simp) (by rw [hsize]; simp)).2 v hm
  have gp := eval_at (get 7 (.pointer (some ⟨b, 0, none⟩)) (by simp))
  have gv := eval_at (get 88 (.agg #[.slice q' m' cq', .slice none 0 0]) (by simp))
  generalize hl : ([(83, f 0), (84, f 1), (85, f 2), (86, f 3), (87, f 4), (88, .agg #[.slice q' m' cq', .slice none 0 0]), (7, .pointer (some ⟨b, 0, none⟩))] : List (Nat × Value)) = L at gp gv ⊢
  have b0 : y.cell? ⟨b, 0, none⟩ = some (.slice none 0 0) := hbx.cell rfl
  have b1 : y.cell? ⟨b, 1, none⟩ = some (.slice none 0 0) := hbx.cell rfl
  have hlt := hbx.lt
  have f0 := hbx.free 0
  have f1 := hbx.free 1
  refine any_one (i := 7) (o := ord13o7) (by kernel_rfl) rfl ?_
  refine inv_skip (wanted_none rfl) (w2 := (y.setCell ⟨b, 0, none⟩ (.slice q' m' cq')).setCell ⟨b, 1, none⟩ (.slice none 0 0)) (by simp only [execOp, ord13o7, gp, gv]; go_simp) ?_
  refine any_end (by kernel_rfl) ?_ 0
  show Q .normal (putL a0 L) _
  subst hl
  have hx2 : Bx ((y.setCell ⟨b, 0, none⟩ (.slice q' m' cq')).setCell ⟨b, 1, none⟩ (.slice none 0 0)) b 34 #[.slice q' m' cq', .slice none 0 0] := (hbx.set 0 (.slice q' m' cq')).set 1 (.slice none 0 0)
  exact fin f b q' m' cq' y _ hv hk (by first | exact hzb | (show _ ≤ b; omega)) hb ((hb.setCell (p := ⟨b, 0, none⟩) (by show _ ≤ b; first | exact hzb | omega) _).setCell (p := ⟨b, 1, none⟩) (by show _ ≤ b; first | exact hzb | omega) _) rfl hbx hx2
def end9o0 : Oper := ⟨some 35, Op.call ⟨.value (.func 31), #[.const (.int .i64 2)], #[3]⟩, 28, "law.go:143", #[], none⟩
def end9o1 : Oper := ⟨some 36, Op.load 34 (.tmp 4), 34, "law.go:143", #[], none⟩
def end9o2 : Oper := ⟨some 37, Op.buildSlice 29 1 #[(0, .tmp 36)], 29, "law.go:143", #[⟨1, .data⟩], none⟩
def end9o3 : Oper := ⟨some 38, Op.call { callee := Callee.value (.func 10), args := #[.tmp 35, .tmp 37], argTypes := #[28, 29] }, 34, "law.go:143", #[⟨0, .data⟩, ⟨2, .data⟩, ⟨0, .chain⟩], none⟩
def end9o4 : Oper := ⟨some 5, Op.alloc 34, 0, "law.go:143", #[], none⟩
def end9o5 : Oper := ⟨none, Op.store 34 (.tmp 5) (.tmp 38), 0, "law.go:143", #[⟨4, .data⟩, ⟨3, .data⟩, ⟨3, .chain⟩, ⟨0, .phase⟩, ⟨1, .phase⟩, ⟨2, .phase⟩, ⟨3, .phase⟩, ⟨4, .phase⟩], none⟩
def end9Ops : Array Oper := #[end9o0, end9o1, end9o2, end9o3, end9o4, end9o5]
def end9Pre : Array Bool := #[true, true, true, true, true, false]
def end9K (_b B : Nat) (q : Option Addr) (m cq : Nat) (zw : Nat) : Nat → Kc
  | 0 => Kc.node
  | 1 => Kc.val (.agg #[.slice q m cq, .slice none 0 0])
  | 2 => Kc.row1 34 #[.slice q m cq, .slice none 0 0]
  | 3 => Kc.treeW B (m + 1)
  | 4 => Kc.box zw 34 #[.slice none 0 0, .slice none 0 0]
  | _ => Kc.val undef
theorem end9_slots (f : Nat → Value) : slotsOf end9Ops end9Pre f = [(35, f 0), (36, f 1), (37, f 2), (38, f 3), (5, f 4)] := by kernel_rfl
set_option maxHeartbeats 6400000 in
set_option maxRecDepth 100000 in
theorem end9_wp {Q : Exit → Act → World → Prop} {a0 : Act} {w : World} (b B : Nat) (q : Option Addr) (m cq : Nat) (zw : Nat) (hsize : a0.tmps.size = 156) (h4 : a0.tmps[4]? = some (.pointer (some ⟨b, 0, none⟩))) (hb0 : w.drew.cell? ⟨b, 0, none⟩ = some (.slice q m cq)) (hb1 : w.drew.cell? ⟨b, 1, none⟩ = some (.slice none 0 0))
    (hgrp : ∀ (c : Int) (V : World), Calls Tryz.prog 31 #[.int .i64 c] V fun e w' => ∃ x : NV, e = .returned (.agg (encN x).toArray) ∧ NodeIn w' x ∧ FwN x.nd ∧ Below V.heap.size V w')
    (hjoin : ∀ (x : NV) (bb : Nat) (V : World), Below w.drew.heap.size w.drew V → NodeIn V x → FwN x.nd → Bx V bb 34 #[.slice q m cq, .slice none 0 0] → Calls Tryz.prog 10 #[.agg (encN x).toArray, .slice (some ⟨bb, 0, none⟩) 1 1] V fun e w' => ∃ q' cq' ys', e = .returned (.agg #[.slice q' (m + 1) cq', .slice none 0 0]) ∧ TW w' B q' (m + 1) cq' ys' ∧ Below V.heap.size V w') (hzw : zw = w.drew.heap.size)
    (fin : ∀ (f : Nat → Value) (y : World), (∀ j, j < 6 → end9Pre.getD j false = true → (end9K b B q m cq zw j).P (f j) y) → Below w.drew.heap.size w.drew y → wpAny Tryz.prog .any end9Ops Q 1 end9Pre (putL a0 [(35, f 0), (36, f 1), (37, f 2), (38, f 3), (5, f 4)]) y) (id : Nat) :
    (Code.region id end9Ops true).wp Tryz.prog Q a0 w := by
  refine wp_region_inv end9Pre (fun j => (end9K b B q m cq zw j).P) (fun x y => Below x.heap.size x y) 5 1 (by kernel_rfl) (by kernel_rfl) (by rw [hsize]; kernel_rfl) (by kernel_rfl) (by kernel_rfl) (Below.refl _ _) (fun _ _ _ h1 h2 => bl_trans h1 h2) (fun j _ _ _ h1 h2 => (end9K b B q m cq zw j).keep h1 h2) ?_ (fun f y h1 h2 => by rw [end9_slots]; exact fin f y h1 h2)
  intro i o ho hp f a x hR hbase hdeps K hK
  have hi : i < 6 := by
    rcases Nat.lt_or_ge i 6 with h | h
    · exact h
    · have : end9Ops.size ≤ i := h
      rw [Array.getElem?_eq_none this] at ho; cases ho
  have dep : ∀ j, (o.after.any fun e => Region.binds .any e && e.on == j) = true → (∀ s, slotOf end9Ops j = some s → a.tmps[s]? = some (f j)) ∧ (end9K b B q m cq zw j).P (f j) x := by
    intro j h
    obtain ⟨e, he, h2⟩ := Array.any_eq_true'.1 h
    simp only [Bool.and_eq_true, beq_iff_eq] at h2
    obtain ⟨h3, rfl⟩ := h2
    exact hdeps e he h3
  have bas : ∀ s, ((List.range end9Ops.size).all fun j => slotOf end9Ops j != some s) = true → a.tmps[s]? = a0.tmps[s]? := by
    intro s h
    refine hbase s fun j hj _ e => ?_
    have h2 := (List.all_eq_true.1 h) j (List.mem_range.2 hj)
    rw [e] at h2; simp at h2
  match i, hi with
  | 0, _ =>
    obtain rfl : end9o0 = o := Option.some.inj (show end9Ops[0]? = some _ from ho)
    refine inv_call (G := (end9K b B q m cq zw 0).P) (R := fun x y => Below x.heap.size x y) (wanted_none rfl) (F := 31) (args := #[.int .i64 2]) (by simp [go_sem, end9o0]) hK ?_
    refine (hgrp 2 x).mono ?_
    rintro e y ⟨nx, rfl, h1, h2, h3⟩
    exact ⟨_, rfl, ⟨nx, rfl, h1, h2⟩, h3⟩
  | 1, _ =>
    obtain rfl : end9o1 = o := Option.some.inj (show end9Ops[1]? = some _ from ho)
    have qb4 := (bas 4 (by kernel_rfl)).trans h4
    have eb4 := eval_at qb4
    have hc0 := keep_cellK hR hb0
    have hc1 := keep_cellK hR hb1
    refine inv_val (G := (end9K b B q m cq zw 1).P) (R := fun x y => Below x.heap.size x y) (wanted_none rfl) (v := .agg #[.slice q m cq, .slice none 0 0]) (w2 := x) (by simp only [execOp, end9o1, eb4]; go_simp) hK rfl (Below.refl _ _)
  | 2, _ =>
    obtain rfl : end9o2 = o := Option.some.inj (show end9Ops[2]? = some _ from ho)
    obtain ⟨t1, g1⟩ := dep 1 (by kernel_rfl)
    have q1 := t1 36 (by rfl)
    have e1 := eval_at q1
    have w1 : f 1 = .agg #[.slice q m cq, .slice none 0 0] := g1
    rw [w1] at e1
    rw [w1] at q1
    refine inv_val (G := (end9K b B q m cq zw 2).P) (R := fun x y => Below x.heap.size x y) (wanted_none rfl) (v := .slice (some ⟨x.heap.size, 0, none⟩) 1 1) (w2 := x.alloc (.cells #[.slice q m cq, .slice none 0 0] 34)) (by simp only [execOp, end9o2]; go_simp) hK ⟨_, rfl, Bx.new _ _ _⟩ (bl_alloc _ _)
  | 3, _ =>
    obtain rfl : end9o3 = o := Option.some.inj (show end9Ops[3]? = some _ from ho)
    obtain ⟨t0, g0⟩ := dep 0 (by kernel_rfl)
    have q0 := t0 35 (by rfl)
    have e0 := eval_at q0
    obtain ⟨t2, g2⟩ := dep 2 (by kernel_rfl)
    have q2 := t2 37 (by rfl)
    have e2 := eval_at q2
    obtain ⟨nx, hv, hi, hf⟩ := g0
    obtain ⟨bb, hvb, hbx⟩ := g2
    rw [hv] at q0
    rw [hvb] at q2
    refine inv_call (G := (end9K b B q m cq zw 3).P) (R := fun x y => Below x.heap.size x y) (wanted_none rfl) (F := 10) (args := #[.agg (encN nx).toArray, .slice (some ⟨bb, 0, none⟩) 1 1]) (by simp [go_sem, end9o3, q0, q2]) hK ?_
    refine (hjoin nx bb x hR hi hf hbx).mono ?_
    rintro e y ⟨q1, c1, ys1, rfl, h1, h⟩
    exact ⟨_, rfl, ⟨q1, c1, ys1, rfl, h1⟩, h⟩
  | 4, _ =>
    obtain rfl : end9o4 = o := Option.some.inj (show end9Ops[4]? = some _ from ho)
    refine inv_val (G := (end9K b B q m cq zw 4).P) (R := fun x y => Below x.heap.size x y) (wanted_none rfl) (v := .pointer (some ⟨x.heap.size, 0, none⟩)) (w2 := x.alloc (.cells #[.slice none 0 0, .slice none 0 0] 34)) (by simp only [execOp, end9o4]; go_simp) hK ⟨_, rfl, (hzw ▸ hR.size), Bx.new _ _ _⟩ (bl_alloc _ _)
  | 5, _ => exact absurd (show end9Pre.getD 5 false = true from hp) (by decide)
set_option maxHeartbeats 3200000 in
set_option maxRecDepth 100000 in
theorem end9_all {Q : Exit → Act → World → Prop} {a0 : Act} {w : World} (b B : Nat) (q : Option Addr) (m cq : Nat) (zw : Nat) (hsize : a0.tmps.size = 156) (h4 : a0.tmps[4]? = some (.pointer (some ⟨b, 0, none⟩))) (hb0 : w.drew.cell? ⟨b, 0, none⟩ = some (.slice q m cq)) (hb1 : w.drew.cell? ⟨b, 1, none⟩ = some (.slice none 0 0))
    (hgrp : ∀ (c : Int) (V : World), Calls Tryz.prog 31 #[.int .i64 c] V fun e w' => ∃ x : NV, e = .returned (.agg (encN x).toArray) ∧ NodeIn w' x ∧ FwN x.nd ∧ Below V.heap.size V w')
    (hjoin : ∀ (x : NV) (bb : Nat) (V : World), Below w.drew.heap.size w.drew V → NodeIn V x → FwN x.nd → Bx V bb 34 #[.slice q m cq, .slice none 0 0] → Calls Tryz.prog 10 #[.agg (encN x).toArray, .slice (some ⟨bb, 0, none⟩) 1 1] V fun e w' => ∃ q' cq' ys', e = .returned (.agg #[.slice q' (m + 1) cq', .slice none 0 0]) ∧ TW w' B q' (m + 1) cq' ys' ∧ Below V.heap.size V w') (hzw : zw = w.drew.heap.size)
    (fin : ∀ (f : Nat → Value) (b : Nat) (q' : Option Addr) (m' cq' : Nat) (y y2 : World), f 3 = .agg #[.slice q' m' cq', .slice none 0 0] → (∀ j, j < 6 → end9Pre.getD j false = true → (end9K b B q m cq zw j).P (f j) y) → w.drew.heap.size ≤ b → Below w.drew.heap.size w.drew y → Below w.drew.heap.size w.drew y2 → y2 = (y.setCell ⟨b, 0, none⟩ (.slice q' m' cq')).setCell ⟨b, 1, none⟩ (.slice none 0 0) → Bx y b 34 #[.slice none 0 0, .slice none 0 0] → Bx y2 b 34 #[.slice q' m' cq', .slice none 0 0] → Q .normal (putL a0 [(35, f 0), (36, f 1), (37, f 2), (38, .agg #[.slice q' m' cq', .slice none 0 0]), (5, .pointer (some ⟨b, 0, none⟩))]) y2) (id : Nat) :
    (Code.region id end9Ops true).wp Tryz.prog Q a0 w := by
  refine end9_wp b B q m cq zw hsize h4 hb0 hb1 hgrp hjoin hzw ?_ id
  intro f y hk hb
  obtain ⟨b, hp, hzb, hbx⟩ : (Kc.box _ 34 #[.slice none 0 0, .slice none 0 0]).P (f 4) y := hk 4 (by decide) (by decide)
  have kv := hk 3 (by decide) (by decide)
  obtain ⟨q', m', cq', hv⟩ : ∃ q m cq, f 3 = .agg #[.slice q m cq, .slice none 0 0] := by obtain ⟨q, cq, ys, hv, _⟩ := kv; exact ⟨_, _, _, hv⟩
  rw [hp, hv]
  have get : ∀ s v, (s, v) ∈ [(35, f 0), (36, f 1), (37, f 2), (38, .agg #[.slice q' m' cq', .slice none 0 0]), (5, .pointer (some ⟨b, 0, none⟩))] → (putL a0 [(35, f 0), (36, f 1), (37, f 2), (38, .agg #[.slice q' m' cq', .slice none 0 0]), (5, .pointer (some ⟨b, 0, none⟩))]).tmps[s]? = some v := fun s v hm => (putL_get _ a0 s (by simp) (by rw [hsize]; simp)).2 v hm
  have gp := eval_at (get 5 (.pointer (some ⟨b, 0, none⟩)) (by simp))
  have gv := eval_at (get 38 (.agg #[.slice q' m' cq', .slice none 0 0]) (by simp))
  generalize hl : ([(35, f 0), (36, f 1), (37, f 2), (38, .agg #[.slice q' m' cq', .slice none 0 0]), (5, .pointer (some ⟨b, 0, none⟩))] : List (Nat × Value)) = L at gp gv ⊢
  have b0 : y.cell? ⟨b, 0, none⟩ = some (.slice none 0 0) := hbx.cell rfl
  have b1 : y.cell? ⟨b, 1, none⟩ = some (.slice none 0 0) := hbx.cell rfl
  have hlt := hbx.lt
  have f0 := hbx.free 0
  have f1 := hbx.free 1
  refine any_one (i := 5) (o := end9o5) (by kernel_rfl) rfl ?_
  refine inv_skip (wanted_none rfl) (w2 := (y.setCell ⟨b, 0, none⟩ (.slice q' m' cq')).setCell ⟨b, 1, none⟩ (.slice none 0 0)) (by simp only [execOp, end9o5, gp, gv]; go_simp) ?_
  refine any_end (by kernel_rfl) ?_ 0
  show Q .normal (putL a0 L) _
  subst hl
  have hx2 : Bx ((y.setCell ⟨b, 0, none⟩ (.slice q' m' cq')).setCell ⟨b, 1, none⟩ (.slice none 0 0)) b 34 #[.slice q' m' cq', .slice none 0 0] := (hbx.set 0 (.slice q' m' cq')).set 1 (.slice none 0 0)
  exact fin f b q' m' cq' y _ hv hk (by first | exact hzb | (show _ ≤ b; omega)) hb ((hb.setCell (p := ⟨b, 0, none⟩) (by show _ ≤ b; first | exact hzb | omega) _).setCell (p := ⟨b, 1, none⟩) (by show _ ≤ b; first | exact hzb | omega) _) rfl hbx hx2
end Go.Proofs.YtjpccmiaimkmbaaGreat


namespace Go.Proofs.YtjpccmiaimkmbaaGreat
open Go.RowKit Tnr Tnt

def Kc.rowc (n : Nat) (T : TypeId) (cs : Array Value) : Kc := ⟨fun v w => ∃ b : Nat, v = .slice (some ⟨b, 0, none⟩) n n ∧ Bx w b T cs, fun ⟨b, h1, h2⟩ hb => ⟨b, h1, h2.below hb⟩⟩
def Kc.ptrc (j : Nat) (T : TypeId) (cs : Array Value) : Kc := ⟨fun v w => ∃ b : Nat, v = .pointer (some ⟨b, j, none⟩) ∧ Bx w b T cs, fun ⟨b, h1, h2⟩ hb => ⟨b, h1, h2.below hb⟩⟩
theorem bx_apartK {w : World} {b b' : Nat} {T T' : TypeId} {cs cs' : Array Value} (h : Bx w b T cs) (h' : Bx w b' T' cs') (hT : T ≠ T') : b ≠ b' := fun e => by
  unfold Bx at h h'
  rw [e, h'] at h
  simp only [Option.some.injEq, Obj.cells.injEq] at h
  exact hT h.2.1.symm
def end12o0 : Oper := ⟨some 47, Op.move (.tmp 1), 32, "law.go:146", #[], none⟩
def end12o1 : Oper := ⟨some 48, Op.move (.tmp 2), 3, "law.go:146", #[], none⟩
def end12o2 : Oper := ⟨some 49, Op.indexAddr 32 (.tmp 47) (.tmp 48), 0, "law.go:146", #[⟨0, .data⟩, ⟨1, .data⟩], none⟩
def end12o3 : Oper := ⟨some 50, Op.load 9 (.tmp 49), 9, "law.go:146", #[⟨2, .data⟩], none⟩
def end12o4 : Oper := ⟨some 51, Op.move (.tmp 1), 32, "law.go:146", #[], none⟩
def end12o5 : Oper := ⟨some 52, Op.move (.tmp 3), 3, "law.go:146", #[], none⟩
def end12o6 : Oper := ⟨some 53, Op.indexAddr 32 (.tmp 51) (.tmp 52), 0, "law.go:146", #[⟨4, .data⟩, ⟨5, .data⟩], none⟩
def end12o7 : Oper := ⟨some 54, Op.load 9 (.tmp 53), 9, "law.go:146", #[⟨6, .data⟩], none⟩
def end12o8 : Oper := ⟨some 55, Op.buildSlice 32 2 #[(0, .tmp 50), (1, .tmp 54)], 32, "law.go:146", #[⟨3, .data⟩, ⟨7, .data⟩], none⟩
def end12o9 : Oper := ⟨some 56, Op.fieldAddr 34 (.tmp 5) 1, 0, "law.go:146", #[⟨0, .phase⟩, ⟨1, .phase⟩, ⟨2, .phase⟩, ⟨3, .phase⟩, ⟨4, .phase⟩, ⟨5, .phase⟩, ⟨6, .phase⟩, ⟨7, .phase⟩, ⟨8, .phase⟩], none⟩
def end12o10 : Oper := ⟨none, Op.store 32 (.tmp 56) (.tmp 55), 0, "law.go:146", #[⟨9, .data⟩, ⟨8, .data⟩, ⟨0, .phase⟩, ⟨1, .phase⟩, ⟨2, .phase⟩, ⟨3, .phase⟩, ⟨4, .phase⟩, ⟨5, .phase⟩, ⟨6, .phase⟩, ⟨7, .phase⟩, ⟨8, .phase⟩], none⟩
def end12Ops : Array Oper := #[end12o0, end12o1, end12o2, end12o3, end12o4, end12o5, end12o6, end12o7, end12o8, end12o9, end12o10]
def end12Pre : Array Bool := #[true, true, true, true, true, true, true, true, true, false, false]
def end12K (bG ix kx _b5 : Nat) (s1 s2 : ByteArray) : Nat → Kc
  | 0 => Kc.val (.slice (some ⟨bG, 0, none⟩) 11 11)
  | 1 => Kc.val (.int .i64 ((ix : Nat) : Int))
  | 2 => Kc.val (.pointer (some ⟨bG, ix, none⟩))
  | 3 => Kc.val (.string s1)
  | 4 => Kc.val (.slice (some ⟨bG, 0, none⟩) 11 11)
  | 5 => Kc.val (.int .i64 ((kx : Nat) : Int))
  | 6 => Kc.val (.pointer (some ⟨bG, kx, none⟩))
  | 7 => Kc.val (.string s2)
  | 8 => Kc.rowc 2 9 #[.string s1, .string s2]
  | _ => Kc.val undef
theorem end12_slots (f : Nat → Value) : slotsOf end12Ops end12Pre f = [(47, f 0), (48, f 1), (49, f 2), (50, f 3), (51, f 4), (52, f 5), (53, f 6), (54, f 7), (55, f 8)] := by kernel_rfl
set_option maxHeartbeats 6400000 in
set_option maxRecDepth 100000 in
theorem end12_wp {Q : Exit → Act → World → Prop} {a0 : Act} {w : World} (bG ix kx b5 : Nat) (s1 s2 : ByteArray) (hsize : a0.tmps.size = 156) (h1 : a0.tmps[1]? = some (.slice (some ⟨bG, 0, none⟩) 11 11)) (h2 : a0.tmps[2]? = some (.int .i64 (ix : Nat))) (h3 : a0.tmps[3]? = some (.int .i64 (kx : Nat))) (hix : ix < 11) (hkx : kx < 11) (hc1 : w.drew.cell? ⟨bG, ix, none⟩ = some (.string s1)) (hc2 : w.drew.cell? ⟨bG, kx, none⟩ = some (.string s2))
    (fin : ∀ (f : Nat → Value) (y : World), (∀ j, j < 11 → end12Pre.getD j false = true → (end12K bG ix kx b5 s1 s2 j).P (f j) y) → Below w.drew.heap.size w.drew y → wpAny Tryz.prog .any end12Ops Q 2 end12Pre (putL a0 [(47, f 0), (48, f 1), (49, f 2), (50, f 3), (51, f 4), (52, f 5), (53, f 6), (54, f 7), (55, f 8)]) y) (id : Nat) :
    (Code.region id end12Ops true).wp Tryz.prog Q a0 w := by
  refine wp_region_inv end12Pre (fun j => (end12K bG ix kx b5 s1 s2 j).P) (fun x y => Below x.heap.size x y) 9 2 (by kernel_rfl) (by kernel_rfl) (by rw [hsize]; kernel_rfl) (by kernel_rfl) (by kernel_rfl) (Below.refl _ _) (fun _ _ _ h1 h2 => bl_trans h1 h2) (fun j _ _ _ h1 h2 => (end12K bG ix kx b5 s1 s2 j).keep h1 h2) ?_ (fun f y h1 h2 => by rw [end12_slots]; exact fin f y h1 h2)
  intro i o ho hp f a x hR hbase hdeps K hK
  have hi : i < 11 := by
    rcases Nat.lt_or_ge i 11 with h | h
    · exact h
    · have : end12Ops.size ≤ i := h
      rw [Array.getElem?_eq_none this] at ho; cases ho
  have dep : ∀ j, (o.after.any fun e => Region.binds .any e && e.on == j) = true → (∀ s, slotOf end12Ops j = some s → a.tmps[s]? = some (f j)) ∧ (end12K bG ix kx b5 s1 s2 j).P (f j) x := by
    intro j h
    obtain ⟨e, he, h2⟩ := Array.any_eq_true'.1 h
    simp only [Bool.and_eq_true, beq_iff_eq] at h2
    obtain ⟨h3, rfl⟩ := h2
    exact hdeps e he h3
  have bas : ∀ s, ((List.range end12Ops.size).all fun j => slotOf end12Ops j != some s) = true → a.tmps[s]? = a0.tmps[s]? := by
    intro s h
    refine hbase s fun j hj _ e => ?_
    have h2 := (List.all_eq_true.1 h) j (List.mem_range.2 hj)
    rw [e] at h2; simp at h2
  match i, hi with
  | 0, _ =>
    obtain rfl : end12o0 = o := Option.some.inj (show end12Ops[0]? = some _ from ho)
    have qb1 := (bas 1 (by kernel_rfl)).trans h1
    have eb1 := eval_at qb1
    refine inv_val (G := (end12K bG ix kx b5 s1 s2 0).P) (R := fun x y => Below x.heap.size x y) (wanted_none rfl) (v := .slice (some ⟨bG, 0, none⟩) 11 11) (w2 := x) (by simp only [execOp, end12o0, eb1]; go_simp) hK rfl (Below.refl _ _)
  | 1, _ =>
    obtain rfl : end12o1 = o := Option.some.inj (show end12Ops[1]? = some _ from ho)
    have qb2 := (bas 2 (by kernel_rfl)).trans h2
    have eb2 := eval_at qb2
    refine inv_val (G := (end12K bG ix kx b5 s1 s2 1).P) (R := fun x y => Below x.heap.size x y) (wanted_none rfl) (v := .int .i64 ((ix : Nat) : Int)) (w2 := x) (by simp only [execOp, end12o1, eb2]; go_simp) hK rfl (Below.refl _ _)
  | 2, _ =>
    obtain rfl : end12o2 = o := Option.some.inj (show end12Ops[2]? = some _ from ho)
    obtain ⟨t0, g0⟩ := dep 0 (by kernel_rfl)
    have q0 := t0 47 (by rfl)
    have e0 := eval_at q0
    have w0 : f 0 = .slice (some ⟨bG, 0, none⟩) 11 11 := g0
    rw [w0] at e0
    rw [w0] at q0
    obtain ⟨t1, g1⟩ := dep 1 (by kernel_rfl)
    have q1 := t1 48 (by rfl)
    have e1 := eval_at q1
    have w1 : f 1 = .int .i64 ((ix : Nat) : Int) := g1
    rw [w1] at e1
    rw [w1] at q1
    have hiI : ((ix : Nat) : Int) < 11 := by omega
    refine inv_val (G := (end12K bG ix kx b5 s1 s2 2).P) (R := fun x y => Below x.heap.size x y) (wanted_none rfl) (v := .pointer (some ⟨bG, ix, none⟩)) (w2 := x) (by simp only [execOp, end12o2, e0, e1]; go_simp) hK rfl (Below.refl _ _)
  | 3, _ =>
    obtain rfl : end12o3 = o := Option.some.inj (show end12Ops[3]? = some _ from ho)
    obtain ⟨t2, g2⟩ := dep 2 (by kernel_rfl)
    have q2 := t2 49 (by rfl)
    have e2 := eval_at q2
    have w2 : f 2 = .pointer (some ⟨bG, ix, none⟩) := g2
    rw [w2] at e2
    rw [w2] at q2
    have hci := keep_cellK hR hc1
    refine inv_val (G := (end12K bG ix kx b5 s1 s2 3).P) (R := fun x y => Below x.heap.size x y) (wanted_none rfl) (v := .string s1) (w2 := x) (by simp only [execOp, end12o3, e2]; go_simp) hK rfl (Below.refl _ _)
  | 4, _ =>
    obtain rfl : end12o4 = o := Option.some.inj (show end12Ops[4]? = some _ from ho)
    have qb1 := (bas 1 (by kernel_rfl)).trans h1
    have eb1 := eval_at qb1
    refine inv_val (G := (end12K bG ix kx b5 s1 s2 4).P) (R := fun x y => Below x.heap.size x y) (wanted_none rfl) (v := .slice (some ⟨bG, 0, none⟩) 11 11) (w2 := x) (by simp only [execOp, end12o4, eb1]; go_simp) hK rfl (Below.refl _ _)
  | 5, _ =>
    obtain rfl : end12o5 = o := Option.some.inj (show end12Ops[5]? = some _ from ho)
    have qb3 := (bas 3 (by kernel_rfl)).trans h3
    have eb3 := eval_at qb3
    refine inv_val (G := (end12K bG ix kx b5 s1 s2 5).P) (R := fun x y => Below x.heap.size x y) (wanted_none rfl) (v := .int .i64 ((kx : Nat) : Int)) (w2 := x) (by simp only [execOp, end12o5, eb3]; go_simp) hK rfl (Below.refl _ _)
  | 6, _ =>
    obtain rfl : end12o6 = o := Option.some.inj (show end12Ops[6]? = some _ from ho)
    obtain ⟨t4, g4⟩ := dep 4 (by kernel_rfl)
    have q4 := t4 51 (by rfl)
    have e4 := eval_at q4
    have w4 : f 4 = .slice (some ⟨bG, 0, none⟩) 11 11 := g4
    rw [w4] at e4
    rw [w4] at q4
    obtain ⟨t5, g5⟩ := dep 5 (by kernel_rfl)
    have q5 := t5 52 (by rfl)
    have e5 := eval_at q5
    have w5 : f 5 = .int .i64 ((kx : Nat) : Int) := g5
    rw [w5] at e5
    rw [w5] at q5
    have hkI : ((kx : Nat) : Int) < 11 := by omega
    refine inv_val (G := (end12K bG ix kx b5 s1 s2 6).P) (R := fun x y => Below x.heap.size x y) (wanted_none rfl) (v := .pointer (some ⟨bG, kx, none⟩)) (w2 := x) (by simp only [execOp, end12o6, e4, e5]; go_simp) hK rfl (Below.refl _ _)
  | 7, _ =>
    obtain rfl : end12o7 = o := Option.some.inj (show end12Ops[7]? = some _ from ho)
    obtain ⟨t6, g6⟩ := dep 6 (by kernel_rfl)
    have q6 := t6 53 (by rfl)
    have e6 := eval_at q6
    have w6 : f 6 = .pointer (some ⟨bG, kx, none⟩) := g6
    rw [w6] at e6
    rw [w6] at q6
    have hck := keep_cellK hR hc2
    refine inv_val (G := (end12K bG ix kx b5 s1 s2 7).P) (R := fun x y => Below x.heap.size x y) (wanted_none rfl) (v := .string s2) (w2 := x) (by simp only [execOp, end12o7, e6]; go_simp) hK rfl (Below.refl _ _)
  | 8, _ =>
    obtain rfl : end12o8 = o := Option.some.inj (show end12Ops[8]? = some _ from ho)
    obtain ⟨t3, g3⟩ := dep 3 (by kernel_rfl)
    have q3 := t3 50 (by rfl)
    have e3 := eval_at q3
    have w3 : f 3 = .string s1 := g3
    rw [w3] at e3
    rw [w3] at q3
    obtain ⟨t7, g7⟩ := dep 7 (by kernel_rfl)
    have q7 := t7 54 (by rfl)
    have e7 := eval_at q7
    have w7 : f 7 = .string s2 := g7
    rw [w7] at e7
    rw [w7] at q7
    refine inv_val (G := (end12K bG ix kx b5 s1 s2 8).P) (R := fun x y => Below x.heap.size x y) (wanted_none rfl) (v := .slice (some ⟨x.heap.size, 0, none⟩) 2 2) (w2 := x.alloc (.cells #[.string s1, .string s2] 9)) (by simp only [execOp, end12o8]; go_simp) hK ⟨_, rfl, Bx.new _ _ _⟩ (bl_alloc _ _)
  | 9, _ => exact absurd (show end12Pre.getD 9 false = true from hp) (by decide)
  | 10, _ => exact absurd (show end12Pre.getD 10 false = true from hp) (by decide)
set_option maxHeartbeats 3200000 in
set_option maxRecDepth 100000 in
theorem end12_all {Q : Exit → Act → World → Prop} {a0 : Act} {w : World} (bG ix kx b5 : Nat) (s1 s2 : ByteArray) {q : Option Addr} {m cq z : Nat} (hsize : a0.tmps.size = 156) (h5 : a0.tmps[5]? = some (.pointer (some ⟨b5, 0, none⟩))) (h1 : a0.tmps[1]? = some (.slice (some ⟨bG, 0, none⟩) 11 11)) (h2 : a0.tmps[2]? = some (.int .i64 (ix : Nat))) (h3 : a0.tmps[3]? = some (.int .i64 (kx : Nat))) (hix : ix < 11) (hkx : kx < 11) (hc1 : w.drew.cell? ⟨bG, ix, none⟩ = some (.string s1)) (hc2 : w.drew.cell? ⟨bG, kx, none⟩ = some (.string s2)) (hx : Bx w.drew b5 34 #[.slice q m cq, .slice none 0 0]) (_hz : z ≤ b5)
    (fin : ∀ (f : Nat → Value) (y : World) (ge : Nat), Below w.drew.heap.size w.drew y → Bx y ge 9 #[.string s1, .string s2] → ge ≠ b5 → Q .normal ((putL a0 [(47, f 0), (48, f 1), (49, f 2), (50, f 3), (51, f 4), (52, f 5), (53, f 6), (54, f 7), (55, .slice (some ⟨ge, 0, none⟩) 2 2)]).put (some 56) (.pointer (some ⟨b5, 1, none⟩))) (y.setCell ⟨b5, 1, none⟩ (.slice (some ⟨ge, 0, none⟩) 2 2))) (id : Nat) :
    (Code.region id end12Ops true).wp Tryz.prog Q a0 w := by
  refine end12_wp bG ix kx b5 s1 s2 hsize h1 h2 h3 hix hkx hc1 hc2 ?_ id
  intro f y hk hb
  obtain ⟨ge, hv, hge⟩ : (Kc.rowc 2 9 #[.string s1, .string s2]).P (f 8) y := hk 8 (by decide) (by decide)
  have hxy := hx.below hb
  have hne : ge ≠ b5 := bx_apartK hge hxy (by decide)
  rw [hv]
  have get : ∀ s v, (s, v) ∈ [(47, f 0), (48, f 1), (49, f 2), (50, f 3), (51, f 4), (52, f 5), (53, f 6), (54, f 7), (55, .slice (some ⟨ge, 0, none⟩) 2 2)] → (putL a0 [(47, f 0), (48, f 1), (49, f 2), (50, f 3), (51, f 4), (52, f 5), (53, f 6), (54, f 7), (55, .slice (some ⟨ge, 0, none⟩) 2 2)]).tmps[s]? = some v := fun s v hm => (putL_get _ a0 s (by simp) (by rw [hsize]; simp)).2 v hm
  have g5 : (putL a0 [(47, f 0), (48, f 1), (49, f 2), (50, f 3), (51, f 4), (52, f 5), (53, f 6), (54, f 7), (55, .slice (some ⟨ge, 0, none⟩) 2 2)]).tmps[5]? = some (.pointer (some ⟨b5, 0, none⟩)) := ((putL_get _ a0 5 (by simp) (by rw [hsize]; simp)).1 (by simp)).trans h5
  have e5 := eval_at g5
  have gv := get 55 (.slice (some ⟨ge, 0, none⟩) 2 2) (by simp)
  have hsz : (putL a0 [(47, f 0), (48, f 1), (49, f 2), (50, f 3), (51, f 4), (52, f 5), (53, f 6), (54, f 7), (55, .slice (some ⟨ge, 0, none⟩) 2 2)]).tmps.size = 156 := by rw [putL_size]; exact hsize
  have fin2 := fin f y ge hb hge hne
  generalize ([(47, f 0), (48, f 1), (49, f 2), (50, f 3), (51, f 4), (52, f 5), (53, f 6), (54, f 7), (55, .slice (some ⟨ge, 0, none⟩) 2 2)] : List (Nat × Value)) = L at g5 e5 gv hsz fin2 ⊢
  refine any_one (i := 9) (o := end12o9) (by kernel_rfl) rfl ?_
  refine inv_val (G := fun v w => v = .pointer (some ⟨b5, 1, none⟩) ∧ w = y) (R := fun _ _ => True) (wanted_none rfl) (a := putL a0 L) (v := .pointer (some ⟨b5, 1, none⟩)) (w2 := y) (by simp only [execOp, end12o9, e5]; go_simp) ?_ ⟨rfl, rfl⟩ trivial
  rintro u y2 ⟨rfl, rfl⟩ _
  have gp : ((putL a0 L).put (some 56) (.pointer (some ⟨b5, 1, none⟩))).tmps[56]? = some (.pointer (some ⟨b5, 1, none⟩)) := by
    show ((putL a0 L).tmps.setIfInBounds 56 _)[56]? = _
    rw [Array.getElem?_setIfInBounds, if_pos rfl, if_pos (by rw [hsz]; decide)]
  have gv2 : ((putL a0 L).put (some 56) (.pointer (some ⟨b5, 1, none⟩))).tmps[55]? = some (.slice (some ⟨ge, 0, none⟩) 2 2) := by
    show ((putL a0 L).tmps.setIfInBounds 56 _)[55]? = _
    rw [Array.getElem?_setIfInBounds, if_neg (by decide)]; exact gv
  have ep := eval_at gp
  have ev := eval_at gv2
  have b1 : y2.cell? ⟨b5, 1, none⟩ = some (.slice none 0 0) := hxy.cell rfl
  have f1 := hxy.free 1
  have hlt := hxy.lt
  show wpAny _ _ _ _ _ _ ((putL a0 L).put (some 56) (.pointer (some ⟨b5, 1, none⟩))) _
  refine any_one (i := 10) (o := end12o10) (by kernel_rfl) rfl ?_
  refine inv_skip (wanted_none rfl) (w2 := y2.setCell ⟨b5, 1, none⟩ (.slice (some ⟨ge, 0, none⟩) 2 2)) (by simp only [execOp, end12o10, ep, ev]; go_simp) ?_
  exact any_end (by kernel_rfl) fin2 0
def end37o0 : Oper := ⟨some 117, Op.load 34 (.tmp 11), 34, "law.go:170", #[], none⟩
def end37o1 : Oper := ⟨some 118, Op.call ⟨.value (.func 28), #[.tmp 117], #[34]⟩, 4, "law.go:170", #[⟨0, .data⟩], none⟩
def end37o2 : Oper := ⟨some 119, Op.move (.tmp 10), 3, "law.go:170", #[], none⟩
def end37o3 : Oper := ⟨some 120, Op.binOp BinOp.lss 3 (.tmp 119) (.const (.int .i64 4000)) 3, 4, "law.go:170", #[⟨2, .data⟩], none⟩
def end37o4 : Oper := ⟨some 121, Op.binOp BinOp.neq 4 (.tmp 118) (.tmp 120) 4, 4, "law.go:170", #[⟨1, .data⟩, ⟨3, .data⟩], none⟩
def end37o5 : Oper := ⟨some 122, Op.move (.tmp 121), 4, "law.go:170", #[⟨4, .data⟩, ⟨1, .chain⟩], none⟩
def end37o6 : Oper := ⟨some 123, Op.load 34 (.tmp 11), 34, "law.go:170", #[⟨5, .guard⟩], some (5, false)⟩
def end37o7 : Oper := ⟨some 124, Op.call ⟨.value (.func 30), #[.tmp 123], #[34]⟩, 3, "law.go:170", #[⟨6, .data⟩, ⟨5, .chain⟩, ⟨5, .guard⟩], some (5, false)⟩
def end37o8 : Oper := ⟨some 125, Op.buildSlice 24 2 #[(0, .const (.int .i64 2)), (1, .const (.int .i64 0))], 24, "law.go:170", #[⟨5, .guard⟩], some (5, false)⟩
def end37o9 : Oper := ⟨some 126, Op.move (.tmp 10), 3, "law.go:170", #[⟨5, .guard⟩], some (5, false)⟩
def end37o10 : Oper := ⟨some 127, Op.binOp BinOp.quo 3 (.tmp 126) (.const (.int .i64 4000)) 3, 3, "law.go:170", #[⟨9, .data⟩, ⟨5, .guard⟩], some (5, false)⟩
def end37o11 : Oper := ⟨some 128, Op.indexAddr 24 (.tmp 125) (.tmp 127), 0, "law.go:170", #[⟨8, .data⟩, ⟨10, .data⟩, ⟨5, .guard⟩], some (5, false)⟩
def end37o12 : Oper := ⟨some 129, Op.load 3 (.tmp 128), 3, "law.go:170", #[⟨11, .data⟩, ⟨5, .guard⟩], some (5, false)⟩
def end37o13 : Oper := ⟨some 130, Op.binOp BinOp.neq 3 (.tmp 124) (.tmp 129) 3, 4, "law.go:170", #[⟨7, .data⟩, ⟨12, .data⟩, ⟨5, .guard⟩], some (5, false)⟩
def end37o14 : Oper := ⟨some 131, Op.pick (.tmp 122) (.const (Value.bool true)) (.tmp 130), 4, "law.go:170", #[⟨5, .data⟩, ⟨13, .data⟩], none⟩
def end37Ops : Array Oper := #[end37o0, end37o1, end37o2, end37o3, end37o4, end37o5, end37o6, end37o7, end37o8, end37o9, end37o10, end37o11, end37o12, end37o13, end37o14]
def end37Pre : Array Bool := #[true, true, true, true, true, true, true, true, true, true, true, true, true, true, true]
def end37K (n _b : Nat) (q : Option Addr) (m cq jx dx : Nat) (rb : Bool) : Nat → Kc
  | 0 => Kc.val (.agg #[.slice q m cq, .slice none 0 0])
  | 1 => Kc.val (.bool rb)
  | 2 => Kc.val (.int .i64 ((n : Nat) : Int))
  | 3 => Kc.val (.bool rb)
  | 4 => Kc.val (.bool false)
  | 5 => Kc.val (.bool false)
  | 6 => Kc.val (.agg #[.slice q m cq, .slice none 0 0])
  | 7 => Kc.val (.int .i64 ((dx : Nat) : Int))
  | 8 => Kc.rowc 2 3 #[.int .i64 2, .int .i64 0]
  | 9 => Kc.val (.int .i64 ((n : Nat) : Int))
  | 10 => Kc.val (.int .i64 ((jx : Nat) : Int))
  | 11 => Kc.ptrc jx 3 #[.int .i64 2, .int .i64 0]
  | 12 => Kc.val (.int .i64 ((dx : Nat) : Int))
  | 13 => Kc.val (.bool false)
  | 14 => Kc.val (.bool false)
  | _ => Kc.val undef
theorem end37_slots (f : Nat → Value) : slotsOf end37Ops end37Pre f = [(117, f 0), (118, f 1), (119, f 2), (120, f 3), (121, f 4), (122, f 5), (123, f 6), (124, f 7), (125, f 8), (126, f 9), (127, f 10), (128, f 11), (129, f 12), (130, f 13), (131, f 14)] := by kernel_rfl
set_option maxHeartbeats 6400000 in
set_option maxRecDepth 100000 in
theorem end37_wp {Q : Exit → Act → World → Prop} {a0 : Act} {w : World} (n b : Nat) (q : Option Addr) (m cq jx dx : Nat) (rb : Bool) (hsize : a0.tmps.size = 156) (h10 : a0.tmps[10]? = some (.int .i64 (n : Nat))) (h11 : a0.tmps[11]? = some (.pointer (some ⟨b, 0, none⟩))) (hb0 : w.drew.cell? ⟨b, 0, none⟩ = some (.slice q m cq)) (hb1 : w.drew.cell? ⟨b, 1, none⟩ = some (.slice none 0 0))
    (hrb : decide (((n : Nat) : Int) < 4000) = rb) (hq : IntKind.i64.wrap (((n : Nat) : Int) / 4000) = ((jx : Nat) : Int)) (hjd : jx = 0 ∧ dx = 2 ∨ jx = 1 ∧ dx = 0)
    (hright : ∀ V, Below w.drew.heap.size w.drew V → Calls Tryz.prog 28 #[.agg #[.slice q m cq, .slice none 0 0]] V fun e w' => e = .returned (.bool rb) ∧ Below V.heap.size V w')
    (hdeep : ∀ V, Below w.drew.heap.size w.drew V → Calls Tryz.prog 30 #[.agg #[.slice q m cq, .slice none 0 0]] V fun e w' => e = .returned (.int .i64 ((dx : Nat) : Int)) ∧ Below V.heap.size V w')
    (fin : ∀ (f : Nat → Value) (y : World), (∀ j, j < 15 → end37Pre.getD j false = true → (end37K n b q m cq jx dx rb j).P (f j) y) → Below w.drew.heap.size w.drew y → Q .normal (putL a0 [(117, f 0), (118, f 1), (119, f 2), (120, f 3), (121, f 4), (122, f 5), (123, f 6), (124, f 7), (125, f 8), (126, f 9), (127, f 10), (128, f 11), (129, f 12), (130, f 13), (131, f 14)]) y) (id : Nat) :
    (Code.region id end37Ops true).wp Tryz.prog Q a0 w := by
  refine wp_region_inv end37Pre (fun j => (end37K n b q m cq jx dx rb j).P) (fun x y => Below x.heap.size x y) 15 0 (by kernel_rfl) (by kernel_rfl) (by rw [hsize]; kernel_rfl) (by kernel_rfl) (by kernel_rfl) (Below.refl _ _) (fun _ _ _ h1 h2 => bl_trans h1 h2) (fun j _ _ _ h1 h2 => (end37K n b q m cq jx dx rb j).keep h1 h2) ?_ (fun f y h1 h2 => by rw [end37_slots]; exact any_end (by kernel_rfl) (fin f y h1 h2) 0)
  intro i o ho hp f a x hR hbase hdeps K hK
  have hi : i < 15 := by
    rcases Nat.lt_or_ge i 15 with h | h
    · exact h
    · have : end37Ops.size ≤ i := h
      rw [Array.getElem?_eq_none this] at ho; cases ho
  have dep : ∀ j, (o.after.any fun e => Region.binds .any e && e.on == j) = true → (∀ s, slotOf end37Ops j = some s → a.tmps[s]? = some (f j)) ∧ (end37K n b q m cq jx dx rb j).P (f j) x := by
    intro j h
    obtain ⟨e, he, h2⟩ := Array.any_eq_true'.1 h
    simp only [Bool.and_eq_true, beq_iff_eq] at h2
    obtain ⟨h3, rfl⟩ := h2
    exact hdeps e he h3
  have bas : ∀ s, ((List.range end37Ops.size).all fun j => slotOf end37Ops j != some s) = true → a.tmps[s]? = a0.tmps[s]? := by
    intro s h
    refine hbase s fun j hj _ e => ?_
    have h2 := (List.all_eq_true.1 h) j (List.mem_range.2 hj)
    rw [e] at h2; simp at h2
  match i, hi with
  | 0, _ =>
    obtain rfl : end37o0 = o := Option.some.inj (show end37Ops[0]? = some _ from ho)
    have qb11 := (bas 11 (by kernel_rfl)).trans h11
    have eb11 := eval_at qb11
    have hc0 := keep_cellK hR hb0
    have hc1 := keep_cellK hR hb1
    refine inv_val (G := (end37K n b q m cq jx dx rb 0).P) (R := fun x y => Below x.heap.size x y) (wanted_none rfl) (v := .agg #[.slice q m cq, .slice none 0 0]) (w2 := x) (by simp only [execOp, end37o0, eb11]; go_simp) hK rfl (Below.refl _ _)
  | 1, _ =>
    obtain rfl : end37o1 = o := Option.some.inj (show end37Ops[1]? = some _ from ho)
    obtain ⟨t0, g0⟩ := dep 0 (by kernel_rfl)
    have q0 := t0 117 (by rfl)
    have e0 := eval_at q0
    have w0 : f 0 = .agg #[.slice q m cq, .slice none 0 0] := g0
    rw [w0] at e0
    rw [w0] at q0
    refine inv_call (G := (end37K n b q m cq jx dx rb 1).P) (R := fun x y => Below x.heap.size x y) (wanted_none rfl) (F := 28) (args := #[.agg #[.slice q m cq, .slice none 0 0]]) (by simp [go_sem, end37o1, q0]) hK ?_
    refine (hright x hR).mono ?_
    rintro e y ⟨rfl, h⟩
    exact ⟨_, rfl, rfl, h⟩
  | 2, _ =>
    obtain rfl : end37o2 = o := Option.some.inj (show end37Ops[2]? = some _ from ho)
    have qb10 := (bas 10 (by kernel_rfl)).trans h10
    have eb10 := eval_at qb10
    refine inv_val (G := (end37K n b q m cq jx dx rb 2).P) (R := fun x y => Below x.heap.size x y) (wanted_none rfl) (v := .int .i64 ((n : Nat) : Int)) (w2 := x) (by simp only [execOp, end37o2, eb10]; go_simp) hK rfl (Below.refl _ _)
  | 3, _ =>
    obtain rfl : end37o3 = o := Option.some.inj (show end37Ops[3]? = some _ from ho)
    obtain ⟨t2, g2⟩ := dep 2 (by kernel_rfl)
    have q2 := t2 119 (by rfl)
    have e2 := eval_at q2
    have w2 : f 2 = .int .i64 ((n : Nat) : Int) := g2
    rw [w2] at e2
    rw [w2] at q2
    refine inv_val (G := (end37K n b q m cq jx dx rb 3).P) (R := fun x y => Below x.heap.size x y) (wanted_none rfl) (v := .bool rb) (w2 := x) (by simp only [execOp, end37o3, e2]; go_simp) hK rfl (Below.refl _ _)
  | 4, _ =>
    obtain rfl : end37o4 = o := Option.some.inj (show end37Ops[4]? = some _ from ho)
    obtain ⟨t1, g1⟩ := dep 1 (by kernel_rfl)
    have q1 := t1 118 (by rfl)
    have e1 := eval_at q1
    have w1 : f 1 = .bool rb := g1
    rw [w1] at e1
    rw [w1] at q1
    obtain ⟨t3, g3⟩ := dep 3 (by kernel_rfl)
    have q3 := t3 120 (by rfl)
    have e3 := eval_at q3
    have w3 : f 3 = .bool rb := g3
    rw [w3] at e3
    rw [w3] at q3
    refine inv_val (G := (end37K n b q m cq jx dx rb 4).P) (R := fun x y => Below x.heap.size x y) (wanted_none rfl) (v := .bool false) (w2 := x) (by cases rb <;> (simp only [execOp, end37o4, e1, e3]; go_simp)) hK rfl (Below.refl _ _)
  | 5, _ =>
    obtain rfl : end37o5 = o := Option.some.inj (show end37Ops[5]? = some _ from ho)
    obtain ⟨t4, g4⟩ := dep 4 (by kernel_rfl)
    have q4 := t4 121 (by rfl)
    have e4 := eval_at q4
    have w4 : f 4 = .bool false := g4
    rw [w4] at e4
    rw [w4] at q4
    refine inv_val (G := (end37K n b q m cq jx dx rb 5).P) (R := fun x y => Below x.heap.size x y) (wanted_none rfl) (v := .bool false) (w2 := x) (by simp only [execOp, end37o5, e4]; go_simp) hK rfl (Below.refl _ _)
  | 6, _ =>
    obtain rfl : end37o6 = o := Option.some.inj (show end37Ops[6]? = some _ from ho)
    obtain ⟨t5, g5⟩ := dep 5 (by kernel_rfl)
    have q5 := t5 122 (by rfl)
    have e5 := eval_at q5
    have w5 : f 5 = .bool false := g5
    rw [w5] at e5
    rw [w5] at q5
    have hw := wanted_some (ops := end37Ops) (o := end37o6) (a := a) (j := 5) (s := 122) (b := false) (c := false) rfl (by rfl) q5
    have qb11 := (bas 11 (by kernel_rfl)).trans h11
    have eb11 := eval_at qb11
    have hc0 := keep_cellK hR hb0
    have hc1 := keep_cellK hR hb1
    refine inv_val (G := (end37K n b q m cq jx dx rb 6).P) (R := fun x y => Below x.heap.size x y) (hw.trans (by decide)) (v := .agg #[.slice q m cq, .slice none 0 0]) (w2 := x) (by simp only [execOp, end37o6, eb11]; go_simp) hK rfl (Below.refl _ _)
  | 7, _ =>
    obtain rfl : end37o7 = o := Option.some.inj (show end37Ops[7]? = some _ from ho)
    obtain ⟨t5, g5⟩ := dep 5 (by kernel_rfl)
    have q5 := t5 122 (by rfl)
    have e5 := eval_at q5
    have w5 : f 5 = .bool false := g5
    rw [w5] at e5
    rw [w5] at q5
    have hw := wanted_some (ops := end37Ops) (o := end37o7) (a := a) (j := 5) (s := 122) (b := false) (c := false) rfl (by rfl) q5
    obtain ⟨t6, g6⟩ := dep 6 (by kernel_rfl)
    have q6 := t6 123 (by rfl)
    have e6 := eval_at q6
    have w6 : f 6 = .agg #[.slice q m cq, .slice none 0 0] := g6
    rw [w6] at e6
    rw [w6] at q6
    refine inv_call (G := (end37K n b q m cq jx dx rb 7).P) (R := fun x y => Below x.heap.size x y) (hw.trans (by decide)) (F := 30) (args := #[.agg #[.slice q m cq, .slice none 0 0]]) (by simp [go_sem, end37o7, q6]) hK ?_
    refine (hdeep x hR).mono ?_
    rintro e y ⟨rfl, h⟩
    exact ⟨_, rfl, rfl, h⟩
  | 8, _ =>
    obtain rfl : end37o8 = o := Option.some.inj (show end37Ops[8]? = some _ from ho)
    obtain ⟨t5, g5⟩ := dep 5 (by kernel_rfl)
    have q5 := t5 122 (by rfl)
    have e5 := eval_at q5
    have w5 : f 5 = .bool false := g5
    rw [w5] at e5
    rw [w5] at q5
    have hw := wanted_some (ops := end37Ops) (o := end37o8) (a := a) (j := 5) (s := 122) (b := false) (c := false) rfl (by rfl) q5
    refine inv_val (G := (end37K n b q m cq jx dx rb 8).P) (R := fun x y => Below x.heap.size x y) (hw.trans (by decide)) (v := .slice (some ⟨x.heap.size, 0, none⟩) 2 2) (w2 := x.alloc (.cells #[.int .i64 2, .int .i64 0] 3)) (by simp only [execOp, end37o8]; go_simp) hK ⟨_, rfl, Bx.new _ _ _⟩ (bl_alloc _ _)
  | 9, _ =>
    obtain rfl : end37o9 = o := Option.some.inj (show end37Ops[9]? = some _ from ho)
    obtain ⟨t5, g5⟩ := dep 5 (by kernel_rfl)
    have q5 := t5 122 (by rfl)
    have e5 := eval_at q5
    have w5 : f 5 = .bool false := g5
    rw [w5] at e5
    rw [w5] at q5
    have hw := wanted_some (ops := end37Ops) (o := end37o9) (a := a) (j := 5) (s := 122) (b := false) (c := false) rfl (by rfl) q5
    have qb10 := (bas 10 (by kernel_rfl)).trans h10
    have eb10 := eval_at qb10
    refine inv_val (G := (end37K n b q m cq jx dx rb 9).P) (R := fun x y => Below x.heap.size x y) (hw.trans (by decide)) (v := .int .i64 ((n : Nat) : Int)) (w2 := x) (by simp only [execOp, end37o9, eb10]; go_simp) hK rfl (Below.refl _ _)
  | 10, _ =>
    obtain rfl : end37o10 = o := Option.some.inj (show end37Ops[10]? = some _ from ho)
    obtain ⟨t5, g5⟩ := dep 5 (by kernel_rfl)
    have q5 := t5 122 (by rfl)
    have e5 := eval_at q5
    have w5 : f 5 = .bool false := g5
    rw [w5] at e5
    rw [w5] at q5
    have hw := wanted_some (ops := end37Ops) (o := end37o10) (a := a) (j := 5) (s := 122) (b := false) (c := false) rfl (by rfl) q5
    obtain ⟨t9, g9⟩ := dep 9 (by kernel_rfl)
    have q9 := t9 126 (by rfl)
    have e9 := eval_at q9
    have w9 : f 9 = .int .i64 ((n : Nat) : Int) := g9
    rw [w9] at e9
    rw [w9] at q9
    have hq2 := hq
    refine inv_val (G := (end37K n b q m cq jx dx rb 10).P) (R := fun x y => Below x.heap.size x y) (hw.trans (by decide)) (v := .int .i64 ((jx : Nat) : Int)) (w2 := x) (by simp only [execOp, end37o10, e9]; go_simp) hK rfl (Below.refl _ _)
  | 11, _ =>
    obtain rfl : end37o11 = o := Option.some.inj (show end37Ops[11]? = some _ from ho)
    obtain ⟨t5, g5⟩ := dep 5 (by kernel_rfl)
    have q5 := t5 122 (by rfl)
    have e5 := eval_at q5
    have w5 : f 5 = .bool false := g5
    rw [w5] at e5
    rw [w5] at q5
    have hw := wanted_some (ops := end37Ops) (o := end37o11) (a := a) (j := 5) (s := 122) (b := false) (c := false) rfl (by rfl) q5
    obtain ⟨t8, g8⟩ := dep 8 (by kernel_rfl)
    have q8 := t8 125 (by rfl)
    have e8 := eval_at q8
    obtain ⟨t10, g10⟩ := dep 10 (by kernel_rfl)
    have q10 := t10 127 (by rfl)
    have e10 := eval_at q10
    have w10 : f 10 = .int .i64 ((jx : Nat) : Int) := g10
    rw [w10] at e10
    rw [w10] at q10
    obtain ⟨bb, hv, hx⟩ := g8
    rw [hv] at e8
    have hjI : ((jx : Nat) : Int) < 2 := by omega
    refine inv_val (G := (end37K n b q m cq jx dx rb 11).P) (R := fun x y => Below x.heap.size x y) (hw.trans (by decide)) (v := .pointer (some ⟨bb, jx, none⟩)) (w2 := x) (by simp only [execOp, end37o11, e8, e10]; go_simp) hK ⟨bb, rfl, hx⟩ (Below.refl _ _)
  | 12, _ =>
    obtain rfl : end37o12 = o := Option.some.inj (show end37Ops[12]? = some _ from ho)
    obtain ⟨t5, g5⟩ := dep 5 (by kernel_rfl)
    have q5 := t5 122 (by rfl)
    have e5 := eval_at q5
    have w5 : f 5 = .bool false := g5
    rw [w5] at e5
    rw [w5] at q5
    have hw := wanted_some (ops := end37Ops) (o := end37o12) (a := a) (j := 5) (s := 122) (b := false) (c := false) rfl (by rfl) q5
    obtain ⟨t11, g11⟩ := dep 11 (by kernel_rfl)
    have q11 := t11 128 (by rfl)
    have e11 := eval_at q11
    obtain ⟨bb, hv, hx⟩ := g11
    rw [hv] at e11
    have hcj : x.cell? ⟨bb, jx, none⟩ = some (.int .i64 ((dx : Nat) : Int)) := by rcases hjd with ⟨rfl, rfl⟩ | ⟨rfl, rfl⟩ <;> exact hx.cell rfl
    refine inv_val (G := (end37K n b q m cq jx dx rb 12).P) (R := fun x y => Below x.heap.size x y) (hw.trans (by decide)) (v := .int .i64 ((dx : Nat) : Int)) (w2 := x) (by simp only [execOp, end37o12, e11]; go_simp) hK rfl (Below.refl _ _)
  | 13, _ =>
    obtain rfl : end37o13 = o := Option.some.inj (show end37Ops[13]? = some _ from ho)
    obtain ⟨t5, g5⟩ := dep 5 (by kernel_rfl)
    have q5 := t5 122 (by rfl)
    have e5 := eval_at q5
    have w5 : f 5 = .bool false := g5
    rw [w5] at e5
    rw [w5] at q5
    have hw := wanted_some (ops := end37Ops) (o := end37o13) (a := a) (j := 5) (s := 122) (b := false) (c := false) rfl (by rfl) q5
    obtain ⟨t7, g7⟩ := dep 7 (by kernel_rfl)
    have q7 := t7 124 (by rfl)
    have e7 := eval_at q7
    have w7 : f 7 = .int .i64 ((dx : Nat) : Int) := g7
    rw [w7] at e7
    rw [w7] at q7
    obtain ⟨t12, g12⟩ := dep 12 (by kernel_rfl)
    have q12 := t12 129 (by rfl)
    have e12 := eval_at q12
    have w12 : f 12 = .int .i64 ((dx : Nat) : Int) := g12
    rw [w12] at e12
    rw [w12] at q12
    refine inv_val (G := (end37K n b q m cq jx dx rb 13).P) (R := fun x y => Below x.heap.size x y) (hw.trans (by decide)) (v := .bool false) (w2 := x) (by simp only [execOp, end37o13, e7, e12]; go_simp) hK rfl (Below.refl _ _)
  | 14, _ =>
    obtain rfl : end37o14 = o := Option.some.inj (show end37Ops[14]? = some _ from ho)
    obtain ⟨t5, g5⟩ := dep 5 (by kernel_rfl)
    have q5 := t5 122 (by rfl)
    have e5 := eval_at q5
    have w5 : f 5 = .bool false := g5
    rw [w5] at e5
    rw [w5] at q5
    obtain ⟨t13, g13⟩ := dep 13 (by kernel_rfl)
    have q13 := t13 130 (by rfl)
    have e13 := eval_at q13
    have w13 : f 13 = .bool false := g13
    rw [w13] at e13
    rw [w13] at q13
    refine inv_val (G := (end37K n b q m cq jx dx rb 14).P) (R := fun x y => Below x.heap.size x y) (wanted_none rfl) (v := .bool false) (w2 := x) (by simp only [execOp, end37o14, e5, e13]; go_simp) hK rfl (Below.refl _ _)
end Go.Proofs.YtjpccmiaimkmbaaGreat

