/- TreeWhole: its drawn region with four calls. -/
import Derived.Test.YtpiknmnhcpjfaaaGreatFi
import Derived.Test.YtpiknmnhcpjfaaaGreatMx
namespace Go.Proofs.YtpiknmnhcpjfaaaGreat
open Go.RowKit Tnr Tnt

inductive Kd where
  | val (v : Value)
  | tree (L : List Nd)
def Kd.ok (_z : Nat) : Kd → Value → World → Prop
  | .val u, v, _ => v = u
  | .tree L, v, w => ∃ q m cq ys, v = .agg #[.slice q m cq, .slice none 0 0] ∧ TH w q m cq ys L
theorem Kd.below {z : Nat} {w w' : World} {v : Value} : ∀ {k : Kd}, Kd.ok z k v w → Below w.heap.size w w' → Kd.ok z k v w'
  | .val _, h, _ => h
  | .tree _, h, hb => by obtain ⟨q, m, cq, ys, h1, h2⟩ := h; exact ⟨q, m, cq, ys, h1, h2.below hb⟩
theorem keep_cell {w w' : World} {b i : Nat} {v : Value} (hb : Below w.heap.size w w') (h : w.cell? ⟨b, i, none⟩ = some v) : w'.cell? ⟨b, i, none⟩ = some v := cell_below h hb
theorem k_one {F : FuncId} {w : World} {z : Nat} {v a r : Value} (hv : Kd.ok z (.val a) v w) (h : Calls Tryz.prog F #[a] w fun e w' => e = .returned r ∧ Below w.heap.size w w') :
    Calls Tryz.prog F #[v] w fun e y => ∃ u, e = .returned u ∧ Kd.ok z (.val r) u y ∧ Below w.heap.size w y := by
  obtain rfl : v = a := hv
  refine h.mono ?_
  rintro e y ⟨rfl, hb⟩
  exact ⟨_, rfl, rfl, hb⟩
theorem k_of {F : FuncId} {w : World} {z : Nat} {v a u b : Value} {L : List Nd} (hv : Kd.ok z (.val a) v w) (hu : Kd.ok z (.val b) u w) (h : Calls Tryz.prog F #[a, b] w (JPost L w)) :
    Calls Tryz.prog F #[v, u] w fun e y => ∃ u, e = .returned u ∧ Kd.ok z (.tree L) u y ∧ Below w.heap.size w y := by
  obtain rfl : v = a := hv
  obtain rfl : u = b := hu
  refine h.mono ?_
  rintro e y ⟨q, m, cq, ys, rfl, ht, hb⟩
  exact ⟨_, rfl, ⟨q, m, cq, ys, rfl, ht⟩, hb⟩
theorem k_same {F : FuncId} {w : World} {z : Nat} {v u b : Value} {L : List Nd} (hv : Kd.ok z (.tree L) v w) (hu : Kd.ok z (.val b) u w) (h : ∀ q m cq ys, TH w q m cq ys L → Calls Tryz.prog F #[.agg #[.slice q m cq, .slice none 0 0], b] w fun e w' => e = .returned (.bool true) ∧ Below w.heap.size w w') :
    Calls Tryz.prog F #[v, u] w fun e y => ∃ u, e = .returned u ∧ Kd.ok z (.val (.bool true)) u y ∧ Below w.heap.size w y := by
  obtain ⟨q, m, cq, ys, rfl, ht⟩ := hv
  obtain rfl : u = b := hu
  refine (h q m cq ys ht).mono ?_
  rintro e y ⟨rfl, hb⟩
  exact ⟨_, rfl, rfl, hb⟩

def whole24Ops : Array Oper := #[{ dst := some 105, op := Op.move (Operand.tmp 10), type := 3, pos := "outright.go:39", after := #[], guard := none },
  { dst := some 106, op := Op.fieldAddr 25 (Operand.tmp 2) 0, type := 0, pos := "outright.go:39", after := #[], guard := none },
  { dst := some 107, op := Op.load 22 (Operand.tmp 106), type := 22, pos := "outright.go:39", after := #[{ on := 1, ground := Ground.data }], guard := none },
  { dst := some 108, op := Op.call { callee := Callee.builtin Builtin.len, args := #[Operand.tmp 107], argTypes := #[22] }, type := 3, pos := "outright.go:39", after := #[{ on := 2, ground := Ground.data }], guard := none },
  { dst := some 109, op := Op.binOp BinOp.neq 3 (Operand.tmp 105) (Operand.tmp 108) 3, type := 4, pos := "outright.go:39", after := #[{ on := 0, ground := Ground.data }, { on := 3, ground := Ground.data }], guard := none },
  { dst := some 110, op := Op.move (Operand.tmp 109), type := 4, pos := "outright.go:39", after := #[{ on := 4, ground := Ground.data }], guard := none },
  { dst := some 111, op := Op.load 25 (Operand.tmp 14), type := 25, pos := "outright.go:39", after := #[{ on := 5, ground := Ground.guard }], guard := some (5, false) },
  { dst := some 112, op := Op.call { callee := Callee.value (Operand.func 7), args := #[Operand.tmp 111], argTypes := #[25] }, type := 3, pos := "outright.go:39", after := #[{ on := 6, ground := Ground.data }, { on := 5, ground := Ground.chain }, { on := 5, ground := Ground.guard }], guard := some (5, false) },
  { dst := some 113, op := Op.binOp BinOp.lss 3 (Operand.tmp 112) (Operand.const (Value.int IntKind.i64 1)) 3, type := 4, pos := "outright.go:39", after := #[{ on := 7, ground := Ground.data }, { on := 5, ground := Ground.guard }], guard := some (5, false) },
  { dst := some 114, op := Op.pick (Operand.tmp 110) (Operand.const (Value.bool true)) (Operand.tmp 113), type := 4, pos := "outright.go:39", after := #[{ on := 5, ground := Ground.data }, { on := 8, ground := Ground.data }], guard := none },
  { dst := some 115, op := Op.move (Operand.tmp 114), type := 4, pos := "outright.go:39", after := #[{ on := 9, ground := Ground.data }, { on := 7, ground := Ground.chain }], guard := none },
  { dst := some 116, op := Op.load 25 (Operand.tmp 14), type := 25, pos := "outright.go:39", after := #[{ on := 10, ground := Ground.guard }], guard := some (10, false) },
  { dst := some 117, op := Op.call { callee := Callee.value (Operand.func 7), args := #[Operand.tmp 116], argTypes := #[25] }, type := 3, pos := "outright.go:39", after := #[{ on := 11, ground := Ground.data }, { on := 10, ground := Ground.chain }, { on := 10, ground := Ground.guard }], guard := some (10, false) },
  { dst := some 118, op := Op.move (Operand.tmp 6), type := 3, pos := "outright.go:39", after := #[{ on := 10, ground := Ground.guard }], guard := some (10, false) },
  { dst := some 119, op := Op.binOp BinOp.gtr 3 (Operand.tmp 117) (Operand.tmp 118) 3, type := 4, pos := "outright.go:39", after := #[{ on := 12, ground := Ground.data }, { on := 13, ground := Ground.data }, { on := 10, ground := Ground.guard }], guard := some (10, false) },
  { dst := some 120, op := Op.pick (Operand.tmp 115) (Operand.const (Value.bool true)) (Operand.tmp 119), type := 4, pos := "outright.go:39", after := #[{ on := 10, ground := Ground.data }, { on := 14, ground := Ground.data }], guard := none },
  { dst := some 121, op := Op.move (Operand.tmp 120), type := 4, pos := "outright.go:39", after := #[{ on := 15, ground := Ground.data }, { on := 12, ground := Ground.chain }], guard := none },
  { dst := some 122, op := Op.load 25 (Operand.tmp 2), type := 25, pos := "outright.go:39", after := #[{ on := 16, ground := Ground.guard }], guard := some (16, false) },
  { dst := some 123, op := Op.fieldAddr 25 (Operand.tmp 2) 0, type := 0, pos := "outright.go:39", after := #[{ on := 16, ground := Ground.guard }], guard := some (16, false) },
  { dst := some 124, op := Op.load 22 (Operand.tmp 123), type := 22, pos := "outright.go:39", after := #[{ on := 18, ground := Ground.data }, { on := 16, ground := Ground.guard }], guard := some (16, false) },
  { dst := some 125, op := Op.call { callee := Callee.builtin Builtin.len, args := #[Operand.tmp 124], argTypes := #[22] }, type := 3, pos := "outright.go:39", after := #[{ on := 19, ground := Ground.data }, { on := 16, ground := Ground.guard }], guard := some (16, false) },
  { dst := some 126, op := Op.binOp BinOp.sub 3 (Operand.tmp 125) (Operand.const (Value.int IntKind.i64 1)) 3, type := 3, pos := "outright.go:39", after := #[{ on := 20, ground := Ground.data }, { on := 16, ground := Ground.guard }], guard := some (16, false) },
  { dst := some 127, op := Op.call { callee := Callee.value (Operand.func 8), args := #[Operand.tmp 122, Operand.tmp 126], argTypes := #[25, 3] }, type := 25, pos := "outright.go:39", after := #[{ on := 17, ground := Ground.data }, { on := 21, ground := Ground.data }, { on := 16, ground := Ground.chain }, { on := 16, ground := Ground.guard }], guard := some (16, false) },
  { dst := some 128, op := Op.load 25 (Operand.tmp 8), type := 25, pos := "outright.go:39", after := #[{ on := 16, ground := Ground.guard }], guard := some (16, false) },
  { dst := some 129, op := Op.call { callee := Callee.value (Operand.func 10), args := #[Operand.tmp 127, Operand.tmp 128], argTypes := #[25, 25] }, type := 4, pos := "outright.go:39", after := #[{ on := 22, ground := Ground.data }, { on := 23, ground := Ground.data }, { on := 22, ground := Ground.chain }, { on := 16, ground := Ground.guard }], guard := some (16, false) },
  { dst := some 130, op := Op.unOp UnOp.not 4 (Operand.tmp 129), type := 4, pos := "outright.go:39", after := #[{ on := 24, ground := Ground.data }, { on := 16, ground := Ground.guard }], guard := some (16, false) },
  { dst := some 131, op := Op.pick (Operand.tmp 121) (Operand.const (Value.bool true)) (Operand.tmp 130), type := 4, pos := "outright.go:39", after := #[{ on := 16, ground := Ground.data }, { on := 25, ground := Ground.data }], guard := none }]
def whole24Pre : Array Bool := #[true, true, true, true, true, true, true, true, true, true, true, true, true, true, true, true, true, true, true, true, true, true, true, true, true, true, true]
def whole24K (p pn q : Option Addr) (n c nn cn m cq b0 bu bb dp du : Nat) (L : List Nd) : Nat → Kd
  | 0 => .val (.int .i64 (n : Nat))
  | 1 => .val (.pointer (some ⟨b0, 0, none⟩))
  | 2 => .val (.slice p n c)
  | 3 => .val (.int .i64 (n : Nat))
  | 4 => .val (.bool false)
  | 5 => .val (.bool false)
  | 6 => .val (.agg #[.slice q m cq, .slice none 0 0])
  | 7 => .val (.int .i64 (du : Nat))
  | 8 => .val (.bool false)
  | 9 => .val (.bool false)
  | 10 => .val (.bool false)
  | 11 => .val (.agg #[.slice q m cq, .slice none 0 0])
  | 12 => .val (.int .i64 (du : Nat))
  | 13 => .val (.int .i64 (dp : Nat))
  | 14 => .val (.bool false)
  | 15 => .val (.bool false)
  | 16 => .val (.bool false)
  | 17 => .val (.agg #[.slice p n c, .slice pn nn cn])
  | 18 => .val (.pointer (some ⟨b0, 0, none⟩))
  | 19 => .val (.slice p n c)
  | 20 => .val (.int .i64 (n : Nat))
  | 21 => .val (.int .i64 ((n : Int) - 1))
  | 22 => .tree L
  | 23 => .val (.agg #[.slice p n c, .slice none 0 0])
  | 24 => .val (.bool true)
  | 25 => .val (.bool false)
  | 26 => .val (.bool false)
  | _ => .val undef
theorem whole24_slots (f : Nat → Value) : slotsOf whole24Ops whole24Pre f = [(105, f 0), (106, f 1), (107, f 2), (108, f 3), (109, f 4), (110, f 5), (111, f 6), (112, f 7), (113, f 8), (114, f 9), (115, f 10), (116, f 11), (117, f 12), (118, f 13), (119, f 14), (120, f 15), (121, f 16), (122, f 17), (123, f 18), (124, f 19), (125, f 20), (126, f 21), (127, f 22), (128, f 23), (129, f 24), (130, f 25), (131, f 26)] := by kernel_rfl
set_option maxHeartbeats 6400000 in
set_option maxRecDepth 100000 in
theorem whole24_wp {Q : Exit → Act → World → Prop} {a0 : Act} {w : World} {z : Nat} (p pn q : Option Addr) (n c nn cn m cq b0 bu bb dp du : Nat) (L : List Nd) (hz : z ≤ w.drew.heap.size) (hsize : a0.tmps.size = 173) (h10 : a0.tmps[10]? = some (.int .i64 (n : Nat))) (h2 : a0.tmps[2]? = some (.pointer (some ⟨b0, 0, none⟩))) (h14 : a0.tmps[14]? = some (.pointer (some ⟨bu, 0, none⟩))) (h8 : a0.tmps[8]? = some (.pointer (some ⟨bb, 0, none⟩))) (h6 : a0.tmps[6]? = some (.int .i64 (dp : Nat)))
    (ht0 : w.drew.cell? ⟨b0, 0, none⟩ = some (.slice p n c)) (ht1 : w.drew.cell? ⟨b0, 1, none⟩ = some (.slice pn nn cn)) (hu0 : w.drew.cell? ⟨bu, 0, none⟩ = some (.slice q m cq)) (hu1 : w.drew.cell? ⟨bu, 1, none⟩ = some (.slice none 0 0)) (hb0 : w.drew.cell? ⟨bb, 0, none⟩ = some (.slice p n c)) (hb1 : w.drew.cell? ⟨bb, 1, none⟩ = some (.slice none 0 0))
    (hd1 : decide ((du : Int) < 1) = false) (hd2 : du ≤ dp) (hw1 : IntKind.i64.wrap ((n : Int) - 1) = (n : Int) - 1)
    (hdeep : ∀ V, Below w.drew.heap.size w.drew V → Calls Tryz.prog 7 #[.agg #[.slice q m cq, .slice none 0 0]] V fun e w' => e = .returned (.int .i64 (du : Nat)) ∧ Below V.heap.size V w')
    (hof : ∀ V, Below w.drew.heap.size w.drew V → Calls Tryz.prog 8 #[.agg #[.slice p n c, .slice pn nn cn], .int .i64 ((n : Int) - 1)] V (JPost L V))
    (hsame : ∀ V q m cq ys, Below w.drew.heap.size w.drew V → TH V q m cq ys L → Calls Tryz.prog 10 #[.agg #[.slice q m cq, .slice none 0 0], .agg #[.slice p n c, .slice none 0 0]] V fun e w' => e = .returned (.bool true) ∧ Below V.heap.size V w')
    (fin : ∀ (f : Nat → Value) (y : World), (∀ j, j < 27 → whole24Pre.getD j false = true → Kd.ok z (whole24K p pn q n c nn cn m cq b0 bu bb dp du L j) (f j) y) → Below w.drew.heap.size w.drew y → Q .normal (putL a0 [(105, f 0), (106, f 1), (107, f 2), (108, f 3), (109, f 4), (110, f 5), (111, f 6), (112, f 7), (113, f 8), (114, f 9), (115, f 10), (116, f 11), (117, f 12), (118, f 13), (119, f 14), (120, f 15), (121, f 16), (122, f 17), (123, f 18), (124, f 19), (125, f 20), (126, f 21), (127, f 22), (128, f 23), (129, f 24), (130, f 25), (131, f 26)]) y) (id : Nat) :
    (Code.region id whole24Ops true).wp Tryz.prog Q a0 w := by
  refine wp_region_inv whole24Pre (fun j => Kd.ok z (whole24K p pn q n c nn cn m cq b0 bu bb dp du L j)) (fun x y => Below x.heap.size x y) 27 0 (by kernel_rfl) (by kernel_rfl) (by rw [hsize]; kernel_rfl) (by kernel_rfl) (by kernel_rfl) (Below.refl _ _) (fun _ _ _ h1 h2 => bl_trans h1 h2) (fun _ _ _ _ h1 h2 => Kd.below h1 h2) ?_ (fun f y h1 h2 => by rw [whole24_slots]; exact any_end (by kernel_rfl) (fin f y h1 h2) 0)
  intro i o ho hp f a x hR hbase hdeps K hK
  have hi : i < 27 := by
    rcases Nat.lt_or_ge i 27 with h | h
    · exact h
    · have : whole24Ops.size ≤ i := h
      rw [Array.getElem?_eq_none this] at ho; cases ho
  have hzx : z ≤ x.heap.size := Nat.le_trans hz hR.size
  have dep : ∀ j, (o.after.any fun e => Region.binds .any e && e.on == j) = true → (∀ s, slotOf whole24Ops j = some s → a.tmps[s]? = some (f j)) ∧ Kd.ok z (whole24K p pn q n c nn cn m cq b0 bu bb dp du L j) (f j) x := by
    intro j h
    obtain ⟨e, he, h2⟩ := Array.any_eq_true'.1 h
    simp only [Bool.and_eq_true, beq_iff_eq] at h2
    obtain ⟨h3, rfl⟩ := h2
    exact hdeps e he h3
  have bas : ∀ s, ((List.range whole24Ops.size).all fun j => slotOf whole24Ops j != some s) = true → a.tmps[s]? = a0.tmps[s]? := by
    intro s h
    refine hbase s fun j hj _ e => ?_
    have h2 := (List.all_eq_true.1 h) j (List.mem_range.2 hj)
    rw [e] at h2; simp at h2
  match i, hi with
  | 0, _ =>
    obtain rfl : { dst := some 105, op := Op.move (Operand.tmp 10), type := 3, pos := "outright.go:39", after := #[], guard := none } = o := Option.some.inj (show whole24Ops[0]? = some _ from ho)
    have qb10 := (bas 10 (by kernel_rfl)).trans h10
    have eb10 := eval_at qb10
    refine inv_val (G := Kd.ok z (whole24K p pn q n c nn cn m cq b0 bu bb dp du L 0)) (R := fun x y => Below x.heap.size x y) (wanted_none rfl) (v := (.int .i64 (n : Nat))) (w2 := x) (by simp only [execOp, eb10]; go_simp) hK rfl (Below.refl _ _)
  | 1, _ =>
    obtain rfl : { dst := some 106, op := Op.fieldAddr 25 (Operand.tmp 2) 0, type := 0, pos := "outright.go:39", after := #[], guard := none } = o := Option.some.inj (show whole24Ops[1]? = some _ from ho)
    have qb2 := (bas 2 (by kernel_rfl)).trans h2
    have eb2 := eval_at qb2
    refine inv_val (G := Kd.ok z (whole24K p pn q n c nn cn m cq b0 bu bb dp du L 1)) (R := fun x y => Below x.heap.size x y) (wanted_none rfl) (v := (.pointer (some ⟨b0, 0, none⟩))) (w2 := x) (by simp only [execOp, eb2]; go_simp) hK rfl (Below.refl _ _)
  | 2, _ =>
    obtain rfl : { dst := some 107, op := Op.load 22 (Operand.tmp 106), type := 22, pos := "outright.go:39", after := #[{ on := 1, ground := Ground.data }], guard := none } = o := Option.some.inj (show whole24Ops[2]? = some _ from ho)
    obtain ⟨t1, g1⟩ := dep 1 (by kernel_rfl)
    have q1 := t1 106 (by rfl)
    have e1 := eval_at q1
    have w1 : f 1 = (.pointer (some ⟨b0, 0, none⟩)) := g1
    rw [w1] at e1
    have hc0 := keep_cell hR ht0
    refine inv_val (G := Kd.ok z (whole24K p pn q n c nn cn m cq b0 bu bb dp du L 2)) (R := fun x y => Below x.heap.size x y) (wanted_none rfl) (v := (.slice p n c)) (w2 := x) (by simp only [execOp, e1]; go_simp) hK rfl (Below.refl _ _)
  | 3, _ =>
    obtain rfl : { dst := some 108, op := Op.call { callee := Callee.builtin Builtin.len, args := #[Operand.tmp 107], argTypes := #[22] }, type := 3, pos := "outright.go:39", after := #[{ on := 2, ground := Ground.data }], guard := none } = o := Option.some.inj (show whole24Ops[3]? = some _ from ho)
    obtain ⟨t2, g2⟩ := dep 2 (by kernel_rfl)
    have q2 := t2 107 (by rfl)
    have e2 := eval_at q2
    have w2 : f 2 = (.slice p n c) := g2
    rw [w2] at e2
    refine inv_val (G := Kd.ok z (whole24K p pn q n c nn cn m cq b0 bu bb dp du L 3)) (R := fun x y => Below x.heap.size x y) (wanted_none rfl) (v := (.int .i64 (n : Nat))) (w2 := x) (by simp only [execOp, e2]; go_simp) hK rfl (Below.refl _ _)
  | 4, _ =>
    obtain rfl : { dst := some 109, op := Op.binOp BinOp.neq 3 (Operand.tmp 105) (Operand.tmp 108) 3, type := 4, pos := "outright.go:39", after := #[{ on := 0, ground := Ground.data }, { on := 3, ground := Ground.data }], guard := none } = o := Option.some.inj (show whole24Ops[4]? = some _ from ho)
    obtain ⟨t0, g0⟩ := dep 0 (by kernel_rfl)
    have q0 := t0 105 (by rfl)
    have e0 := eval_at q0
    obtain ⟨t3, g3⟩ := dep 3 (by kernel_rfl)
    have q3 := t3 108 (by rfl)
    have e3 := eval_at q3
    have w0 : f 0 = (.int .i64 (n : Nat)) := g0
    have w3 : f 3 = (.int .i64 (n : Nat)) := g3
    rw [w0] at e0
    rw [w3] at e3
    refine inv_val (G := Kd.ok z (whole24K p pn q n c nn cn m cq b0 bu bb dp du L 4)) (R := fun x y => Below x.heap.size x y) (wanted_none rfl) (v := (.bool false)) (w2 := x) (by simp only [execOp, e0, e3]; go_simp) hK rfl (Below.refl _ _)
  | 5, _ =>
    obtain rfl : { dst := some 110, op := Op.move (Operand.tmp 109), type := 4, pos := "outright.go:39", after := #[{ on := 4, ground := Ground.data }], guard := none } = o := Option.some.inj (show whole24Ops[5]? = some _ from ho)
    obtain ⟨t4, g4⟩ := dep 4 (by kernel_rfl)
    have q4 := t4 109 (by rfl)
    have e4 := eval_at q4
    have w4 : f 4 = (.bool false) := g4
    rw [w4] at e4
    refine inv_val (G := Kd.ok z (whole24K p pn q n c nn cn m cq b0 bu bb dp du L 5)) (R := fun x y => Below x.heap.size x y) (wanted_none rfl) (v := (.bool false)) (w2 := x) (by simp only [execOp, e4]; go_simp) hK rfl (Below.refl _ _)
  | 6, _ =>
    obtain rfl : { dst := some 111, op := Op.load 25 (Operand.tmp 14), type := 25, pos := "outright.go:39", after := #[{ on := 5, ground := Ground.guard }], guard := some (5, false) } = o := Option.some.inj (show whole24Ops[6]? = some _ from ho)
    obtain ⟨t5, g5⟩ := dep 5 (by kernel_rfl)
    have q5 := t5 110 (by rfl)
    have e5 := eval_at q5
    have v5 : f 5 = .bool false := g5
    have hw := wanted_some (ops := whole24Ops) (o := { dst := some 111, op := Op.load 25 (Operand.tmp 14), type := 25, pos := "outright.go:39", after := #[{ on := 5, ground := Ground.guard }], guard := some (5, false) }) (a := a) (j := 5) (s := 110) (b := false) (c := false) rfl (by rfl) (by rw [← v5]; exact q5)
    have qb14 := (bas 14 (by kernel_rfl)).trans h14
    have eb14 := eval_at qb14
    have hc0 := keep_cell hR hu0
    have hc1 := keep_cell hR hu1
    refine inv_val (G := Kd.ok z (whole24K p pn q n c nn cn m cq b0 bu bb dp du L 6)) (R := fun x y => Below x.heap.size x y) (hw.trans (by decide)) (v := (.agg #[.slice q m cq, .slice none 0 0])) (w2 := x) (by simp only [execOp, eb14]; go_simp) hK rfl (Below.refl _ _)
  | 7, _ =>
    obtain rfl : { dst := some 112, op := Op.call { callee := Callee.value (Operand.func 7), args := #[Operand.tmp 111], argTypes := #[25] }, type := 3, pos := "outright.go:39", after := #[{ on := 6, ground := Ground.data }, { on := 5, ground := Ground.chain }, { on := 5, ground := Ground.guard }], guard := some (5, false) } = o := Option.some.inj (show whole24Ops[7]? = some _ from ho)
    obtain ⟨t5, g5⟩ := dep 5 (by kernel_rfl)
    have q5 := t5 110 (by rfl)
    have e5 := eval_at q5
    have v5 : f 5 = .bool false := g5
    have hw := wanted_some (ops := whole24Ops) (o := { dst := some 112, op := Op.call { callee := Callee.value (Operand.func 7), args := #[Operand.tmp 111], argTypes := #[25] }, type := 3, pos := "outright.go:39", after := #[{ on := 6, ground := Ground.data }, { on := 5, ground := Ground.chain }, { on := 5, ground := Ground.guard }], guard := some (5, false) }) (a := a) (j := 5) (s := 110) (b := false) (c := false) rfl (by rfl) (by rw [← v5]; exact q5)
    obtain ⟨t6, g6⟩ := dep 6 (by kernel_rfl)
    have q6 := t6 111 (by rfl)
    have e6 := eval_at q6
    refine inv_call (G := Kd.ok z (whole24K p pn q n c nn cn m cq b0 bu bb dp du L 7)) (R := fun x y => Below x.heap.size x y) (hw.trans (by decide)) (F := 7) (args := #[f 6]) (by simp [go_sem, q6]) hK ?_
    exact k_one g6 (hdeep x hR)
  | 8, _ =>
    obtain rfl : { dst := some 113, op := Op.binOp BinOp.lss 3 (Operand.tmp 112) (Operand.const (Value.int IntKind.i64 1)) 3, type := 4, pos := "outright.go:39", after := #[{ on := 7, ground := Ground.data }, { on := 5, ground := Ground.guard }], guard := some (5, false) } = o := Option.some.inj (show whole24Ops[8]? = some _ from ho)
    obtain ⟨t5, g5⟩ := dep 5 (by kernel_rfl)
    have q5 := t5 110 (by rfl)
    have e5 := eval_at q5
    have v5 : f 5 = .bool false := g5
    have hw := wanted_some (ops := whole24Ops) (o := { dst := some 113, op := Op.binOp BinOp.lss 3 (Operand.tmp 112) (Operand.const (Value.int IntKind.i64 1)) 3, type := 4, pos := "outright.go:39", after := #[{ on := 7, ground := Ground.data }, { on := 5, ground := Ground.guard }], guard := some (5, false) }) (a := a) (j := 5) (s := 110) (b := false) (c := false) rfl (by rfl) (by rw [← v5]; exact q5)
    obtain ⟨t7, g7⟩ := dep 7 (by kernel_rfl)
    have q7 := t7 112 (by rfl)
    have e7 := eval_at q7
    have w5 : f 5 = (.bool false) := g5
    have w7 : f 7 = (.int .i64 (du : Nat)) := g7
    rw [w7] at e7
    refine inv_val (G := Kd.ok z (whole24K p pn q n c nn cn m cq b0 bu bb dp du L 8)) (R := fun x y => Below x.heap.size x y) (hw.trans (by decide)) (v := (.bool false)) (w2 := x) (by simp only [execOp, e7]; go_simp) hK rfl (Below.refl _ _)
  | 9, _ =>
    obtain rfl : { dst := some 114, op := Op.pick (Operand.tmp 110) (Operand.const (Value.bool true)) (Operand.tmp 113), type := 4, pos := "outright.go:39", after := #[{ on := 5, ground := Ground.data }, { on := 8, ground := Ground.data }], guard := none } = o := Option.some.inj (show whole24Ops[9]? = some _ from ho)
    obtain ⟨t5, g5⟩ := dep 5 (by kernel_rfl)
    have q5 := t5 110 (by rfl)
    have e5 := eval_at q5
    obtain ⟨t8, g8⟩ := dep 8 (by kernel_rfl)
    have q8 := t8 113 (by rfl)
    have e8 := eval_at q8
    have w5 : f 5 = (.bool false) := g5
    have w8 : f 8 = (.bool false) := g8
    rw [w5] at e5
    rw [w8] at e8
    refine inv_val (G := Kd.ok z (whole24K p pn q n c nn cn m cq b0 bu bb dp du L 9)) (R := fun x y => Below x.heap.size x y) (wanted_none rfl) (v := (.bool false)) (w2 := x) (by simp only [execOp, e5, e8]; go_simp) hK rfl (Below.refl _ _)
  | 10, _ =>
    obtain rfl : { dst := some 115, op := Op.move (Operand.tmp 114), type := 4, pos := "outright.go:39", after := #[{ on := 9, ground := Ground.data }, { on := 7, ground := Ground.chain }], guard := none } = o := Option.some.inj (show whole24Ops[10]? = some _ from ho)
    obtain ⟨t9, g9⟩ := dep 9 (by kernel_rfl)
    have q9 := t9 114 (by rfl)
    have e9 := eval_at q9
    have w9 : f 9 = (.bool false) := g9
    rw [w9] at e9
    refine inv_val (G := Kd.ok z (whole24K p pn q n c nn cn m cq b0 bu bb dp du L 10)) (R := fun x y => Below x.heap.size x y) (wanted_none rfl) (v := (.bool false)) (w2 := x) (by simp only [execOp, e9]; go_simp) hK rfl (Below.refl _ _)
  | 11, _ =>
    obtain rfl : { dst := some 116, op := Op.load 25 (Operand.tmp 14), type := 25, pos := "outright.go:39", after := #[{ on := 10, ground := Ground.guard }], guard := some (10, false) } = o := Option.some.inj (show whole24Ops[11]? = some _ from ho)
    obtain ⟨t10, g10⟩ := dep 10 (by kernel_rfl)
    have q10 := t10 115 (by rfl)
    have e10 := eval_at q10
    have v10 : f 10 = .bool false := g10
    have hw := wanted_some (ops := whole24Ops) (o := { dst := some 116, op := Op.load 25 (Operand.tmp 14), type := 25, pos := "outright.go:39", after := #[{ on := 10, ground := Ground.guard }], guard := some (10, false) }) (a := a) (j := 10) (s := 115) (b := false) (c := false) rfl (by rfl) (by rw [← v10]; exact q10)
    have qb14 := (bas 14 (by kernel_rfl)).trans h14
    have eb14 := eval_at qb14
    have hc0 := keep_cell hR hu0
    have hc1 := keep_cell hR hu1
    refine inv_val (G := Kd.ok z (whole24K p pn q n c nn cn m cq b0 bu bb dp du L 11)) (R := fun x y => Below x.heap.size x y) (hw.trans (by decide)) (v := (.agg #[.slice q m cq, .slice none 0 0])) (w2 := x) (by simp only [execOp, eb14]; go_simp) hK rfl (Below.refl _ _)
  | 12, _ =>
    obtain rfl : { dst := some 117, op := Op.call { callee := Callee.value (Operand.func 7), args := #[Operand.tmp 116], argTypes := #[25] }, type := 3, pos := "outright.go:39", after := #[{ on := 11, ground := Ground.data }, { on := 10, ground := Ground.chain }, { on := 10, ground := Ground.guard }], guard := some (10, false) } = o := Option.some.inj (show whole24Ops[12]? = some _ from ho)
    obtain ⟨t10, g10⟩ := dep 10 (by kernel_rfl)
    have q10 := t10 115 (by rfl)
    have e10 := eval_at q10
    have v10 : f 10 = .bool false := g10
    have hw := wanted_some (ops := whole24Ops) (o := { dst := some 117, op := Op.call { callee := Callee.value (Operand.func 7), args := #[Operand.tmp 116], argTypes := #[25] }, type := 3, pos := "outright.go:39", after := #[{ on := 11, ground := Ground.data }, { on := 10, ground := Ground.chain }, { on := 10, ground := Ground.guard }], guard := some (10, false) }) (a := a) (j := 10) (s := 115) (b := false) (c := false) rfl (by rfl) (by rw [← v10]; exact q10)
    obtain ⟨t11, g11⟩ := dep 11 (by kernel_rfl)
    have q11 := t11 116 (by rfl)
    have e11 := eval_at q11
    refine inv_call (G := Kd.ok z (whole24K p pn q n c nn cn m cq b0 bu bb dp du L 12)) (R := fun x y => Below x.heap.size x y) (hw.trans (by decide)) (F := 7) (args := #[f 11]) (by simp [go_sem, q11]) hK ?_
    exact k_one g11 (hdeep x hR)
  | 13, _ =>
    obtain rfl : { dst := some 118, op := Op.move (Operand.tmp 6), type := 3, pos := "outright.go:39", after := #[{ on := 10, ground := Ground.guard }], guard := some (10, false) } = o := Option.some.inj (show whole24Ops[13]? = some _ from ho)
    obtain ⟨t10, g10⟩ := dep 10 (by kernel_rfl)
    have q10 := t10 115 (by rfl)
    have e10 := eval_at q10
    have v10 : f 10 = .bool false := g10
    have hw := wanted_some (ops := whole24Ops) (o := { dst := some 118, op := Op.move (Operand.tmp 6), type := 3, pos := "outright.go:39", after := #[{ on := 10, ground := Ground.guard }], guard := some (10, false) }) (a := a) (j := 10) (s := 115) (b := false) (c := false) rfl (by rfl) (by rw [← v10]; exact q10)
    have qb6 := (bas 6 (by kernel_rfl)).trans h6
    have eb6 := eval_at qb6
    have w10 : f 10 = (.bool false) := g10
    refine inv_val (G := Kd.ok z (whole24K p pn q n c nn cn m cq b0 bu bb dp du L 13)) (R := fun x y => Below x.heap.size x y) (hw.trans (by decide)) (v := (.int .i64 (dp : Nat))) (w2 := x) (by simp only [execOp, eb6]; go_simp) hK rfl (Below.refl _ _)
  | 14, _ =>
    obtain rfl : { dst := some 119, op := Op.binOp BinOp.gtr 3 (Operand.tmp 117) (Operand.tmp 118) 3, type := 4, pos := "outright.go:39", after := #[{ on := 12, ground := Ground.data }, { on := 13, ground := Ground.data }, { on := 10, ground := Ground.guard }], guard := some (10, false) } = o := Option.some.inj (show whole24Ops[14]? = some _ from ho)
    obtain ⟨t10, g10⟩ := dep 10 (by kernel_rfl)
    have q10 := t10 115 (by rfl)
    have e10 := eval_at q10
    have v10 : f 10 = .bool false := g10
    have hw := wanted_some (ops := whole24Ops) (o := { dst := some 119, op := Op.binOp BinOp.gtr 3 (Operand.tmp 117) (Operand.tmp 118) 3, type := 4, pos := "outright.go:39", after := #[{ on := 12, ground := Ground.data }, { on := 13, ground := Ground.data }, { on := 10, ground := Ground.guard }], guard := some (10, false) }) (a := a) (j := 10) (s := 115) (b := false) (c := false) rfl (by rfl) (by rw [← v10]; exact q10)
    obtain ⟨t12, g12⟩ := dep 12 (by kernel_rfl)
    have q12 := t12 117 (by rfl)
    have e12 := eval_at q12
    obtain ⟨t13, g13⟩ := dep 13 (by kernel_rfl)
    have q13 := t13 118 (by rfl)
    have e13 := eval_at q13
    have w10 : f 10 = (.bool false) := g10
    have w12 : f 12 = (.int .i64 (du : Nat)) := g12
    have w13 : f 13 = (.int .i64 (dp : Nat)) := g13
    rw [w12] at e12
    rw [w13] at e13
    refine inv_val (G := Kd.ok z (whole24K p pn q n c nn cn m cq b0 bu bb dp du L 14)) (R := fun x y => Below x.heap.size x y) (hw.trans (by decide)) (v := (.bool false)) (w2 := x) (by simp only [execOp, e12, e13]; go_simp) hK rfl (Below.refl _ _)
  | 15, _ =>
    obtain rfl : { dst := some 120, op := Op.pick (Operand.tmp 115) (Operand.const (Value.bool true)) (Operand.tmp 119), type := 4, pos := "outright.go:39", after := #[{ on := 10, ground := Ground.data }, { on := 14, ground := Ground.data }], guard := none } = o := Option.some.inj (show whole24Ops[15]? = some _ from ho)
    obtain ⟨t10, g10⟩ := dep 10 (by kernel_rfl)
    have q10 := t10 115 (by rfl)
    have e10 := eval_at q10
    obtain ⟨t14, g14⟩ := dep 14 (by kernel_rfl)
    have q14 := t14 119 (by rfl)
    have e14 := eval_at q14
    have w10 : f 10 = (.bool false) := g10
    have w14 : f 14 = (.bool false) := g14
    rw [w10] at e10
    rw [w14] at e14
    refine inv_val (G := Kd.ok z (whole24K p pn q n c nn cn m cq b0 bu bb dp du L 15)) (R := fun x y => Below x.heap.size x y) (wanted_none rfl) (v := (.bool false)) (w2 := x) (by simp only [execOp, e10, e14]; go_simp) hK rfl (Below.refl _ _)
  | 16, _ =>
    obtain rfl : { dst := some 121, op := Op.move (Operand.tmp 120), type := 4, pos := "outright.go:39", after := #[{ on := 15, ground := Ground.data }, { on := 12, ground := Ground.chain }], guard := none } = o := Option.some.inj (show whole24Ops[16]? = some _ from ho)
    obtain ⟨t15, g15⟩ := dep 15 (by kernel_rfl)
    have q15 := t15 120 (by rfl)
    have e15 := eval_at q15
    have w15 : f 15 = (.bool false) := g15
    rw [w15] at e15
    refine inv_val (G := Kd.ok z (whole24K p pn q n c nn cn m cq b0 bu bb dp du L 16)) (R := fun x y => Below x.heap.size x y) (wanted_none rfl) (v := (.bool false)) (w2 := x) (by simp only [execOp, e15]; go_simp) hK rfl (Below.refl _ _)
  | 17, _ =>
    obtain rfl : { dst := some 122, op := Op.load 25 (Operand.tmp 2), type := 25, pos := "outright.go:39", after := #[{ on := 16, ground := Ground.guard }], guard := some (16, false) } = o := Option.some.inj (show whole24Ops[17]? = some _ from ho)
    obtain ⟨t16, g16⟩ := dep 16 (by kernel_rfl)
    have q16 := t16 121 (by rfl)
    have e16 := eval_at q16
    have v16 : f 16 = .bool false := g16
    have hw := wanted_some (ops := whole24Ops) (o := { dst := some 122, op := Op.load 25 (Operand.tmp 2), type := 25, pos := "outright.go:39", after := #[{ on := 16, ground := Ground.guard }], guard := some (16, false) }) (a := a) (j := 16) (s := 121) (b := false) (c := false) rfl (by rfl) (by rw [← v16]; exact q16)
    have qb2 := (bas 2 (by kernel_rfl)).trans h2
    have eb2 := eval_at qb2
    have hc0 := keep_cell hR ht0
    have hc1 := keep_cell hR ht1
    refine inv_val (G := Kd.ok z (whole24K p pn q n c nn cn m cq b0 bu bb dp du L 17)) (R := fun x y => Below x.heap.size x y) (hw.trans (by decide)) (v := (.agg #[.slice p n c, .slice pn nn cn])) (w2 := x) (by simp only [execOp, eb2]; go_simp) hK rfl (Below.refl _ _)
  | 18, _ =>
    obtain rfl : { dst := some 123, op := Op.fieldAddr 25 (Operand.tmp 2) 0, type := 0, pos := "outright.go:39", after := #[{ on := 16, ground := Ground.guard }], guard := some (16, false) } = o := Option.some.inj (show whole24Ops[18]? = some _ from ho)
    obtain ⟨t16, g16⟩ := dep 16 (by kernel_rfl)
    have q16 := t16 121 (by rfl)
    have e16 := eval_at q16
    have v16 : f 16 = .bool false := g16
    have hw := wanted_some (ops := whole24Ops) (o := { dst := some 123, op := Op.fieldAddr 25 (Operand.tmp 2) 0, type := 0, pos := "outright.go:39", after := #[{ on := 16, ground := Ground.guard }], guard := some (16, false) }) (a := a) (j := 16) (s := 121) (b := false) (c := false) rfl (by rfl) (by rw [← v16]; exact q16)
    have qb2 := (bas 2 (by kernel_rfl)).trans h2
    have eb2 := eval_at qb2
    have w16 : f 16 = (.bool false) := g16
    refine inv_val (G := Kd.ok z (whole24K p pn q n c nn cn m cq b0 bu bb dp du L 18)) (R := fun x y => Below x.heap.size x y) (hw.trans (by decide)) (v := (.pointer (some ⟨b0, 0, none⟩))) (w2 := x) (by simp only [execOp, eb2]; go_simp) hK rfl (Below.refl _ _)
  | 19, _ =>
    obtain rfl : { dst := some 124, op := Op.load 22 (Operand.tmp 123), type := 22, pos := "outright.go:39", after := #[{ on := 18, ground := Ground.data }, { on := 16, ground := Ground.guard }], guard := some (16, false) } = o := Option.some.inj (show whole24Ops[19]? = some _ from ho)
    obtain ⟨t16, g16⟩ := dep 16 (by kernel_rfl)
    have q16 := t16 121 (by rfl)
    have e16 := eval_at q16
    have v16 : f 16 = .bool false := g16
    have hw := wanted_some (ops := whole24Ops) (o := { dst := some 124, op := Op.load 22 (Operand.tmp 123), type := 22, pos := "outright.go:39", after := #[{ on := 18, ground := Ground.data }, { on := 16, ground := Ground.guard }], guard := some (16, false) }) (a := a) (j := 16) (s := 121) (b := false) (c := false) rfl (by rfl) (by rw [← v16]; exact q16)
    obtain ⟨t18, g18⟩ := dep 18 (by kernel_rfl)
    have q18 := t18 123 (by rfl)
    have e18 := eval_at q18
    have w18 : f 18 = (.pointer (some ⟨b0, 0, none⟩)) := g18
    rw [w18] at e18
    have hc0 := keep_cell hR ht0
    refine inv_val (G := Kd.ok z (whole24K p pn q n c nn cn m cq b0 bu bb dp du L 19)) (R := fun x y => Below x.heap.size x y) (hw.trans (by decide)) (v := (.slice p n c)) (w2 := x) (by simp only [execOp, e18]; go_simp) hK rfl (Below.refl _ _)
  | 20, _ =>
    obtain rfl : { dst := some 125, op := Op.call { callee := Callee.builtin Builtin.len, args := #[Operand.tmp 124], argTypes := #[22] }, type := 3, pos := "outright.go:39", after := #[{ on := 19, ground := Ground.data }, { on := 16, ground := Ground.guard }], guard := some (16, false) } = o := Option.some.inj (show whole24Ops[20]? = some _ from ho)
    obtain ⟨t16, g16⟩ := dep 16 (by kernel_rfl)
    have q16 := t16 121 (by rfl)
    have e16 := eval_at q16
    have v16 : f 16 = .bool false := g16
    have hw := wanted_some (ops := whole24Ops) (o := { dst := some 125, op := Op.call { callee := Callee.builtin Builtin.len, args := #[Operand.tmp 124], argTypes := #[22] }, type := 3, pos := "outright.go:39", after := #[{ on := 19, ground := Ground.data }, { on := 16, ground := Ground.guard }], guard := some (16, false) }) (a := a) (j := 16) (s := 121) (b := false) (c := false) rfl (by rfl) (by rw [← v16]; exact q16)
    obtain ⟨t19, g19⟩ := dep 19 (by kernel_rfl)
    have q19 := t19 124 (by rfl)
    have e19 := eval_at q19
    have w16 : f 16 = (.bool false) := g16
    have w19 : f 19 = (.slice p n c) := g19
    rw [w19] at e19
    refine inv_val (G := Kd.ok z (whole24K p pn q n c nn cn m cq b0 bu bb dp du L 20)) (R := fun x y => Below x.heap.size x y) (hw.trans (by decide)) (v := (.int .i64 (n : Nat))) (w2 := x) (by simp only [execOp, e19]; go_simp) hK rfl (Below.refl _ _)
  | 21, _ =>
    obtain rfl : { dst := some 126, op := Op.binOp BinOp.sub 3 (Operand.tmp 125) (Operand.const (Value.int IntKind.i64 1)) 3, type := 3, pos := "outright.go:39", after := #[{ on := 20, ground := Ground.data }, { on := 16, ground := Ground.guard }], guard := some (16, false) } = o := Option.some.inj (show whole24Ops[21]? = some _ from ho)
    obtain ⟨t16, g16⟩ := dep 16 (by kernel_rfl)
    have q16 := t16 121 (by rfl)
    have e16 := eval_at q16
    have v16 : f 16 = .bool false := g16
    have hw := wanted_some (ops := whole24Ops) (o := { dst := some 126, op := Op.binOp BinOp.sub 3 (Operand.tmp 125) (Operand.const (Value.int IntKind.i64 1)) 3, type := 3, pos := "outright.go:39", after := #[{ on := 20, ground := Ground.data }, { on := 16, ground := Ground.guard }], guard := some (16, false) }) (a := a) (j := 16) (s := 121) (b := false) (c := false) rfl (by rfl) (by rw [← v16]; exact q16)
    obtain ⟨t20, g20⟩ := dep 20 (by kernel_rfl)
    have q20 := t20 125 (by rfl)
    have e20 := eval_at q20
    have w16 : f 16 = (.bool false) := g16
    have w20 : f 20 = (.int .i64 (n : Nat)) := g20
    rw [w20] at e20
    refine inv_val (G := Kd.ok z (whole24K p pn q n c nn cn m cq b0 bu bb dp du L 21)) (R := fun x y => Below x.heap.size x y) (hw.trans (by decide)) (v := (.int .i64 ((n : Int) - 1))) (w2 := x) (by simp only [execOp, e20]; go_simp) hK rfl (Below.refl _ _)
  | 22, _ =>
    obtain rfl : { dst := some 127, op := Op.call { callee := Callee.value (Operand.func 8), args := #[Operand.tmp 122, Operand.tmp 126], argTypes := #[25, 3] }, type := 25, pos := "outright.go:39", after := #[{ on := 17, ground := Ground.data }, { on := 21, ground := Ground.data }, { on := 16, ground := Ground.chain }, { on := 16, ground := Ground.guard }], guard := some (16, false) } = o := Option.some.inj (show whole24Ops[22]? = some _ from ho)
    obtain ⟨t16, g16⟩ := dep 16 (by kernel_rfl)
    have q16 := t16 121 (by rfl)
    have e16 := eval_at q16
    have v16 : f 16 = .bool false := g16
    have hw := wanted_some (ops := whole24Ops) (o := { dst := some 127, op := Op.call { callee := Callee.value (Operand.func 8), args := #[Operand.tmp 122, Operand.tmp 126], argTypes := #[25, 3] }, type := 25, pos := "outright.go:39", after := #[{ on := 17, ground := Ground.data }, { on := 21, ground := Ground.data }, { on := 16, ground := Ground.chain }, { on := 16, ground := Ground.guard }], guard := some (16, false) }) (a := a) (j := 16) (s := 121) (b := false) (c := false) rfl (by rfl) (by rw [← v16]; exact q16)
    obtain ⟨t17, g17⟩ := dep 17 (by kernel_rfl)
    have q17 := t17 122 (by rfl)
    have e17 := eval_at q17
    obtain ⟨t21, g21⟩ := dep 21 (by kernel_rfl)
    have q21 := t21 126 (by rfl)
    have e21 := eval_at q21
    refine inv_call (G := Kd.ok z (whole24K p pn q n c nn cn m cq b0 bu bb dp du L 22)) (R := fun x y => Below x.heap.size x y) (hw.trans (by decide)) (F := 8) (args := #[f 17, f 21]) (by simp [go_sem, q17, q21]) hK ?_
    exact k_of g17 g21 (hof x hR)
  | 23, _ =>
    obtain rfl : { dst := some 128, op := Op.load 25 (Operand.tmp 8), type := 25, pos := "outright.go:39", after := #[{ on := 16, ground := Ground.guard }], guard := some (16, false) } = o := Option.some.inj (show whole24Ops[23]? = some _ from ho)
    obtain ⟨t16, g16⟩ := dep 16 (by kernel_rfl)
    have q16 := t16 121 (by rfl)
    have e16 := eval_at q16
    have v16 : f 16 = .bool false := g16
    have hw := wanted_some (ops := whole24Ops) (o := { dst := some 128, op := Op.load 25 (Operand.tmp 8), type := 25, pos := "outright.go:39", after := #[{ on := 16, ground := Ground.guard }], guard := some (16, false) }) (a := a) (j := 16) (s := 121) (b := false) (c := false) rfl (by rfl) (by rw [← v16]; exact q16)
    have qb8 := (bas 8 (by kernel_rfl)).trans h8
    have eb8 := eval_at qb8
    have hc0 := keep_cell hR hb0
    have hc1 := keep_cell hR hb1
    refine inv_val (G := Kd.ok z (whole24K p pn q n c nn cn m cq b0 bu bb dp du L 23)) (R := fun x y => Below x.heap.size x y) (hw.trans (by decide)) (v := (.agg #[.slice p n c, .slice none 0 0])) (w2 := x) (by simp only [execOp, eb8]; go_simp) hK rfl (Below.refl _ _)
  | 24, _ =>
    obtain rfl : { dst := some 129, op := Op.call { callee := Callee.value (Operand.func 10), args := #[Operand.tmp 127, Operand.tmp 128], argTypes := #[25, 25] }, type := 4, pos := "outright.go:39", after := #[{ on := 22, ground := Ground.data }, { on := 23, ground := Ground.data }, { on := 22, ground := Ground.chain }, { on := 16, ground := Ground.guard }], guard := some (16, false) } = o := Option.some.inj (show whole24Ops[24]? = some _ from ho)
    obtain ⟨t16, g16⟩ := dep 16 (by kernel_rfl)
    have q16 := t16 121 (by rfl)
    have e16 := eval_at q16
    have v16 : f 16 = .bool false := g16
    have hw := wanted_some (ops := whole24Ops) (o := { dst := some 129, op := Op.call { callee := Callee.value (Operand.func 10), args := #[Operand.tmp 127, Operand.tmp 128], argTypes := #[25, 25] }, type := 4, pos := "outright.go:39", after := #[{ on := 22, ground := Ground.data }, { on := 23, ground := Ground.data }, { on := 22, ground := Ground.chain }, { on := 16, ground := Ground.guard }], guard := some (16, false) }) (a := a) (j := 16) (s := 121) (b := false) (c := false) rfl (by rfl) (by rw [← v16]; exact q16)
    obtain ⟨t22, g22⟩ := dep 22 (by kernel_rfl)
    have q22 := t22 127 (by rfl)
    have e22 := eval_at q22
    obtain ⟨t23, g23⟩ := dep 23 (by kernel_rfl)
    have q23 := t23 128 (by rfl)
    have e23 := eval_at q23
    refine inv_call (G := Kd.ok z (whole24K p pn q n c nn cn m cq b0 bu bb dp du L 24)) (R := fun x y => Below x.heap.size x y) (hw.trans (by decide)) (F := 10) (args := #[f 22, f 23]) (by simp [go_sem, q22, q23]) hK ?_
    exact k_same g22 g23 (fun q m cq ys h => hsame x q m cq ys hR h)
  | 25, _ =>
    obtain rfl : { dst := some 130, op := Op.unOp UnOp.not 4 (Operand.tmp 129), type := 4, pos := "outright.go:39", after := #[{ on := 24, ground := Ground.data }, { on := 16, ground := Ground.guard }], guard := some (16, false) } = o := Option.some.inj (show whole24Ops[25]? = some _ from ho)
    obtain ⟨t16, g16⟩ := dep 16 (by kernel_rfl)
    have q16 := t16 121 (by rfl)
    have e16 := eval_at q16
    have v16 : f 16 = .bool false := g16
    have hw := wanted_some (ops := whole24Ops) (o := { dst := some 130, op := Op.unOp UnOp.not 4 (Operand.tmp 129), type := 4, pos := "outright.go:39", after := #[{ on := 24, ground := Ground.data }, { on := 16, ground := Ground.guard }], guard := some (16, false) }) (a := a) (j := 16) (s := 121) (b := false) (c := false) rfl (by rfl) (by rw [← v16]; exact q16)
    obtain ⟨t24, g24⟩ := dep 24 (by kernel_rfl)
    have q24 := t24 129 (by rfl)
    have e24 := eval_at q24
    have w16 : f 16 = (.bool false) := g16
    have w24 : f 24 = (.bool true) := g24
    rw [w24] at e24
    refine inv_val (G := Kd.ok z (whole24K p pn q n c nn cn m cq b0 bu bb dp du L 25)) (R := fun x y => Below x.heap.size x y) (hw.trans (by decide)) (v := (.bool false)) (w2 := x) (by simp only [execOp, e24]; go_simp) hK rfl (Below.refl _ _)
  | 26, _ =>
    obtain rfl : { dst := some 131, op := Op.pick (Operand.tmp 121) (Operand.const (Value.bool true)) (Operand.tmp 130), type := 4, pos := "outright.go:39", after := #[{ on := 16, ground := Ground.data }, { on := 25, ground := Ground.data }], guard := none } = o := Option.some.inj (show whole24Ops[26]? = some _ from ho)
    obtain ⟨t16, g16⟩ := dep 16 (by kernel_rfl)
    have q16 := t16 121 (by rfl)
    have e16 := eval_at q16
    obtain ⟨t25, g25⟩ := dep 25 (by kernel_rfl)
    have q25 := t25 130 (by rfl)
    have e25 := eval_at q25
    have w16 : f 16 = (.bool false) := g16
    have w25 : f 25 = (.bool false) := g25
    rw [w16] at e16
    rw [w25] at e25
    refine inv_val (G := Kd.ok z (whole24K p pn q n c nn cn m cq b0 bu bb dp du L 26)) (R := fun x y => Below x.heap.size x y) (wanted_none rfl) (v := (.bool false)) (w2 := x) (by simp only [execOp, e16, e25]; go_simp) hK rfl (Below.refl _ _)
end Go.Proofs.YtpiknmnhcpjfaaaGreat
