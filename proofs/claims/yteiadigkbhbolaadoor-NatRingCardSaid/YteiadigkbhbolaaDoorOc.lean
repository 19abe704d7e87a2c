/- NatRing: its eleventh and thirteenth regions, in whatever order its operations come up. -/
import Derived.Test.YteiadigkbhbolaaDoorOa
namespace Go.Proofs.YteiadigkbhbolaaDoor
open Go.RowKit Tnd

def ring11Ops : Array Oper := #[{ dst := some 60, op := Op.move (Operand.tmp 9), type := 32, pos := "outright.go:22", after := #[], guard := none },
  { dst := some 61, op := Op.move (Operand.tmp 10), type := 3, pos := "outright.go:22", after := #[], guard := none },
  { dst := some 62, op := Op.indexAddr 32 (Operand.tmp 60) (Operand.tmp 61), type := 0, pos := "outright.go:22", after := #[{ on := 0, ground := Ground.data }, { on := 1, ground := Ground.data }], guard := none },
  { dst := some 63, op := Op.load 25 (Operand.tmp 62), type := 25, pos := "outright.go:22", after := #[{ on := 2, ground := Ground.data }], guard := none },
  { dst := some 64, op := Op.call { callee := Callee.value (Operand.func 14), args := #[Operand.tmp 63], argTypes := #[25] }, type := 4, pos := "outright.go:22", after := #[{ on := 3, ground := Ground.data }], guard := none },
  { dst := some 65, op := Op.unOp UnOp.not 4 (Operand.tmp 64), type := 4, pos := "outright.go:22", after := #[{ on := 4, ground := Ground.data }], guard := none },
  { dst := some 66, op := Op.move (Operand.tmp 65), type := 4, pos := "outright.go:22", after := #[{ on := 5, ground := Ground.data }, { on := 4, ground := Ground.chain }], guard := none },
  { dst := some 67, op := Op.move (Operand.tmp 12), type := 4, pos := "outright.go:22", after := #[{ on := 6, ground := Ground.guard }], guard := some (6, false) },
  { dst := some 68, op := Op.unOp UnOp.not 4 (Operand.tmp 67), type := 4, pos := "outright.go:22", after := #[{ on := 7, ground := Ground.data }, { on := 6, ground := Ground.guard }], guard := some (6, false) },
  { dst := some 69, op := Op.pick (Operand.tmp 66) (Operand.const (Value.bool true)) (Operand.tmp 68), type := 4, pos := "outright.go:22", after := #[{ on := 6, ground := Ground.data }, { on := 8, ground := Ground.data }], guard := none },
  { dst := some 70, op := Op.move (Operand.tmp 69), type := 4, pos := "outright.go:22", after := #[{ on := 9, ground := Ground.data }, { on := 6, ground := Ground.chain }], guard := none },
  { dst := some 71, op := Op.load 25 (Operand.tmp 11), type := 25, pos := "outright.go:22", after := #[{ on := 10, ground := Ground.guard }], guard := some (10, false) },
  { dst := some 72, op := Op.move (Operand.tmp 9), type := 32, pos := "outright.go:22", after := #[{ on := 10, ground := Ground.guard }], guard := some (10, false) },
  { dst := some 73, op := Op.move (Operand.tmp 10), type := 3, pos := "outright.go:22", after := #[{ on := 10, ground := Ground.guard }], guard := some (10, false) },
  { dst := some 74, op := Op.indexAddr 32 (Operand.tmp 72) (Operand.tmp 73), type := 0, pos := "outright.go:22", after := #[{ on := 12, ground := Ground.data }, { on := 13, ground := Ground.data }, { on := 10, ground := Ground.guard }], guard := some (10, false) },
  { dst := some 75, op := Op.load 25 (Operand.tmp 74), type := 25, pos := "outright.go:22", after := #[{ on := 14, ground := Ground.data }, { on := 10, ground := Ground.guard }], guard := some (10, false) },
  { dst := some 76, op := Op.call { callee := Callee.value (Operand.func 9), args := #[Operand.tmp 71, Operand.tmp 75], argTypes := #[25, 25] }, type := 4, pos := "outright.go:22", after := #[{ on := 11, ground := Ground.data }, { on := 15, ground := Ground.data }, { on := 10, ground := Ground.chain }, { on := 10, ground := Ground.guard }], guard := some (10, false) },
  { dst := some 77, op := Op.unOp UnOp.not 4 (Operand.tmp 76), type := 4, pos := "outright.go:22", after := #[{ on := 16, ground := Ground.data }, { on := 10, ground := Ground.guard }], guard := some (10, false) },
  { dst := some 78, op := Op.pick (Operand.tmp 70) (Operand.const (Value.bool true)) (Operand.tmp 77), type := 4, pos := "outright.go:22", after := #[{ on := 10, ground := Ground.data }, { on := 17, ground := Ground.data }], guard := none }]
def ring11Pre : Array Bool := #[true, true, true, true, true, true, true, true, true, true, true, true, true, true, true, true, true, true, true]
def ring11K (A b9 k : Nat) : Nat → Kd
  | 0 => .val (.slice (some ⟨b9, 0, none⟩) 6 6)
  | 1 => .val (.int .i64 (k : Nat))
  | 2 => .val (.pointer (some ⟨b9, k, none⟩))
  | 3 => .fre A
  | 4 => .val (.bool true)
  | 5 => .val (.bool false)
  | 6 => .val (.bool false)
  | 7 => .val (.bool true)
  | 8 => .val (.bool false)
  | 9 => .val (.bool false)
  | 10 => .val (.bool false)
  | 11 => .fre A
  | 12 => .val (.slice (some ⟨b9, 0, none⟩) 6 6)
  | 13 => .val (.int .i64 (k : Nat))
  | 14 => .val (.pointer (some ⟨b9, k, none⟩))
  | 15 => .fre A
  | 16 => .val (.bool true)
  | 17 => .val (.bool false)
  | 18 => .val (.bool false)
  | _ => .val undef
theorem ring11_slots (f : Nat → Value) : slotsOf ring11Ops ring11Pre f = [(60, f 0), (61, f 1), (62, f 2), (63, f 3), (64, f 4), (65, f 5), (66, f 6), (67, f 7), (68, f 8), (69, f 9), (70, f 10), (71, f 11), (72, f 12), (73, f 13), (74, f 14), (75, f 15), (76, f 16), (77, f 17), (78, f 18)] := by kernel_rfl
set_option maxHeartbeats 6400000 in
set_option maxRecDepth 100000 in
theorem ring11_wp {Q : Exit → Act → World → Prop} {a0 : Act} {w : World} {z : Nat} (A b9 k : Nat) (hz : z ≤ w.drew.heap.size) (hsize : a0.tmps.size = 191) (b11 : Nat) (hkI : (k : Int) < 6) (h9 : a0.tmps[9]? = some (.slice (some ⟨b9, 0, none⟩) 6 6)) (h10 : a0.tmps[10]? = some (.int .i64 (k : Nat))) (h12 : a0.tmps[12]? = some (.bool true)) (h11 : a0.tmps[11]? = some (.pointer (some ⟨b11, 0, none⟩))) (C11 : Held z w.drew b11 (.fre A)) (C9 : HeldA z w.drew ⟨b9, k, none⟩ (.fre A))
    (fin : ∀ (f : Nat → Value) (y : World), (∀ j, j < 19 → ring11Pre.getD j false = true → Kd.ok z (ring11K A b9 k j) (f j) y) → Below w.drew.heap.size w.drew y → Q .normal (putL a0 [(60, f 0), (61, f 1), (62, f 2), (63, f 3), (64, f 4), (65, f 5), (66, f 6), (67, f 7), (68, f 8), (69, f 9), (70, f 10), (71, f 11), (72, f 12), (73, f 13), (74, f 14), (75, f 15), (76, f 16), (77, f 17), (78, f 18)]) y) (id : Nat) :
    (Code.region id ring11Ops true).wp Tryd.prog Q a0 w := by
  refine wp_region_inv ring11Pre (fun j => Kd.ok z (ring11K A b9 k j)) (fun x y => Below x.heap.size x y) 19 0 (by kernel_rfl) (by kernel_rfl) (by rw [hsize]; kernel_rfl) (by kernel_rfl) (by kernel_rfl) (Below.refl _ _) (fun _ _ _ h1 h2 => bl_trans h1 h2) (fun _ _ _ _ h1 h2 => Kd.below h1 h2) ?_ (fun f y h1 h2 => by rw [ring11_slots]; exact any_end (by kernel_rfl) (fin f y h1 h2) 0)
  intro i o ho hp f a x hR hbase hdeps K hK
  have hi : i < 19 := by
    rcases Nat.lt_or_ge i 19 with h | h
    · exact h
    · have : ring11Ops.size ≤ i := h
      rw [Array.getElem?_eq_none this] at ho; cases ho
  have hzx : z ≤ x.heap.size := Nat.le_trans hz hR.size
  have dep : ∀ j, (o.after.any fun e => Region.binds .any e && e.on == j) = true → (∀ s, slotOf ring11Ops j = some s → a.tmps[s]? = some (f j)) ∧ Kd.ok z (ring11K A b9 k j) (f j) x := by
    intro j h
    obtain ⟨e, he, h2⟩ := Array.any_eq_true'.1 h
    simp only [Bool.and_eq_true, beq_iff_eq] at h2
    obtain ⟨h3, rfl⟩ := h2
    exact hdeps e he h3
  have bas : ∀ s, ((List.range ring11Ops.size).all fun j => slotOf ring11Ops j != some s) = true → a.tmps[s]? = a0.tmps[s]? := by
    intro s h
    refine hbase s fun j hj _ e => ?_
    have h2 := (List.all_eq_true.1 h) j (List.mem_range.2 hj)
    rw [e] at h2; simp at h2
  match i, hi with
  | 0, _ =>
    obtain rfl : { dst := some 60, op := Op.move (Operand.tmp 9), type := 32, pos := "outright.go:22", after := #[], guard := none } = o := Option.some.inj (show ring11Ops[0]? = some _ from ho)
    have qb9 := (bas 9 (by kernel_rfl)).trans h9
    have eb9 := eval_at qb9
    refine inv_val (G := Kd.ok z (ring11K A b9 k 0)) (R := fun x y => Below x.heap.size x y) (wanted_none rfl) (v := (.slice (some ⟨b9, 0, none⟩) 6 6)) (w2 := x) (by simp only [execOp, eb9]; go_simp) hK rfl (Below.refl _ _)
  | 1, _ =>
    obtain rfl : { dst := some 61, op := Op.move (Operand.tmp 10), type := 3, pos := "outright.go:22", after := #[], guard := none } = o := Option.some.inj (show ring11Ops[1]? = some _ from ho)
    have qb10 := (bas 10 (by kernel_rfl)).trans h10
    have eb10 := eval_at qb10
    refine inv_val (G := Kd.ok z (ring11K A b9 k 1)) (R := fun x y => Below x.heap.size x y) (wanted_none rfl) (v := (.int .i64 (k : Nat))) (w2 := x) (by simp only [execOp, eb10]; go_simp) hK rfl (Below.refl _ _)
  | 2, _ =>
    obtain rfl : { dst := some 62, op := Op.indexAddr 32 (Operand.tmp 60) (Operand.tmp 61), type := 0, pos := "outright.go:22", after := #[{ on := 0, ground := Ground.data }, { on := 1, ground := Ground.data }], guard := none } = o := Option.some.inj (show ring11Ops[2]? = some _ from ho)
    obtain ⟨t0, g0⟩ := dep 0 (by kernel_rfl)
    have q0 := t0 60 (by rfl)
    have e0 := eval_at q0
    obtain ⟨t1, g1⟩ := dep 1 (by kernel_rfl)
    have q1 := t1 61 (by rfl)
    have e1 := eval_at q1
    have w0 : f 0 = (.slice (some ⟨b9, 0, none⟩) 6 6) := g0
    have w1 : f 1 = (.int .i64 (k : Nat)) := g1
    rw [w0] at e0
    rw [w1] at e1
    refine inv_val (G := Kd.ok z (ring11K A b9 k 2)) (R := fun x y => Below x.heap.size x y) (wanted_none rfl) (v := (.pointer (some ⟨b9, k, none⟩))) (w2 := x) (by simp only [execOp, e0, e1]; go_simp) hK rfl (Below.refl _ _)
  | 3, _ =>
    obtain rfl : { dst := some 63, op := Op.load 25 (Operand.tmp 62), type := 25, pos := "outright.go:22", after := #[{ on := 2, ground := Ground.data }], guard := none } = o := Option.some.inj (show ring11Ops[3]? = some _ from ho)
    obtain ⟨t2, g2⟩ := dep 2 (by kernel_rfl)
    have q2 := t2 62 (by rfl)
    have e2 := eval_at q2
    have w2 : f 2 = (.pointer (some ⟨b9, k, none⟩)) := g2
    rw [w2] at e2
    have eb62 := e2
    obtain ⟨xc, hc, hk⟩ := C9.below hR
    refine inv_val (G := Kd.ok z (ring11K A b9 k 3)) (R := fun x y => Below x.heap.size x y) (wanted_none rfl) (v := .agg #[xc]) (w2 := x) (by simp only [execOp, eb62]; go_simp) hK hk (Below.refl _ _)
  | 4, _ =>
    obtain rfl : { dst := some 64, op := Op.call { callee := Callee.value (Operand.func 14), args := #[Operand.tmp 63], argTypes := #[25] }, type := 4, pos := "outright.go:22", after := #[{ on := 3, ground := Ground.data }], guard := none } = o := Option.some.inj (show ring11Ops[4]? = some _ from ho)
    obtain ⟨t3, g3⟩ := dep 3 (by kernel_rfl)
    have q3 := t3 63 (by rfl)
    have e3 := eval_at q3
    refine inv_call (G := Kd.ok z (ring11K A b9 k 4)) (R := fun x y => Below x.heap.size x y) (wanted_none rfl) (F := 14) (args := #[f 3]) (by simp [go_sem, q3]) hK ?_
    exact k_right g3
  | 5, _ =>
    obtain rfl : { dst := some 65, op := Op.unOp UnOp.not 4 (Operand.tmp 64), type := 4, pos := "outright.go:22", after := #[{ on := 4, ground := Ground.data }], guard := none } = o := Option.some.inj (show ring11Ops[5]? = some _ from ho)
    obtain ⟨t4, g4⟩ := dep 4 (by kernel_rfl)
    have q4 := t4 64 (by rfl)
    have e4 := eval_at q4
    have w4 : f 4 = (.bool true) := g4
    rw [w4] at e4
    refine inv_val (G := Kd.ok z (ring11K A b9 k 5)) (R := fun x y => Below x.heap.size x y) (wanted_none rfl) (v := (.bool false)) (w2 := x) (by simp only [execOp, e4]; go_simp) hK rfl (Below.refl _ _)
  | 6, _ =>
    obtain rfl : { dst := some 66, op := Op.move (Operand.tmp 65), type := 4, pos := "outright.go:22", after := #[{ on := 5, ground := Ground.data }, { on := 4, ground := Ground.chain }], guard := none } = o := Option.some.inj (show ring11Ops[6]? = some _ from ho)
    obtain ⟨t5, g5⟩ := dep 5 (by kernel_rfl)
    have q5 := t5 65 (by rfl)
    have e5 := eval_at q5
    have w5 : f 5 = (.bool false) := g5
    rw [w5] at e5
    refine inv_val (G := Kd.ok z (ring11K A b9 k 6)) (R := fun x y => Below x.heap.size x y) (wanted_none rfl) (v := (.bool false)) (w2 := x) (by simp only [execOp, e5]; go_simp) hK rfl (Below.refl _ _)
  | 7, _ =>
    obtain rfl : { dst := some 67, op := Op.move (Operand.tmp 12), type := 4, pos := "outright.go:22", after := #[{ on := 6, ground := Ground.guard }], guard := some (6, false) } = o := Option.some.inj (show ring11Ops[7]? = some _ from ho)
    obtain ⟨t6, g6⟩ := dep 6 (by kernel_rfl)
    have q6 := t6 66 (by rfl)
    have e6 := eval_at q6
    have v6 : f 6 = .bool false := g6
    have hw := wanted_some (ops := ring11Ops) (o := { dst := some 67, op := Op.move (Operand.tmp 12), type := 4, pos := "outright.go:22", after := #[{ on := 6, ground := Ground.guard }], guard := some (6, false) }) (a := a) (j := 6) (s := 66) (b := false) (c := false) rfl (by rfl) (by rw [← v6]; exact q6)
    have qb12 := (bas 12 (by kernel_rfl)).trans h12
    have eb12 := eval_at qb12
    have w6 : f 6 = (.bool false) := g6
    refine inv_val (G := Kd.ok z (ring11K A b9 k 7)) (R := fun x y => Below x.heap.size x y) (hw.trans (by decide)) (v := (.bool true)) (w2 := x) (by simp only [execOp, eb12]; go_simp) hK rfl (Below.refl _ _)
  | 8, _ =>
    obtain rfl : { dst := some 68, op := Op.unOp UnOp.not 4 (Operand.tmp 67), type := 4, pos := "outright.go:22", after := #[{ on := 7, ground := Ground.data }, { on := 6, ground := Ground.guard }], guard := some (6, false) } = o := Option.some.inj (show ring11Ops[8]? = some _ from ho)
    obtain ⟨t6, g6⟩ := dep 6 (by kernel_rfl)
    have q6 := t6 66 (by rfl)
    have e6 := eval_at q6
    have v6 : f 6 = .bool false := g6
    have hw := wanted_some (ops := ring11Ops) (o := { dst := some 68, op := Op.unOp UnOp.not 4 (Operand.tmp 67), type := 4, pos := "outright.go:22", after := #[{ on := 7, ground := Ground.data }, { on := 6, ground := Ground.guard }], guard := some (6, false) }) (a := a) (j := 6) (s := 66) (b := false) (c := false) rfl (by rfl) (by rw [← v6]; exact q6)
    obtain ⟨t7, g7⟩ := dep 7 (by kernel_rfl)
    have q7 := t7 67 (by rfl)
    have e7 := eval_at q7
    have w6 : f 6 = (.bool false) := g6
    have w7 : f 7 = (.bool true) := g7
    rw [w7] at e7
    refine inv_val (G := Kd.ok z (ring11K A b9 k 8)) (R := fun x y => Below x.heap.size x y) (hw.trans (by decide)) (v := (.bool false)) (w2 := x) (by simp only [execOp, e7]; go_simp) hK rfl (Below.refl _ _)
  | 9, _ =>
    obtain rfl : { dst := some 69, op := Op.pick (Operand.tmp 66) (Operand.const (Value.bool true)) (Operand.tmp 68), type := 4, pos := "outright.go:22", after := #[{ on := 6, ground := Ground.data }, { on := 8, ground := Ground.data }], guard := none } = o := Option.some.inj (show ring11Ops[9]? = some _ from ho)
    obtain ⟨t6, g6⟩ := dep 6 (by kernel_rfl)
    have q6 := t6 66 (by rfl)
    have e6 := eval_at q6
    obtain ⟨t8, g8⟩ := dep 8 (by kernel_rfl)
    have q8 := t8 68 (by rfl)
    have e8 := eval_at q8
    have w6 : f 6 = (.bool false) := g6
    have w8 : f 8 = (.bool false) := g8
    rw [w6] at e6
    rw [w8] at e8
    refine inv_val (G := Kd.ok z (ring11K A b9 k 9)) (R := fun x y => Below x.heap.size x y) (wanted_none rfl) (v := (.bool false)) (w2 := x) (by simp only [execOp, e6, e8]; go_simp) hK rfl (Below.refl _ _)
  | 10, _ =>
    obtain rfl : { dst := some 70, op := Op.move (Operand.tmp 69), type := 4, pos := "outright.go:22", after := #[{ on := 9, ground := Ground.data }, { on := 6, ground := Ground.chain }], guard := none } = o := Option.some.inj (show ring11Ops[10]? = some _ from ho)
    obtain ⟨t9, g9⟩ := dep 9 (by kernel_rfl)
    have q9 := t9 69 (by rfl)
    have e9 := eval_at q9
    have w9 : f 9 = (.bool false) := g9
    rw [w9] at e9
    refine inv_val (G := Kd.ok z (ring11K A b9 k 10)) (R := fun x y => Below x.heap.size x y) (wanted_none rfl) (v := (.bool false)) (w2 := x) (by simp only [execOp, e9]; go_simp) hK rfl (Below.refl _ _)
  | 11, _ =>
    obtain rfl : { dst := some 71, op := Op.load 25 (Operand.tmp 11), type := 25, pos := "outright.go:22", after := #[{ on := 10, ground := Ground.guard }], guard := some (10, false) } = o := Option.some.inj (show ring11Ops[11]? = some _ from ho)
    obtain ⟨t10, g10⟩ := dep 10 (by kernel_rfl)
    have q10 := t10 70 (by rfl)
    have e10 := eval_at q10
    have v10 : f 10 = .bool false := g10
    have hw := wanted_some (ops := ring11Ops) (o := { dst := some 71, op := Op.load 25 (Operand.tmp 11), type := 25, pos := "outright.go:22", after := #[{ on := 10, ground := Ground.guard }], guard := some (10, false) }) (a := a) (j := 10) (s := 70) (b := false) (c := false) rfl (by rfl) (by rw [← v10]; exact q10)
    have qb11 := (bas 11 (by kernel_rfl)).trans h11
    have eb11 := eval_at qb11
    obtain ⟨xc, hc, hk⟩ := C11.below hR
    refine inv_val (G := Kd.ok z (ring11K A b9 k 11)) (R := fun x y => Below x.heap.size x y) (hw.trans (by decide)) (v := .agg #[xc]) (w2 := x) (by simp only [execOp, eb11]; go_simp) hK hk (Below.refl _ _)
  | 12, _ =>
    obtain rfl : { dst := some 72, op := Op.move (Operand.tmp 9), type := 32, pos := "outright.go:22", after := #[{ on := 10, ground := Ground.guard }], guard := some (10, false) } = o := Option.some.inj (show ring11Ops[12]? = some _ from ho)
    obtain ⟨t10, g10⟩ := dep 10 (by kernel_rfl)
    have q10 := t10 70 (by rfl)
    have e10 := eval_at q10
    have v10 : f 10 = .bool false := g10
    have hw := wanted_some (ops := ring11Ops) (o := { dst := some 72, op := Op.move (Operand.tmp 9), type := 32, pos := "outright.go:22", after := #[{ on := 10, ground := Ground.guard }], guard := some (10, false) }) (a := a) (j := 10) (s := 70) (b := false) (c := false) rfl (by rfl) (by rw [← v10]; exact q10)
    have qb9 := (bas 9 (by kernel_rfl)).trans h9
    have eb9 := eval_at qb9
    have w10 : f 10 = (.bool false) := g10
    refine inv_val (G := Kd.ok z (ring11K A b9 k 12)) (R := fun x y => Below x.heap.size x y) (hw.trans (by decide)) (v := (.slice (some ⟨b9, 0, none⟩) 6 6)) (w2 := x) (by simp only [execOp, eb9]; go_simp) hK rfl (Below.refl _ _)
  | 13, _ =>
    obtain rfl : { dst := some 73, op := Op.move (Operand.tmp 10), type := 3, pos := "outright.go:22", after := #[{ on := 10, ground := Ground.guard }], guard := some (10, false) } = o := Option.some.inj (show ring11Ops[13]? = some _ from ho)
    obtain ⟨t10, g10⟩ := dep 10 (by kernel_rfl)
    have q10 := t10 70 (by rfl)
    have e10 := eval_at q10
    have v10 : f 10 = .bool false := g10
    have hw := wanted_some (ops := ring11Ops) (o := { dst := some 73, op := Op.move (Operand.tmp 10), type := 3, pos := "outright.go:22", after := #[{ on := 10, ground := Ground.guard }], guard := some (10, false) }) (a := a) (j := 10) (s := 70) (b := false) (c := false) rfl (by rfl) (by rw [← v10]; exact q10)
    have qb10 := (bas 10 (by kernel_rfl)).trans h10
    have eb10 := eval_at qb10
    have w10 : f 10 = (.bool false) := g10
    refine inv_val (G := Kd.ok z (ring11K A b9 k 13)) (R := fun x y => Below x.heap.size x y) (hw.trans (by decide)) (v := (.int .i64 (k : Nat))) (w2 := x) (by simp only [execOp, eb10]; go_simp) hK rfl (Below.refl _ _)
  | 14, _ =>
    obtain rfl : { dst := some 74, op := Op.indexAddr 32 (Operand.tmp 72) (Operand.tmp 73), type := 0, pos := "outright.go:22", after := #[{ on := 12, ground := Ground.data }, { on := 13, ground := Ground.data }, { on := 10, ground := Ground.guard }], guard := some (10, false) } = o := Option.some.inj (show ring11Ops[14]? = some _ from ho)
    obtain ⟨t10, g10⟩ := dep 10 (by kernel_rfl)
    have q10 := t10 70 (by rfl)
    have e10 := eval_at q10
    have v10 : f 10 = .bool false := g10
    have hw := wanted_some (ops := ring11Ops) (o := { dst := some 74, op := Op.indexAddr 32 (Operand.tmp 72) (Operand.tmp 73), type := 0, pos := "outright.go:22", after := #[{ on := 12, ground := Ground.data }, { on := 13, ground := Ground.data }, { on := 10, ground := Ground.guard }], guard := some (10, false) }) (a := a) (j := 10) (s := 70) (b := false) (c := false) rfl (by rfl) (by rw [← v10]; exact q10)
    obtain ⟨t12, g12⟩ := dep 12 (by kernel_rfl)
    have q12 := t12 72 (by rfl)
    have e12 := eval_at q12
    obtain ⟨t13, g13⟩ := dep 13 (by kernel_rfl)
    have q13 := t13 73 (by rfl)
    have e13 := eval_at q13
    have w10 : f 10 = (.bool false) := g10
    have w12 : f 12 = (.slice (some ⟨b9, 0, none⟩) 6 6) := g12
    have w13 : f 13 = (.int .i64 (k : Nat)) := g13
    rw [w12] at e12
    rw [w13] at e13
    refine inv_val (G := Kd.ok z (ring11K A b9 k 14)) (R := fun x y => Below x.heap.size x y) (hw.trans (by decide)) (v := (.pointer (some ⟨b9, k, none⟩))) (w2 := x) (by simp only [execOp, e12, e13]; go_simp) hK rfl (Below.refl _ _)
  | 15, _ =>
    obtain rfl : { dst := some 75, op := Op.load 25 (Operand.tmp 74), type := 25, pos := "outright.go:22", after := #[{ on := 14, ground := Ground.data }, { on := 10, ground := Ground.guard }], guard := some (10, false) } = o := Option.some.inj (show ring11Ops[15]? = some _ from ho)
    obtain ⟨t10, g10⟩ := dep 10 (by kernel_rfl)
    have q10 := t10 70 (by rfl)
    have e10 := eval_at q10
    have v10 : f 10 = .bool false := g10
    have hw := wanted_some (ops := ring11Ops) (o := { dst := some 75, op := Op.load 25 (Operand.tmp 74), type := 25, pos := "outright.go:22", after := #[{ on := 14, ground := Ground.data }, { on := 10, ground := Ground.guard }], guard := some (10, false) }) (a := a) (j := 10) (s := 70) (b := false) (c := false) rfl (by rfl) (by rw [← v10]; exact q10)
    obtain ⟨t14, g14⟩ := dep 14 (by kernel_rfl)
    have q14 := t14 74 (by rfl)
    have e14 := eval_at q14
    have w14 : f 14 = (.pointer (some ⟨b9, k, none⟩)) := g14
    rw [w14] at e14
    have eb74 := e14
    obtain ⟨xc, hc, hk⟩ := C9.below hR
    refine inv_val (G := Kd.ok z (ring11K A b9 k 15)) (R := fun x y => Below x.heap.size x y) (hw.trans (by decide)) (v := .agg #[xc]) (w2 := x) (by simp only [execOp, eb74]; go_simp) hK hk (Below.refl _ _)
  | 16, _ =>
    obtain rfl : { dst := some 76, op := Op.call { callee := Callee.value (Operand.func 9), args := #[Operand.tmp 71, Operand.tmp 75], argTypes := #[25, 25] }, type := 4, pos := "outright.go:22", after := #[{ on := 11, ground := Ground.data }, { on := 15, ground := Ground.data }, { on := 10, ground := Ground.chain }, { on := 10, ground := Ground.guard }], guard := some (10, false) } = o := Option.some.inj (show ring11Ops[16]? = some _ from ho)
    obtain ⟨t10, g10⟩ := dep 10 (by kernel_rfl)
    have q10 := t10 70 (by rfl)
    have e10 := eval_at q10
    have v10 : f 10 = .bool false := g10
    have hw := wanted_some (ops := ring11Ops) (o := { dst := some 76, op := Op.call { callee := Callee.value (Operand.func 9), args := #[Operand.tmp 71, Operand.tmp 75], argTypes := #[25, 25] }, type := 4, pos := "outright.go:22", after := #[{ on := 11, ground := Ground.data }, { on := 15, ground := Ground.data }, { on := 10, ground := Ground.chain }, { on := 10, ground := Ground.guard }], guard := some (10, false) }) (a := a) (j := 10) (s := 70) (b := false) (c := false) rfl (by rfl) (by rw [← v10]; exact q10)
    obtain ⟨t11, g11⟩ := dep 11 (by kernel_rfl)
    have q11 := t11 71 (by rfl)
    have e11 := eval_at q11
    obtain ⟨t15, g15⟩ := dep 15 (by kernel_rfl)
    have q15 := t15 75 (by rfl)
    have e15 := eval_at q15
    refine inv_call (G := Kd.ok z (ring11K A b9 k 16)) (R := fun x y => Below x.heap.size x y) (hw.trans (by decide)) (F := 9) (args := #[f 11, f 15]) (by simp [go_sem, q11, q15]) hK ?_
    exact k_same g11 g15
  | 17, _ =>
    obtain rfl : { dst := some 77, op := Op.unOp UnOp.not 4 (Operand.tmp 76), type := 4, pos := "outright.go:22", after := #[{ on := 16, ground := Ground.data }, { on := 10, ground := Ground.guard }], guard := some (10, false) } = o := Option.some.inj (show ring11Ops[17]? = some _ from ho)
    obtain ⟨t10, g10⟩ := dep 10 (by kernel_rfl)
    have q10 := t10 70 (by rfl)
    have e10 := eval_at q10
    have v10 : f 10 = .bool false := g10
    have hw := wanted_some (ops := ring11Ops) (o := { dst := some 77, op := Op.unOp UnOp.not 4 (Operand.tmp 76), type := 4, pos := "outright.go:22", after := #[{ on := 16, ground := Ground.data }, { on := 10, ground := Ground.guard }], guard := some (10, false) }) (a := a) (j := 10) (s := 70) (b := false) (c := false) rfl (by rfl) (by rw [← v10]; exact q10)
    obtain ⟨t16, g16⟩ := dep 16 (by kernel_rfl)
    have q16 := t16 76 (by rfl)
    have e16 := eval_at q16
    have w10 : f 10 = (.bool false) := g10
    have w16 : f 16 = (.bool true) := g16
    rw [w16] at e16
    refine inv_val (G := Kd.ok z (ring11K A b9 k 17)) (R := fun x y => Below x.heap.size x y) (hw.trans (by decide)) (v := (.bool false)) (w2 := x) (by simp only [execOp, e16]; go_simp) hK rfl (Below.refl _ _)
  | 18, _ =>
    obtain rfl : { dst := some 78, op := Op.pick (Operand.tmp 70) (Operand.const (Value.bool true)) (Operand.tmp 77), type := 4, pos := "outright.go:22", after := #[{ on := 10, ground := Ground.data }, { on := 17, ground := Ground.data }], guard := none } = o := Option.some.inj (show ring11Ops[18]? = some _ from ho)
    obtain ⟨t10, g10⟩ := dep 10 (by kernel_rfl)
    have q10 := t10 70 (by rfl)
    have e10 := eval_at q10
    obtain ⟨t17, g17⟩ := dep 17 (by kernel_rfl)
    have q17 := t17 77 (by rfl)
    have e17 := eval_at q17
    have w10 : f 10 = (.bool false) := g10
    have w17 : f 17 = (.bool false) := g17
    rw [w10] at e10
    rw [w17] at e17
    refine inv_val (G := Kd.ok z (ring11K A b9 k 18)) (R := fun x y => Below x.heap.size x y) (wanted_none rfl) (v := (.bool false)) (w2 := x) (by simp only [execOp, e10, e17]; go_simp) hK rfl (Below.refl _ _)
def ring15Ops : Array Oper := #[{ dst := some 123, op := Op.load 25 (Operand.tmp 3), type := 25, pos := "outright.go:29", after := #[], guard := none },
  { dst := some 124, op := Op.load 25 (Operand.tmp 4), type := 25, pos := "outright.go:29", after := #[], guard := none },
  { dst := some 125, op := Op.buildSlice 32 2 #[(0, Operand.tmp 123), (1, Operand.tmp 124)], type := 32, pos := "outright.go:29", after := #[{ on := 0, ground := Ground.data }, { on := 1, ground := Ground.data }], guard := none },
  { dst := some 126, op := Op.call { callee := Callee.value (Operand.func 11), args := #[Operand.tmp 125], argTypes := #[32] }, type := 25, pos := "outright.go:29", after := #[{ on := 2, ground := Ground.data }], guard := none },
  { dst := some 127, op := Op.load 25 (Operand.tmp 4), type := 25, pos := "outright.go:29", after := #[], guard := none },
  { dst := some 128, op := Op.call { callee := Callee.value (Operand.func 15), args := #[Operand.tmp 126, Operand.tmp 127], argTypes := #[25, 25] }, type := 26, pos := "outright.go:29", after := #[{ on := 3, ground := Ground.data }, { on := 4, ground := Ground.data }, { on := 3, ground := Ground.chain }], guard := none },
  { dst := some 122, op := Op.move (Operand.tmp 128), type := 26, pos := "outright.go:29", after := #[{ on := 5, ground := Ground.data }], guard := none },
  { dst := some 129, op := Op.extract (Operand.tmp 122) 0, type := 25, pos := "outright.go:29", after := #[{ on := 6, ground := Ground.data }], guard := none },
  { dst := some 130, op := Op.extract (Operand.tmp 122) 1, type := 4, pos := "outright.go:29", after := #[{ on := 6, ground := Ground.data }, { on := 10, ground := Ground.gcOnly Departure.lateStores }], guard := none },
  { dst := some 13, op := Op.alloc 25, type := 0, pos := "outright.go:29", after := #[], guard := none },
  { dst := none, op := Op.store 25 (Operand.tmp 13) (Operand.tmp 129), type := 0, pos := "outright.go:29", after := #[{ on := 9, ground := Ground.data }, { on := 7, ground := Ground.data }, { on := 5, ground := Ground.chain }, { on := 0, ground := Ground.phase }, { on := 1, ground := Ground.phase }, { on := 2, ground := Ground.phase }, { on := 3, ground := Ground.phase }, { on := 4, ground := Ground.phase }, { on := 5, ground := Ground.phase }, { on := 6, ground := Ground.phase }, { on := 7, ground := Ground.phase }, { on := 8, ground := Ground.textOnly Departure.lateStores }, { on := 9, ground := Ground.phase }], guard := none },
  { dst := some 14, op := Op.assign (Operand.tmp 130), type := 4, pos := "outright.go:29", after := #[{ on := 8, ground := Ground.data }, { on := 10, ground := Ground.chain }, { on := 0, ground := Ground.phase }, { on := 1, ground := Ground.phase }, { on := 2, ground := Ground.phase }, { on := 3, ground := Ground.phase }, { on := 4, ground := Ground.phase }, { on := 5, ground := Ground.phase }, { on := 6, ground := Ground.phase }, { on := 7, ground := Ground.phase }, { on := 8, ground := Ground.phase }, { on := 9, ground := Ground.phase }, { on := 10, ground := Ground.phase }], guard := none }]
def ring15Pre : Array Bool := #[true, true, true, true, true, true, true, true, true, true, false, false]
def ring15K (A B : Nat) : Nat → Kd
  | 0 => .num A
  | 1 => .num B
  | 2 => .row [A, B]
  | 3 => .fre (sumn [A, B])
  | 4 => .num B
  | 5 => .sub A
  | 6 => .sub A
  | 7 => .fre A
  | 8 => .val (.bool true)
  | 9 => .ptr
  | _ => .val undef
theorem ring15_slots (f : Nat → Value) : slotsOf ring15Ops ring15Pre f = [(123, f 0), (124, f 1), (125, f 2), (126, f 3), (127, f 4), (128, f 5), (122, f 6), (129, f 7), (130, f 8), (13, f 9)] := by kernel_rfl
set_option maxHeartbeats 6400000 in
set_option maxRecDepth 100000 in
theorem ring15_wp {Q : Exit → Act → World → Prop} {a0 : Act} {w : World} {z : Nat} (A B : Nat) (hz : z ≤ w.drew.heap.size) (hsize : a0.tmps.size = 191) (hQ : ∀ c a w v d, Q (.panic c) (a.put d v) w → Q (.panic c) a w) (b3 b4 : Nat) (h3 : a0.tmps[3]? = some (.pointer (some ⟨b3, 0, none⟩))) (h4 : a0.tmps[4]? = some (.pointer (some ⟨b4, 0, none⟩))) (C3 : Held z w.drew b3 (.num A)) (C4 : Held z w.drew b4 (.num B)) (ka : Nat) (hka : ka ≤ 100000) (N1 : sumn [A, B] < 2 ^ ka) (N2 : sumn [A, B] - B < 2 ^ ka) (E1 : sumn [A, B] - B = A) (E2 : B ≤ sumn [A, B])
    (fin : ∀ (f : Nat → Value) (y : World), (∀ j, j < 12 → ring15Pre.getD j false = true → Kd.ok z (ring15K A B j) (f j) y) → Below w.drew.heap.size w.drew y → wpAny Tryd.prog .any ring15Ops Q 2 ring15Pre (putL a0 [(123, f 0), (124, f 1), (125, f 2), (126, f 3), (127, f 4), (128, f 5), (122, f 6), (129, f 7), (130, f 8), (13, f 9)]) y) (id : Nat) :
    (Code.region id ring15Ops true).wp Tryd.prog Q a0 w := by
  refine wp_region_late ring15Pre (fun j => Kd.ok z (ring15K A B j)) (fun x y => Below x.heap.size x y) 10 2 8 ({ dst := some 130, op := Op.extract (Operand.tmp 122) 1, type := 4, pos := "outright.go:29", after := #[{ on := 6, ground := Ground.data }, { on := 10, ground := Ground.gcOnly Departure.lateStores }], guard := none }) rfl rfl (by kernel_rfl) (by kernel_rfl) (by rw [hsize]; kernel_rfl) (by kernel_rfl) (by kernel_rfl) (Below.refl _ _) (fun _ _ _ h1 h2 => bl_trans h1 h2) (fun _ _ _ _ h1 h2 => Kd.below h1 h2) ?_ (by kernel_rfl) (by kernel_rfl) (by kernel_rfl) (fun v c a w h => hQ c a w v _ h) ?_ (fun f y h1 h2 => by rw [ring15_slots]; exact fin f y h1 h2)
  rotate_left
  · intro f a x hdeps
    obtain ⟨t6, g6⟩ := hdeps { on := 6, ground := Ground.data } (by simp) (by decide)
    obtain ⟨u, hu, _, _⟩ := g6
    have q6 := t6 122 (by rfl)
    rw [hu] at q6
    have e6 := eval_at q6
    exact ⟨.bool true, .inl ⟨wanted_none rfl, fun w => by simp [execOp, e6, run_extract1]⟩, rfl⟩
  intro i o ho hp f a x hR hbase hdeps K hK
  have hi : i < 12 := by
    rcases Nat.lt_or_ge i 12 with h | h
    · exact h
    · have : ring15Ops.size ≤ i := h
      rw [Array.getElem?_eq_none this] at ho; cases ho
  have hzx : z ≤ x.heap.size := Nat.le_trans hz hR.size
  have dep : ∀ j, (o.after.any fun e => Region.binds .any e && e.on == j) = true → (∀ s, slotOf ring15Ops j = some s → a.tmps[s]? = some (f j)) ∧ Kd.ok z (ring15K A B j) (f j) x := by
    intro j h
    obtain ⟨e, he, h2⟩ := Array.any_eq_true'.1 h
    simp only [Bool.and_eq_true, beq_iff_eq] at h2
    obtain ⟨h3, rfl⟩ := h2
    exact hdeps e he h3
  have bas : ∀ s, ((List.range ring15Ops.size).all fun j => slotOf ring15Ops j != some s) = true → a.tmps[s]? = a0.tmps[s]? := by
    intro s h
    refine hbase s fun j hj _ e => ?_
    have h2 := (List.all_eq_true.1 h) j (List.mem_range.2 hj)
    rw [e] at h2; simp at h2
  match i, hi with
  | 0, _ =>
    obtain rfl : { dst := some 123, op := Op.load 25 (Operand.tmp 3), type := 25, pos := "outright.go:29", after := #[], guard := none } = o := Option.some.inj (show ring15Ops[0]? = some _ from ho)
    have qb3 := (bas 3 (by kernel_rfl)).trans h3
    have eb3 := eval_at qb3
    obtain ⟨xc, hc, hk⟩ := C3.below hR
    refine inv_val (G := Kd.ok z (ring15K A B 0)) (R := fun x y => Below x.heap.size x y) (wanted_none rfl) (v := .agg #[xc]) (w2 := x) (by simp only [execOp, eb3]; go_simp) hK hk (Below.refl _ _)
  | 1, _ =>
    obtain rfl : { dst := some 124, op := Op.load 25 (Operand.tmp 4), type := 25, pos := "outright.go:29", after := #[], guard := none } = o := Option.some.inj (show ring15Ops[1]? = some _ from ho)
    have qb4 := (bas 4 (by kernel_rfl)).trans h4
    have eb4 := eval_at qb4
    obtain ⟨xc, hc, hk⟩ := C4.below hR
    refine inv_val (G := Kd.ok z (ring15K A B 1)) (R := fun x y => Below x.heap.size x y) (wanted_none rfl) (v := .agg #[xc]) (w2 := x) (by simp only [execOp, eb4]; go_simp) hK hk (Below.refl _ _)
  | 2, _ =>
    obtain rfl : { dst := some 125, op := Op.buildSlice 32 2 #[(0, Operand.tmp 123), (1, Operand.tmp 124)], type := 32, pos := "outright.go:29", after := #[{ on := 0, ground := Ground.data }, { on := 1, ground := Ground.data }], guard := none } = o := Option.some.inj (show ring15Ops[2]? = some _ from ho)
    obtain ⟨t0, g0⟩ := dep 0 (by kernel_rfl)
    have q0 := t0 123 (by rfl)
    have e0 := eval_at q0
    obtain ⟨t1, g1⟩ := dep 1 (by kernel_rfl)
    have q1 := t1 124 (by rfl)
    have e1 := eval_at q1
    obtain ⟨v, w2, hr, hrow, hb⟩ := st_build2 g0 g1
    refine inv_val (G := Kd.ok z (ring15K A B 2)) (R := fun x y => Below x.heap.size x y) (wanted_none rfl) (v := v) (w2 := w2) (by simp [execOp, e0, e1, hr]) hK hrow hb
  | 3, _ =>
    obtain rfl : { dst := some 126, op := Op.call { callee := Callee.value (Operand.func 11), args := #[Operand.tmp 125], argTypes := #[32] }, type := 25, pos := "outright.go:29", after := #[{ on := 2, ground := Ground.data }], guard := none } = o := Option.some.inj (show ring15Ops[3]? = some _ from ho)
    obtain ⟨t2, g2⟩ := dep 2 (by kernel_rfl)
    have q2 := t2 125 (by rfl)
    have e2 := eval_at q2
    refine inv_call (G := Kd.ok z (ring15K A B 3)) (R := fun x y => Below x.heap.size x y) (wanted_none rfl) (F := 11) (args := #[f 2]) (by simp [go_sem, q2]) hK ?_
    exact k_add g2 (by simp) N1 hka hzx
  | 4, _ =>
    obtain rfl : { dst := some 127, op := Op.load 25 (Operand.tmp 4), type := 25, pos := "outright.go:29", after := #[], guard := none } = o := Option.some.inj (show ring15Ops[4]? = some _ from ho)
    have qb4 := (bas 4 (by kernel_rfl)).trans h4
    have eb4 := eval_at qb4
    obtain ⟨xc, hc, hk⟩ := C4.below hR
    refine inv_val (G := Kd.ok z (ring15K A B 4)) (R := fun x y => Below x.heap.size x y) (wanted_none rfl) (v := .agg #[xc]) (w2 := x) (by simp only [execOp, eb4]; go_simp) hK hk (Below.refl _ _)
  | 5, _ =>
    obtain rfl : { dst := some 128, op := Op.call { callee := Callee.value (Operand.func 15), args := #[Operand.tmp 126, Operand.tmp 127], argTypes := #[25, 25] }, type := 26, pos := "outright.go:29", after := #[{ on := 3, ground := Ground.data }, { on := 4, ground := Ground.data }, { on := 3, ground := Ground.chain }], guard := none } = o := Option.some.inj (show ring15Ops[5]? = some _ from ho)
    obtain ⟨t3, g3⟩ := dep 3 (by kernel_rfl)
    have q3 := t3 126 (by rfl)
    have e3 := eval_at q3
    obtain ⟨t4, g4⟩ := dep 4 (by kernel_rfl)
    have q4 := t4 127 (by rfl)
    have e4 := eval_at q4
    refine inv_call (G := Kd.ok z (ring15K A B 5)) (R := fun x y => Below x.heap.size x y) (wanted_none rfl) (F := 15) (args := #[f 3, f 4]) (by simp [go_sem, q3, q4]) hK ?_
    exact (by have h := k_sub (z := z) g3.2 g4 E2 N2 hka hzx; rw [E1] at h; exact h)
  | 6, _ =>
    obtain rfl : { dst := some 122, op := Op.move (Operand.tmp 128), type := 26, pos := "outright.go:29", after := #[{ on := 5, ground := Ground.data }], guard := none } = o := Option.some.inj (show ring15Ops[6]? = some _ from ho)
    obtain ⟨t5, g5⟩ := dep 5 (by kernel_rfl)
    have q5 := t5 128 (by rfl)
    have e5 := eval_at q5
    refine inv_val (G := Kd.ok z (ring15K A B 6)) (R := fun x y => Below x.heap.size x y) (wanted_none rfl) (v := (f 5)) (w2 := x) (by simp only [execOp, e5]; go_simp) hK g5 (Below.refl _ _)
  | 7, _ =>
    obtain rfl : { dst := some 129, op := Op.extract (Operand.tmp 122) 0, type := 25, pos := "outright.go:29", after := #[{ on := 6, ground := Ground.data }], guard := none } = o := Option.some.inj (show ring15Ops[7]? = some _ from ho)
    obtain ⟨t6, g6⟩ := dep 6 (by kernel_rfl)
    have q6 := t6 122 (by rfl)
    have e6 := eval_at q6
    obtain ⟨u, hu, hu1, hu2⟩ := g6
    rw [hu] at e6
    refine inv_val (G := Kd.ok z (ring15K A B 7)) (R := fun x y => Below x.heap.size x y) (wanted_none rfl) (v := u) (w2 := x) (by simp [execOp, e6, run_extract0]) hK ⟨hu1, hu2⟩ (Below.refl _ _)
  | 8, _ =>
    obtain rfl : { dst := some 130, op := Op.extract (Operand.tmp 122) 1, type := 4, pos := "outright.go:29", after := #[{ on := 6, ground := Ground.data }, { on := 10, ground := Ground.gcOnly Departure.lateStores }], guard := none } = o := Option.some.inj (show ring15Ops[8]? = some _ from ho)
    obtain ⟨t6, g6⟩ := dep 6 (by kernel_rfl)
    have q6 := t6 122 (by rfl)
    have e6 := eval_at q6
    obtain ⟨u, hu, hu1, hu2⟩ := g6
    rw [hu] at e6
    refine inv_val (G := Kd.ok z (ring15K A B 8)) (R := fun x y => Below x.heap.size x y) (wanted_none rfl) (v := .bool true) (w2 := x) (by simp [execOp, e6, run_extract1]) hK rfl (Below.refl _ _)
  | 9, _ =>
    obtain rfl : { dst := some 13, op := Op.alloc 25, type := 0, pos := "outright.go:29", after := #[], guard := none } = o := Option.some.inj (show ring15Ops[9]? = some _ from ho)
    obtain ⟨hp2, hb2⟩ := st_alloc x z hzx
    refine inv_val (G := Kd.ok z (ring15K A B 9)) (R := fun x y => Below x.heap.size x y) (wanted_none rfl) (v := .pointer (some ⟨x.heap.size, 0, none⟩)) (w2 := x.alloc (.cells #[.slice none 0 0] 25)) (by simp [execOp, run_alloc x]) hK hp2 hb2
  | 10, _ => exact absurd (show ring15Pre.getD 10 false = true from hp) (by decide)
  | 11, _ => exact absurd (show ring15Pre.getD 11 false = true from hp) (by decide)
def ring13Ops : Array Oper := #[{ dst := some 79, op := Op.load 25 (Operand.tmp 7), type := 25, pos := "outright.go:26", after := #[], guard := none },
  { dst := some 80, op := Op.load 25 (Operand.tmp 5), type := 25, pos := "outright.go:26", after := #[], guard := none },
  { dst := some 81, op := Op.load 25 (Operand.tmp 4), type := 25, pos := "outright.go:26", after := #[], guard := none },
  { dst := some 82, op := Op.load 25 (Operand.tmp 3), type := 25, pos := "outright.go:26", after := #[], guard := none },
  { dst := some 83, op := Op.buildSlice 32 2 #[(0, Operand.tmp 81), (1, Operand.tmp 82)], type := 32, pos := "outright.go:26", after := #[{ on := 2, ground := Ground.data }, { on := 3, ground := Ground.data }], guard := none },
  { dst := some 84, op := Op.call { callee := Callee.value (Operand.func 11), args := #[Operand.tmp 83], argTypes := #[32] }, type := 25, pos := "outright.go:26", after := #[{ on := 4, ground := Ground.data }], guard := none },
  { dst := some 85, op := Op.buildSlice 32 2 #[(0, Operand.tmp 80), (1, Operand.tmp 84)], type := 32, pos := "outright.go:26", after := #[{ on := 1, ground := Ground.data }, { on := 5, ground := Ground.data }], guard := none },
  { dst := some 86, op := Op.call { callee := Callee.value (Operand.func 11), args := #[Operand.tmp 85], argTypes := #[32] }, type := 25, pos := "outright.go:26", after := #[{ on := 6, ground := Ground.data }, { on := 5, ground := Ground.chain }], guard := none },
  { dst := some 87, op := Op.call { callee := Callee.value (Operand.func 9), args := #[Operand.tmp 79, Operand.tmp 86], argTypes := #[25, 25] }, type := 4, pos := "outright.go:26", after := #[{ on := 0, ground := Ground.data }, { on := 7, ground := Ground.data }, { on := 7, ground := Ground.chain }], guard := none },
  { dst := some 88, op := Op.unOp UnOp.not 4 (Operand.tmp 87), type := 4, pos := "outright.go:26", after := #[{ on := 8, ground := Ground.data }], guard := none },
  { dst := some 89, op := Op.move (Operand.tmp 88), type := 4, pos := "outright.go:26", after := #[{ on := 9, ground := Ground.data }, { on := 8, ground := Ground.chain }], guard := none },
  { dst := some 90, op := Op.load 25 (Operand.tmp 8), type := 25, pos := "outright.go:26", after := #[{ on := 10, ground := Ground.guard }], guard := some (10, false) },
  { dst := some 91, op := Op.load 25 (Operand.tmp 5), type := 25, pos := "outright.go:26", after := #[{ on := 10, ground := Ground.guard }], guard := some (10, false) },
  { dst := some 92, op := Op.load 25 (Operand.tmp 4), type := 25, pos := "outright.go:26", after := #[{ on := 10, ground := Ground.guard }], guard := some (10, false) },
  { dst := some 93, op := Op.buildSlice 32 2 #[(0, Operand.tmp 91), (1, Operand.tmp 92)], type := 32, pos := "outright.go:26", after := #[{ on := 12, ground := Ground.data }, { on := 13, ground := Ground.data }, { on := 10, ground := Ground.guard }], guard := some (10, false) },
  { dst := some 94, op := Op.call { callee := Callee.value (Operand.func 12), args := #[Operand.tmp 93], argTypes := #[32] }, type := 25, pos := "outright.go:26", after := #[{ on := 14, ground := Ground.data }, { on := 10, ground := Ground.chain }, { on := 10, ground := Ground.guard }], guard := some (10, false) },
  { dst := some 95, op := Op.load 25 (Operand.tmp 3), type := 25, pos := "outright.go:26", after := #[{ on := 10, ground := Ground.guard }], guard := some (10, false) },
  { dst := some 96, op := Op.buildSlice 32 2 #[(0, Operand.tmp 94), (1, Operand.tmp 95)], type := 32, pos := "outright.go:26", after := #[{ on := 15, ground := Ground.data }, { on := 16, ground := Ground.data }, { on := 10, ground := Ground.guard }], guard := some (10, false) },
  { dst := some 97, op := Op.call { callee := Callee.value (Operand.func 12), args := #[Operand.tmp 96], argTypes := #[32] }, type := 25, pos := "outright.go:26", after := #[{ on := 17, ground := Ground.data }, { on := 15, ground := Ground.chain }, { on := 10, ground := Ground.guard }], guard := some (10, false) },
  { dst := some 98, op := Op.call { callee := Callee.value (Operand.func 9), args := #[Operand.tmp 90, Operand.tmp 97], argTypes := #[25, 25] }, type := 4, pos := "outright.go:26", after := #[{ on := 11, ground := Ground.data }, { on := 18, ground := Ground.data }, { on := 18, ground := Ground.chain }, { on := 10, ground := Ground.guard }], guard := some (10, false) },
  { dst := some 99, op := Op.unOp UnOp.not 4 (Operand.tmp 98), type := 4, pos := "outright.go:26", after := #[{ on := 19, ground := Ground.data }, { on := 10, ground := Ground.guard }], guard := some (10, false) },
  { dst := some 100, op := Op.pick (Operand.tmp 89) (Operand.const (Value.bool true)) (Operand.tmp 99), type := 4, pos := "outright.go:26", after := #[{ on := 10, ground := Ground.data }, { on := 20, ground := Ground.data }], guard := none },
  { dst := some 101, op := Op.move (Operand.tmp 100), type := 4, pos := "outright.go:26", after := #[{ on := 21, ground := Ground.data }, { on := 19, ground := Ground.chain }], guard := none },
  { dst := some 102, op := Op.load 25 (Operand.tmp 3), type := 25, pos := "outright.go:26", after := #[{ on := 22, ground := Ground.guard }], guard := some (22, false) },
  { dst := some 103, op := Op.load 25 (Operand.tmp 4), type := 25, pos := "outright.go:26", after := #[{ on := 22, ground := Ground.guard }], guard := some (22, false) },
  { dst := some 104, op := Op.load 25 (Operand.tmp 5), type := 25, pos := "outright.go:26", after := #[{ on := 22, ground := Ground.guard }], guard := some (22, false) },
  { dst := some 105, op := Op.buildSlice 32 2 #[(0, Operand.tmp 103), (1, Operand.tmp 104)], type := 32, pos := "outright.go:26", after := #[{ on := 24, ground := Ground.data }, { on := 25, ground := Ground.data }, { on := 22, ground := Ground.guard }], guard := some (22, false) },
  { dst := some 106, op := Op.call { callee := Callee.value (Operand.func 11), args := #[Operand.tmp 105], argTypes := #[32] }, type := 25, pos := "outright.go:26", after := #[{ on := 26, ground := Ground.data }, { on := 22, ground := Ground.chain }, { on := 22, ground := Ground.guard }], guard := some (22, false) },
  { dst := some 107, op := Op.buildSlice 32 2 #[(0, Operand.tmp 102), (1, Operand.tmp 106)], type := 32, pos := "outright.go:26", after := #[{ on := 23, ground := Ground.data }, { on := 27, ground := Ground.data }, { on := 22, ground := Ground.guard }], guard := some (22, false) },
  { dst := some 108, op := Op.call { callee := Callee.value (Operand.func 12), args := #[Operand.tmp 107], argTypes := #[32] }, type := 25, pos := "outright.go:26", after := #[{ on := 28, ground := Ground.data }, { on := 27, ground := Ground.chain }, { on := 22, ground := Ground.guard }], guard := some (22, false) },
  { dst := some 109, op := Op.load 25 (Operand.tmp 3), type := 25, pos := "outright.go:26", after := #[{ on := 22, ground := Ground.guard }], guard := some (22, false) },
  { dst := some 110, op := Op.load 25 (Operand.tmp 4), type := 25, pos := "outright.go:26", after := #[{ on := 22, ground := Ground.guard }], guard := some (22, false) },
  { dst := some 111, op := Op.buildSlice 32 2 #[(0, Operand.tmp 109), (1, Operand.tmp 110)], type := 32, pos := "outright.go:26", after := #[{ on := 30, ground := Ground.data }, { on := 31, ground := Ground.data }, { on := 22, ground := Ground.guard }], guard := some (22, false) },
  { dst := some 112, op := Op.call { callee := Callee.value (Operand.func 12), args := #[Operand.tmp 111], argTypes := #[32] }, type := 25, pos := "outright.go:26", after := #[{ on := 32, ground := Ground.data }, { on := 29, ground := Ground.chain }, { on := 22, ground := Ground.guard }], guard := some (22, false) },
  { dst := some 113, op := Op.load 25 (Operand.tmp 3), type := 25, pos := "outright.go:26", after := #[{ on := 22, ground := Ground.guard }], guard := some (22, false) },
  { dst := some 114, op := Op.load 25 (Operand.tmp 5), type := 25, pos := "outright.go:26", after := #[{ on := 22, ground := Ground.guard }], guard := some (22, false) },
  { dst := some 115, op := Op.buildSlice 32 2 #[(0, Operand.tmp 113), (1, Operand.tmp 114)], type := 32, pos := "outright.go:26", after := #[{ on := 34, ground := Ground.data }, { on := 35, ground := Ground.data }, { on := 22, ground := Ground.guard }], guard := some (22, false) },
  { dst := some 116, op := Op.call { callee := Callee.value (Operand.func 12), args := #[Operand.tmp 115], argTypes := #[32] }, type := 25, pos := "outright.go:26", after := #[{ on := 36, ground := Ground.data }, { on := 33, ground := Ground.chain }, { on := 22, ground := Ground.guard }], guard := some (22, false) },
  { dst := some 117, op := Op.buildSlice 32 2 #[(0, Operand.tmp 112), (1, Operand.tmp 116)], type := 32, pos := "outright.go:26", after := #[{ on := 33, ground := Ground.data }, { on := 37, ground := Ground.data }, { on := 22, ground := Ground.guard }], guard := some (22, false) },
  { dst := some 118, op := Op.call { callee := Callee.value (Operand.func 11), args := #[Operand.tmp 117], argTypes := #[32] }, type := 25, pos := "outright.go:26", after := #[{ on := 38, ground := Ground.data }, { on := 37, ground := Ground.chain }, { on := 22, ground := Ground.guard }], guard := some (22, false) },
  { dst := some 119, op := Op.call { callee := Callee.value (Operand.func 9), args := #[Operand.tmp 108, Operand.tmp 118], argTypes := #[25, 25] }, type := 4, pos := "outright.go:26", after := #[{ on := 29, ground := Ground.data }, { on := 39, ground := Ground.data }, { on := 39, ground := Ground.chain }, { on := 22, ground := Ground.guard }], guard := some (22, false) },
  { dst := some 120, op := Op.unOp UnOp.not 4 (Operand.tmp 119), type := 4, pos := "outright.go:26", after := #[{ on := 40, ground := Ground.data }, { on := 22, ground := Ground.guard }], guard := some (22, false) },
  { dst := some 121, op := Op.pick (Operand.tmp 101) (Operand.const (Value.bool true)) (Operand.tmp 120), type := 4, pos := "outright.go:26", after := #[{ on := 22, ground := Ground.data }, { on := 41, ground := Ground.data }], guard := none }]
def ring13Pre : Array Bool := #[true, true, true, true, true, true, true, true, true, true, true, true, true, true, true, true, true, true, true, true, true, true, true, true, true, true, true, true, true, true, true, true, true, true, true, true, true, true, true, true, true, true, true]
def ring13K (A B C : Nat) : Nat → Kd
  | 0 => .fre (sumn [A, B, C])
  | 1 => .num C
  | 2 => .num B
  | 3 => .num A
  | 4 => .row [B, A]
  | 5 => .fre (sumn [B, A])
  | 6 => .row [C, sumn [B, A]]
  | 7 => .fre (sumn [A, B, C])
  | 8 => .val (.bool true)
  | 9 => .val (.bool false)
  | 10 => .val (.bool false)
  | 11 => .fre (prodn [A, B, C])
  | 12 => .num C
  | 13 => .num B
  | 14 => .row [C, B]
  | 15 => .fre (prodn [C, B])
  | 16 => .num A
  | 17 => .row [prodn [C, B], A]
  | 18 => .fre (prodn [A, B, C])
  | 19 => .val (.bool true)
  | 20 => .val (.bool false)
  | 21 => .val (.bool false)
  | 22 => .val (.bool false)
  | 23 => .num A
  | 24 => .num B
  | 25 => .num C
  | 26 => .row [B, C]
  | 27 => .fre (sumn [B, C])
  | 28 => .row [A, sumn [B, C]]
  | 29 => .fre (prodn [A, sumn [B, C]])
  | 30 => .num A
  | 31 => .num B
  | 32 => .row [A, B]
  | 33 => .fre (prodn [A, B])
  | 34 => .num A
  | 35 => .num C
  | 36 => .row [A, C]
  | 37 => .fre (prodn [A, C])
  | 38 => .row [prodn [A, B], prodn [A, C]]
  | 39 => .fre (prodn [A, sumn [B, C]])
  | 40 => .val (.bool true)
  | 41 => .val (.bool false)
  | 42 => .val (.bool false)
  | _ => .val undef
theorem ring13_slots (f : Nat → Value) : slotsOf ring13Ops ring13Pre f = [(79, f 0), (80, f 1), (81, f 2), (82, f 3), (83, f 4), (84, f 5), (85, f 6), (86, f 7), (87, f 8), (88, f 9), (89, f 10), (90, f 11), (91, f 12), (92, f 13), (93, f 14), (94, f 15), (95, f 16), (96, f 17), (97, f 18), (98, f 19), (99, f 20), (100, f 21), (101, f 22), (102, f 23), (103, f 24), (104, f 25), (105, f 26), (106, f 27), (107, f 28), (108, f 29), (109, f 30), (110, f 31), (111, f 32), (112, f 33), (113, f 34), (114, f 35), (115, f 36), (116, f 37), (117, f 38), (118, f 39), (119, f 40), (120, f 41), (121, f 42)] := by kernel_rfl
set_option maxHeartbeats 6400000 in
set_option maxRecDepth 100000 in
theorem ring13_wp {Q : Exit → Act → World → Prop} {a0 : Act} {w : World} {z : Nat} (A B C : Nat) (hz : z ≤ w.drew.heap.size) (hsize : a0.tmps.size = 191) (b3 b4 b5 : Nat) (h3 : a0.tmps[3]? = some (.pointer (some ⟨b3, 0, none⟩))) (h4 : a0.tmps[4]? = some (.pointer (some ⟨b4, 0, none⟩))) (h5 : a0.tmps[5]? = some (.pointer (some ⟨b5, 0, none⟩))) (C3 : Held z w.drew b3 (.num A)) (C4 : Held z w.drew b4 (.num B)) (C5 : Held z w.drew b5 (.num C)) (ka : Nat) (hka : ka ≤ 100000) (b7 b8 : Nat) (h7 : a0.tmps[7]? = some (.pointer (some ⟨b7, 0, none⟩))) (h8 : a0.tmps[8]? = some (.pointer (some ⟨b8, 0, none⟩))) (C7 : Held z w.drew b7 (.fre (sumn [A, B, C]))) (C8 : Held z w.drew b8 (.fre (prodn [A, B, C])))
    (N1 : sumn [B, A] < 2 ^ ka) (N2 : sumn [C, sumn [B, A]] < 2 ^ ka) (N3 : prodn [C, B] < 2 ^ ka) (N4 : prodn [prodn [C, B], A] < 2 ^ ka) (N5 : sumn [B, C] < 2 ^ ka) (N6 : prodn [A, sumn [B, C]] < 2 ^ ka) (N7 : prodn [A, B] < 2 ^ ka) (N8 : prodn [A, C] < 2 ^ ka) (N9 : sumn [prodn [A, B], prodn [A, C]] < 2 ^ ka)
    (E1 : sumn [C, sumn [B, A]] = sumn [A, B, C]) (E2 : prodn [prodn [C, B], A] = prodn [A, B, C]) (E3 : sumn [prodn [A, B], prodn [A, C]] = prodn [A, sumn [B, C]])
    (fin : ∀ (f : Nat → Value) (y : World), (∀ j, j < 43 → ring13Pre.getD j false = true → Kd.ok z (ring13K A B C j) (f j) y) → Below w.drew.heap.size w.drew y → Q .normal (putL a0 [(79, f 0), (80, f 1), (81, f 2), (82, f 3), (83, f 4), (84, f 5), (85, f 6), (86, f 7), (87, f 8), (88, f 9), (89, f 10), (90, f 11), (91, f 12), (92, f 13), (93, f 14), (94, f 15), (95, f 16), (96, f 17), (97, f 18), (98, f 19), (99, f 20), (100, f 21), (101, f 22), (102, f 23), (103, f 24), (104, f 25), (105, f 26), (106, f 27), (107, f 28), (108, f 29), (109, f 30), (110, f 31), (111, f 32), (112, f 33), (113, f 34), (114, f 35), (115, f 36), (116, f 37), (117, f 38), (118, f 39), (119, f 40), (120, f 41), (121, f 42)]) y) (id : Nat) :
    (Code.region id ring13Ops true).wp Tryd.prog Q a0 w := by
  refine wp_region_inv ring13Pre (fun j => Kd.ok z (ring13K A B C j)) (fun x y => Below x.heap.size x y) 43 0 (by kernel_rfl) (by kernel_rfl) (by rw [hsize]; kernel_rfl) (by kernel_rfl) (by kernel_rfl) (Below.refl _ _) (fun _ _ _ h1 h2 => bl_trans h1 h2) (fun _ _ _ _ h1 h2 => Kd.below h1 h2) ?_ (fun f y h1 h2 => by rw [ring13_slots]; exact any_end (by kernel_rfl) (fin f y h1 h2) 0)
  intro i o ho hp f a x hR hbase hdeps K hK
  have hi : i < 43 := by
    rcases Nat.lt_or_ge i 43 with h | h
    · exact h
    · have : ring13Ops.size ≤ i := h
      rw [Array.getElem?_eq_none this] at ho; cases ho
  have hzx : z ≤ x.heap.size := Nat.le_trans hz hR.size
  have dep : ∀ j, (o.after.any fun e => Region.binds .any e && e.on == j) = true → (∀ s, slotOf ring13Ops j = some s → a.tmps[s]? = some (f j)) ∧ Kd.ok z (ring13K A B C j) (f j) x := by
    intro j h
    obtain ⟨e, he, h2⟩ := Array.any_eq_true'.1 h
    simp only [Bool.and_eq_true, beq_iff_eq] at h2
    obtain ⟨h3, rfl⟩ := h2
    exact hdeps e he h3
  have bas : ∀ s, ((List.range ring13Ops.size).all fun j => slotOf ring13Ops j != some s) = true → a.tmps[s]? = a0.tmps[s]? := by
    intro s h
    refine hbase s fun j hj _ e => ?_
    have h2 := (List.all_eq_true.1 h) j (List.mem_range.2 hj)
    rw [e] at h2; simp at h2
  match i, hi with
  | 0, _ =>
    obtain rfl : { dst := some 79, op := Op.load 25 (Operand.tmp 7), type := 25, pos := "outright.go:26", after := #[], guard := none } = o := Option.some.inj (show ring13Ops[0]? = some _ from ho)
    have qb7 := (bas 7 (by kernel_rfl)).trans h7
    have eb7 := eval_at qb7
    obtain ⟨xc, hc, hk⟩ := C7.below hR
    refine inv_val (G := Kd.ok z (ring13K A B C 0)) (R := fun x y => Below x.heap.size x y) (wanted_none rfl) (v := .agg #[xc]) (w2 := x) (by simp only [execOp, eb7]; go_simp) hK hk (Below.refl _ _)
  | 1, _ =>
    obtain rfl : { dst := some 80, op := Op.load 25 (Operand.tmp 5), type := 25, pos := "outright.go:26", after := #[], guard := none } = o := Option.some.inj (show ring13Ops[1]? = some _ from ho)
    have qb5 := (bas 5 (by kernel_rfl)).trans h5
    have eb5 := eval_at qb5
    obtain ⟨xc, hc, hk⟩ := C5.below hR
    refine inv_val (G := Kd.ok z (ring13K A B C 1)) (R := fun x y => Below x.heap.size x y) (wanted_none rfl) (v := .agg #[xc]) (w2 := x) (by simp only [execOp, eb5]; go_simp) hK hk (Below.refl _ _)
  | 2, _ =>
    obtain rfl : { dst := some 81, op := Op.load 25 (Operand.tmp 4), type := 25, pos := "outright.go:26", after := #[], guard := none } = o := Option.some.inj (show ring13Ops[2]? = some _ from ho)
    have qb4 := (bas 4 (by kernel_rfl)).trans h4
    have eb4 := eval_at qb4
    obtain ⟨xc, hc, hk⟩ := C4.below hR
    refine inv_val (G := Kd.ok z (ring13K A B C 2)) (R := fun x y => Below x.heap.size x y) (wanted_none rfl) (v := .agg #[xc]) (w2 := x) (by simp only [execOp, eb4]; go_simp) hK hk (Below.refl _ _)
  | 3, _ =>
    obtain rfl : { dst := some 82, op := Op.load 25 (Operand.tmp 3), type := 25, pos := "outright.go:26", after := #[], guard := none } = o := Option.some.inj (show ring13Ops[3]? = some _ from ho)
    have qb3 := (bas 3 (by kernel_rfl)).trans h3
    have eb3 := eval_at qb3
    obtain ⟨xc, hc, hk⟩ := C3.below hR
    refine inv_val (G := Kd.ok z (ring13K A B C 3)) (R := fun x y => Below x.heap.size x y) (wanted_none rfl) (v := .agg #[xc]) (w2 := x) (by simp only [execOp, eb3]; go_simp) hK hk (Below.refl _ _)
  | 4, _ =>
    obtain rfl : { dst := some 83, op := Op.buildSlice 32 2 #[(0, Operand.tmp 81), (1, Operand.tmp 82)], type := 32, pos := "outright.go:26", after := #[{ on := 2, ground := Ground.data }, { on := 3, ground := Ground.data }], guard := none } = o := Option.some.inj (show ring13Ops[4]? = some _ from ho)
    obtain ⟨t2, g2⟩ := dep 2 (by kernel_rfl)
    have q2 := t2 81 (by rfl)
    have e2 := eval_at q2
    obtain ⟨t3, g3⟩ := dep 3 (by kernel_rfl)
    have q3 := t3 82 (by rfl)
    have e3 := eval_at q3
    obtain ⟨v, w2, hr, hrow, hb⟩ := st_build2 g2 g3
    refine inv_val (G := Kd.ok z (ring13K A B C 4)) (R := fun x y => Below x.heap.size x y) (wanted_none rfl) (v := v) (w2 := w2) (by simp [execOp, e2, e3, hr]) hK hrow hb
  | 5, _ =>
    obtain rfl : { dst := some 84, op := Op.call { callee := Callee.value (Operand.func 11), args := #[Operand.tmp 83], argTypes := #[32] }, type := 25, pos := "outright.go:26", after := #[{ on := 4, ground := Ground.data }], guard := none } = o := Option.some.inj (show ring13Ops[5]? = some _ from ho)
    obtain ⟨t4, g4⟩ := dep 4 (by kernel_rfl)
    have q4 := t4 83 (by rfl)
    have e4 := eval_at q4
    refine inv_call (G := Kd.ok z (ring13K A B C 5)) (R := fun x y => Below x.heap.size x y) (wanted_none rfl) (F := 11) (args := #[f 4]) (by simp [go_sem, q4]) hK ?_
    exact k_add g4 (by simp) N1 hka hzx
  | 6, _ =>
    obtain rfl : { dst := some 85, op := Op.buildSlice 32 2 #[(0, Operand.tmp 80), (1, Operand.tmp 84)], type := 32, pos := "outright.go:26", after := #[{ on := 1, ground := Ground.data }, { on := 5, ground := Ground.data }], guard := none } = o := Option.some.inj (show ring13Ops[6]? = some _ from ho)
    obtain ⟨t1, g1⟩ := dep 1 (by kernel_rfl)
    have q1 := t1 80 (by rfl)
    have e1 := eval_at q1
    obtain ⟨t5, g5⟩ := dep 5 (by kernel_rfl)
    have q5 := t5 84 (by rfl)
    have e5 := eval_at q5
    obtain ⟨v, w2, hr, hrow, hb⟩ := st_build2 g1 g5.2
    refine inv_val (G := Kd.ok z (ring13K A B C 6)) (R := fun x y => Below x.heap.size x y) (wanted_none rfl) (v := v) (w2 := w2) (by simp [execOp, e1, e5, hr]) hK hrow hb
  | 7, _ =>
    obtain rfl : { dst := some 86, op := Op.call { callee := Callee.value (Operand.func 11), args := #[Operand.tmp 85], argTypes := #[32] }, type := 25, pos := "outright.go:26", after := #[{ on := 6, ground := Ground.data }, { on := 5, ground := Ground.chain }], guard := none } = o := Option.some.inj (show ring13Ops[7]? = some _ from ho)
    obtain ⟨t6, g6⟩ := dep 6 (by kernel_rfl)
    have q6 := t6 85 (by rfl)
    have e6 := eval_at q6
    refine inv_call (G := Kd.ok z (ring13K A B C 7)) (R := fun x y => Below x.heap.size x y) (wanted_none rfl) (F := 11) (args := #[f 6]) (by simp [go_sem, q6]) hK ?_
    exact (by have h := k_add (z := z) g6 (by simp) N2 hka hzx; rw [E1] at h; exact h)
  | 8, _ =>
    obtain rfl : { dst := some 87, op := Op.call { callee := Callee.value (Operand.func 9), args := #[Operand.tmp 79, Operand.tmp 86], argTypes := #[25, 25] }, type := 4, pos := "outright.go:26", after := #[{ on := 0, ground := Ground.data }, { on := 7, ground := Ground.data }, { on := 7, ground := Ground.chain }], guard := none } = o := Option.some.inj (show ring13Ops[8]? = some _ from ho)
    obtain ⟨t0, g0⟩ := dep 0 (by kernel_rfl)
    have q0 := t0 79 (by rfl)
    have e0 := eval_at q0
    obtain ⟨t7, g7⟩ := dep 7 (by kernel_rfl)
    have q7 := t7 86 (by rfl)
    have e7 := eval_at q7
    refine inv_call (G := Kd.ok z (ring13K A B C 8)) (R := fun x y => Below x.heap.size x y) (wanted_none rfl) (F := 9) (args := #[f 0, f 7]) (by simp [go_sem, q0, q7]) hK ?_
    exact k_same g0 g7
  | 9, _ =>
    obtain rfl : { dst := some 88, op := Op.unOp UnOp.not 4 (Operand.tmp 87), type := 4, pos := "outright.go:26", after := #[{ on := 8, ground := Ground.data }], guard := none } = o := Option.some.inj (show ring13Ops[9]? = some _ from ho)
    obtain ⟨t8, g8⟩ := dep 8 (by kernel_rfl)
    have q8 := t8 87 (by rfl)
    have e8 := eval_at q8
    have w8 : f 8 = (.bool true) := g8
    rw [w8] at e8
    refine inv_val (G := Kd.ok z (ring13K A B C 9)) (R := fun x y => Below x.heap.size x y) (wanted_none rfl) (v := (.bool false)) (w2 := x) (by simp only [execOp, e8]; go_simp) hK rfl (Below.refl _ _)
  | 10, _ =>
    obtain rfl : { dst := some 89, op := Op.move (Operand.tmp 88), type := 4, pos := "outright.go:26", after := #[{ on := 9, ground := Ground.data }, { on := 8, ground := Ground.chain }], guard := none } = o := Option.some.inj (show ring13Ops[10]? = some _ from ho)
    obtain ⟨t9, g9⟩ := dep 9 (by kernel_rfl)
    have q9 := t9 88 (by rfl)
    have e9 := eval_at q9
    have w9 : f 9 = (.bool false) := g9
    rw [w9] at e9
    refine inv_val (G := Kd.ok z (ring13K A B C 10)) (R := fun x y => Below x.heap.size x y) (wanted_none rfl) (v := (.bool false)) (w2 := x) (by simp only [execOp, e9]; go_simp) hK rfl (Below.refl _ _)
  | 11, _ =>
    obtain rfl : { dst := some 90, op := Op.load 25 (Operand.tmp 8), type := 25, pos := "outright.go:26", after := #[{ on := 10, ground := Ground.guard }], guard := some (10, false) } = o := Option.some.inj (show ring13Ops[11]? = some _ from ho)
    obtain ⟨t10, g10⟩ := dep 10 (by kernel_rfl)
    have q10 := t10 89 (by rfl)
    have e10 := eval_at q10
    have v10 : f 10 = .bool false := g10
    have hw := wanted_some (ops := ring13Ops) (o := { dst := some 90, op := Op.load 25 (Operand.tmp 8), type := 25, pos := "outright.go:26", after := #[{ on := 10, ground := Ground.guard }], guard := some (10, false) }) (a := a) (j := 10) (s := 89) (b := false) (c := false) rfl (by rfl) (by rw [← v10]; exact q10)
    have qb8 := (bas 8 (by kernel_rfl)).trans h8
    have eb8 := eval_at qb8
    obtain ⟨xc, hc, hk⟩ := C8.below hR
    refine inv_val (G := Kd.ok z (ring13K A B C 11)) (R := fun x y => Below x.heap.size x y) (hw.trans (by decide)) (v := .agg #[xc]) (w2 := x) (by simp only [execOp, eb8]; go_simp) hK hk (Below.refl _ _)
  | 12, _ =>
    obtain rfl : { dst := some 91, op := Op.load 25 (Operand.tmp 5), type := 25, pos := "outright.go:26", after := #[{ on := 10, ground := Ground.guard }], guard := some (10, false) } = o := Option.some.inj (show ring13Ops[12]? = some _ from ho)
    obtain ⟨t10, g10⟩ := dep 10 (by kernel_rfl)
    have q10 := t10 89 (by rfl)
    have e10 := eval_at q10
    have v10 : f 10 = .bool false := g10
    have hw := wanted_some (ops := ring13Ops) (o := { dst := some 91, op := Op.load 25 (Operand.tmp 5), type := 25, pos := "outright.go:26", after := #[{ on := 10, ground := Ground.guard }], guard := some (10, false) }) (a := a) (j := 10) (s := 89) (b := false) (c := false) rfl (by rfl) (by rw [← v10]; exact q10)
    have qb5 := (bas 5 (by kernel_rfl)).trans h5
    have eb5 := eval_at qb5
    obtain ⟨xc, hc, hk⟩ := C5.below hR
    refine inv_val (G := Kd.ok z (ring13K A B C 12)) (R := fun x y => Below x.heap.size x y) (hw.trans (by decide)) (v := .agg #[xc]) (w2 := x) (by simp only [execOp, eb5]; go_simp) hK hk (Below.refl _ _)
  | 13, _ =>
    obtain rfl : { dst := some 92, op := Op.load 25 (Operand.tmp 4), type := 25, pos := "outright.go:26", after := #[{ on := 10, ground := Ground.guard }], guard := some (10, false) } = o := Option.some.inj (show ring13Ops[13]? = some _ from ho)
    obtain ⟨t10, g10⟩ := dep 10 (by kernel_rfl)
    have q10 := t10 89 (by rfl)
    have e10 := eval_at q10
    have v10 : f 10 = .bool false := g10
    have hw := wanted_some (ops := ring13Ops) (o := { dst := some 92, op := Op.load 25 (Operand.tmp 4), type := 25, pos := "outright.go:26", after := #[{ on := 10, ground := Ground.guard }], guard := some (10, false) }) (a := a) (j := 10) (s := 89) (b := false) (c := false) rfl (by rfl) (by rw [← v10]; exact q10)
    have qb4 := (bas 4 (by kernel_rfl)).trans h4
    have eb4 := eval_at qb4
    obtain ⟨xc, hc, hk⟩ := C4.below hR
    refine inv_val (G := Kd.ok z (ring13K A B C 13)) (R := fun x y => Below x.heap.size x y) (hw.trans (by decide)) (v := .agg #[xc]) (w2 := x) (by simp only [execOp, eb4]; go_simp) hK hk (Below.refl _ _)
  | 14, _ =>
    obtain rfl : { dst := some 93, op := Op.buildSlice 32 2 #[(0, Operand.tmp 91), (1, Operand.tmp 92)], type := 32, pos := "outright.go:26", after := #[{ on := 12, ground := Ground.data }, { on := 13, ground := Ground.data }, { on := 10, ground := Ground.guard }], guard := some (10, false) } = o := Option.some.inj (show ring13Ops[14]? = some _ from ho)
    obtain ⟨t10, g10⟩ := dep 10 (by kernel_rfl)
    have q10 := t10 89 (by rfl)
    have e10 := eval_at q10
    have v10 : f 10 = .bool false := g10
    have hw := wanted_some (ops := ring13Ops) (o := { dst := some 93, op := Op.buildSlice 32 2 #[(0, Operand.tmp 91), (1, Operand.tmp 92)], type := 32, pos := "outright.go:26", after := #[{ on := 12, ground := Ground.data }, { on := 13, ground := Ground.data }, { on := 10, ground := Ground.guard }], guard := some (10, false) }) (a := a) (j := 10) (s := 89) (b := false) (c := false) rfl (by rfl) (by rw [← v10]; exact q10)
    obtain ⟨t12, g12⟩ := dep 12 (by kernel_rfl)
    have q12 := t12 91 (by rfl)
    have e12 := eval_at q12
    obtain ⟨t13, g13⟩ := dep 13 (by kernel_rfl)
    have q13 := t13 92 (by rfl)
    have e13 := eval_at q13
    obtain ⟨v, w2, hr, hrow, hb⟩ := st_build2 g12 g13
    refine inv_val (G := Kd.ok z (ring13K A B C 14)) (R := fun x y => Below x.heap.size x y) (hw.trans (by decide)) (v := v) (w2 := w2) (by simp [execOp, e12, e13, hr]) hK hrow hb
  | 15, _ =>
    obtain rfl : { dst := some 94, op := Op.call { callee := Callee.value (Operand.func 12), args := #[Operand.tmp 93], argTypes := #[32] }, type := 25, pos := "outright.go:26", after := #[{ on := 14, ground := Ground.data }, { on := 10, ground := Ground.chain }, { on := 10, ground := Ground.guard }], guard := some (10, false) } = o := Option.some.inj (show ring13Ops[15]? = some _ from ho)
    obtain ⟨t10, g10⟩ := dep 10 (by kernel_rfl)
    have q10 := t10 89 (by rfl)
    have e10 := eval_at q10
    have v10 : f 10 = .bool false := g10
    have hw := wanted_some (ops := ring13Ops) (o := { dst := some 94, op := Op.call { callee := Callee.value (Operand.func 12), args := #[Operand.tmp 93], argTypes := #[32] }, type := 25, pos := "outright.go:26", after := #[{ on := 14, ground := Ground.data }, { on := 10, ground := Ground.chain }, { on := 10, ground := Ground.guard }], guard := some (10, false) }) (a := a) (j := 10) (s := 89) (b := false) (c := false) rfl (by rfl) (by rw [← v10]; exact q10)
    obtain ⟨t14, g14⟩ := dep 14 (by kernel_rfl)
    have q14 := t14 93 (by rfl)
    have e14 := eval_at q14
    refine inv_call (G := Kd.ok z (ring13K A B C 15)) (R := fun x y => Below x.heap.size x y) (hw.trans (by decide)) (F := 12) (args := #[f 14]) (by simp [go_sem, q14]) hK ?_
    exact k_mul g14 (by simp) N3 hka hzx
  | 16, _ =>
    obtain rfl : { dst := some 95, op := Op.load 25 (Operand.tmp 3), type := 25, pos := "outright.go:26", after := #[{ on := 10, ground := Ground.guard }], guard := some (10, false) } = o := Option.some.inj (show ring13Ops[16]? = some _ from ho)
    obtain ⟨t10, g10⟩ := dep 10 (by kernel_rfl)
    have q10 := t10 89 (by rfl)
    have e10 := eval_at q10
    have v10 : f 10 = .bool false := g10
    have hw := wanted_some (ops := ring13Ops) (o := { dst := some 95, op := Op.load 25 (Operand.tmp 3), type := 25, pos := "outright.go:26", after := #[{ on := 10, ground := Ground.guard }], guard := some (10, false) }) (a := a) (j := 10) (s := 89) (b := false) (c := false) rfl (by rfl) (by rw [← v10]; exact q10)
    have qb3 := (bas 3 (by kernel_rfl)).trans h3
    have eb3 := eval_at qb3
    obtain ⟨xc, hc, hk⟩ := C3.below hR
    refine inv_val (G := Kd.ok z (ring13K A B C 16)) (R := fun x y => Below x.heap.size x y) (hw.trans (by decide)) (v := .agg #[xc]) (w2 := x) (by simp only [execOp, eb3]; go_simp) hK hk (Below.refl _ _)
  | 17, _ =>
    obtain rfl : { dst := some 96, op := Op.buildSlice 32 2 #[(0, Operand.tmp 94), (1, Operand.tmp 95)], type := 32, pos := "outright.go:26", after := #[{ on := 15, ground := Ground.data }, { on := 16, ground := Ground.data }, { on := 10, ground := Ground.guard }], guard := some (10, false) } = o := Option.some.inj (show ring13Ops[17]? = some _ from ho)
    obtain ⟨t10, g10⟩ := dep 10 (by kernel_rfl)
    have q10 := t10 89 (by rfl)
    have e10 := eval_at q10
    have v10 : f 10 = .bool false := g10
    have hw := wanted_some (ops := ring13Ops) (o := { dst := some 96, op := Op.buildSlice 32 2 #[(0, Operand.tmp 94), (1, Operand.tmp 95)], type := 32, pos := "outright.go:26", after := #[{ on := 15, ground := Ground.data }, { on := 16, ground := Ground.data }, { on := 10, ground := Ground.guard }], guard := some (10, false) }) (a := a) (j := 10) (s := 89) (b := false) (c := false) rfl (by rfl) (by rw [← v10]; exact q10)
    obtain ⟨t15, g15⟩ := dep 15 (by kernel_rfl)
    have q15 := t15 94 (by rfl)
    have e15 := eval_at q15
    obtain ⟨t16, g16⟩ := dep 16 (by kernel_rfl)
    have q16 := t16 95 (by rfl)
    have e16 := eval_at q16
    obtain ⟨v, w2, hr, hrow, hb⟩ := st_build2 g15.2 g16
    refine inv_val (G := Kd.ok z (ring13K A B C 17)) (R := fun x y => Below x.heap.size x y) (hw.trans (by decide)) (v := v) (w2 := w2) (by simp [execOp, e15, e16, hr]) hK hrow hb
  | 18, _ =>
    obtain rfl : { dst := some 97, op := Op.call { callee := Callee.value (Operand.func 12), args := #[Operand.tmp 96], argTypes := #[32] }, type := 25, pos := "outright.go:26", after := #[{ on := 17, ground := Ground.data }, { on := 15, ground := Ground.chain }, { on := 10, ground := Ground.guard }], guard := some (10, false) } = o := Option.some.inj (show ring13Ops[18]? = some _ from ho)
    obtain ⟨t10, g10⟩ := dep 10 (by kernel_rfl)
    have q10 := t10 89 (by rfl)
    have e10 := eval_at q10
    have v10 : f 10 = .bool false := g10
    have hw := wanted_some (ops := ring13Ops) (o := { dst := some 97, op := Op.call { callee := Callee.value (Operand.func 12), args := #[Operand.tmp 96], argTypes := #[32] }, type := 25, pos := "outright.go:26", after := #[{ on := 17, ground := Ground.data }, { on := 15, ground := Ground.chain }, { on := 10, ground := Ground.guard }], guard := some (10, false) }) (a := a) (j := 10) (s := 89) (b := false) (c := false) rfl (by rfl) (by rw [← v10]; exact q10)
    obtain ⟨t17, g17⟩ := dep 17 (by kernel_rfl)
    have q17 := t17 96 (by rfl)
    have e17 := eval_at q17
    refine inv_call (G := Kd.ok z (ring13K A B C 18)) (R := fun x y => Below x.heap.size x y) (hw.trans (by decide)) (F := 12) (args := #[f 17]) (by simp [go_sem, q17]) hK ?_
    exact (by have h := k_mul (z := z) g17 (by simp) N4 hka hzx; rw [E2] at h; exact h)
  | 19, _ =>
    obtain rfl : { dst := some 98, op := Op.call { callee := Callee.value (Operand.func 9), args := #[Operand.tmp 90, Operand.tmp 97], argTypes := #[25, 25] }, type := 4, pos := "outright.go:26", after := #[{ on := 11, ground := Ground.data }, { on := 18, ground := Ground.data }, { on := 18, ground := Ground.chain }, { on := 10, ground := Ground.guard }], guard := some (10, false) } = o := Option.some.inj (show ring13Ops[19]? = some _ from ho)
    obtain ⟨t10, g10⟩ := dep 10 (by kernel_rfl)
    have q10 := t10 89 (by rfl)
    have e10 := eval_at q10
    have v10 : f 10 = .bool false := g10
    have hw := wanted_some (ops := ring13Ops) (o := { dst := some 98, op := Op.call { callee := Callee.value (Operand.func 9), args := #[Operand.tmp 90, Operand.tmp 97], argTypes := #[25, 25] }, type := 4, pos := "outright.go:26", after := #[{ on := 11, ground := Ground.data }, { on := 18, ground := Ground.data }, { on := 18, ground := Ground.chain }, { on := 10, ground := Ground.guard }], guard := some (10, false) }) (a := a) (j := 10) (s := 89) (b := false) (c := false) rfl (by rfl) (by rw [← v10]; exact q10)
    obtain ⟨t11, g11⟩ := dep 11 (by kernel_rfl)
    have q11 := t11 90 (by rfl)
    have e11 := eval_at q11
    obtain ⟨t18, g18⟩ := dep 18 (by kernel_rfl)
    have q18 := t18 97 (by rfl)
    have e18 := eval_at q18
    refine inv_call (G := Kd.ok z (ring13K A B C 19)) (R := fun x y => Below x.heap.size x y) (hw.trans (by decide)) (F := 9) (args := #[f 11, f 18]) (by simp [go_sem, q11, q18]) hK ?_
    exact k_same g11 g18
  | 20, _ =>
    obtain rfl : { dst := some 99, op := Op.unOp UnOp.not 4 (Operand.tmp 98), type := 4, pos := "outright.go:26", after := #[{ on := 19, ground := Ground.data }, { on := 10, ground := Ground.guard }], guard := some (10, false) } = o := Option.some.inj (show ring13Ops[20]? = some _ from ho)
    obtain ⟨t10, g10⟩ := dep 10 (by kernel_rfl)
    have q10 := t10 89 (by rfl)
    have e10 := eval_at q10
    have v10 : f 10 = .bool false := g10
    have hw := wanted_some (ops := ring13Ops) (o := { dst := some 99, op := Op.unOp UnOp.not 4 (Operand.tmp 98), type := 4, pos := "outright.go:26", after := #[{ on := 19, ground := Ground.data }, { on := 10, ground := Ground.guard }], guard := some (10, false) }) (a := a) (j := 10) (s := 89) (b := false) (c := false) rfl (by rfl) (by rw [← v10]; exact q10)
    obtain ⟨t19, g19⟩ := dep 19 (by kernel_rfl)
    have q19 := t19 98 (by rfl)
    have e19 := eval_at q19
    have w10 : f 10 = (.bool false) := g10
    have w19 : f 19 = (.bool true) := g19
    rw [w19] at e19
    refine inv_val (G := Kd.ok z (ring13K A B C 20)) (R := fun x y => Below x.heap.size x y) (hw.trans (by decide)) (v := (.bool false)) (w2 := x) (by simp only [execOp, e19]; go_simp) hK rfl (Below.refl _ _)
  | 21, _ =>
    obtain rfl : { dst := some 100, op := Op.pick (Operand.tmp 89) (Operand.const (Value.bool true)) (Operand.tmp 99), type := 4, pos := "outright.go:26", after := #[{ on := 10, ground := Ground.data }, { on := 20, ground := Ground.data }], guard := none } = o := Option.some.inj (show ring13Ops[21]? = some _ from ho)
    obtain ⟨t10, g10⟩ := dep 10 (by kernel_rfl)
    have q10 := t10 89 (by rfl)
    have e10 := eval_at q10
    obtain ⟨t20, g20⟩ := dep 20 (by kernel_rfl)
    have q20 := t20 99 (by rfl)
    have e20 := eval_at q20
    have w10 : f 10 = (.bool false) := g10
    have w20 : f 20 = (.bool false) := g20
    rw [w10] at e10
    rw [w20] at e20
    refine inv_val (G := Kd.ok z (ring13K A B C 21)) (R := fun x y => Below x.heap.size x y) (wanted_none rfl) (v := (.bool false)) (w2 := x) (by simp only [execOp, e10, e20]; go_simp) hK rfl (Below.refl _ _)
  | 22, _ =>
    obtain rfl : { dst := some 101, op := Op.move (Operand.tmp 100), type := 4, pos := "outright.go:26", after := #[{ on := 21, ground := Ground.data }, { on := 19, ground := Ground.chain }], guard := none } = o := Option.some.inj (show ring13Ops[22]? = some _ from ho)
    obtain ⟨t21, g21⟩ := dep 21 (by kernel_rfl)
    have q21 := t21 100 (by rfl)
    have e21 := eval_at q21
    have w21 : f 21 = (.bool false) := g21
    rw [w21] at e21
    refine inv_val (G := Kd.ok z (ring13K A B C 22)) (R := fun x y => Below x.heap.size x y) (wanted_none rfl) (v := (.bool false)) (w2 := x) (by simp only [execOp, e21]; go_simp) hK rfl (Below.refl _ _)
  | 23, _ =>
    obtain rfl : { dst := some 102, op := Op.load 25 (Operand.tmp 3), type := 25, pos := "outright.go:26", after := #[{ on := 22, ground := Ground.guard }], guard := some (22, false) } = o := Option.some.inj (show ring13Ops[23]? = some _ from ho)
    obtain ⟨t22, g22⟩ := dep 22 (by kernel_rfl)
    have q22 := t22 101 (by rfl)
    have e22 := eval_at q22
    have v22 : f 22 = .bool false := g22
    have hw := wanted_some (ops := ring13Ops) (o := { dst := some 102, op := Op.load 25 (Operand.tmp 3), type := 25, pos := "outright.go:26", after := #[{ on := 22, ground := Ground.guard }], guard := some (22, false) }) (a := a) (j := 22) (s := 101) (b := false) (c := false) rfl (by rfl) (by rw [← v22]; exact q22)
    have qb3 := (bas 3 (by kernel_rfl)).trans h3
    have eb3 := eval_at qb3
    obtain ⟨xc, hc, hk⟩ := C3.below hR
    refine inv_val (G := Kd.ok z (ring13K A B C 23)) (R := fun x y => Below x.heap.size x y) (hw.trans (by decide)) (v := .agg #[xc]) (w2 := x) (by simp only [execOp, eb3]; go_simp) hK hk (Below.refl _ _)
  | 24, _ =>
    obtain rfl : { dst := some 103, op := Op.load 25 (Operand.tmp 4), type := 25, pos := "outright.go:26", after := #[{ on := 22, ground := Ground.guard }], guard := some (22, false) } = o := Option.some.inj (show ring13Ops[24]? = some _ from ho)
    obtain ⟨t22, g22⟩ := dep 22 (by kernel_rfl)
    have q22 := t22 101 (by rfl)
    have e22 := eval_at q22
    have v22 : f 22 = .bool false := g22
    have hw := wanted_some (ops := ring13Ops) (o := { dst := some 103, op := Op.load 25 (Operand.tmp 4), type := 25, pos := "outright.go:26", after := #[{ on := 22, ground := Ground.guard }], guard := some (22, false) }) (a := a) (j := 22) (s := 101) (b := false) (c := false) rfl (by rfl) (by rw [← v22]; exact q22)
    have qb4 := (bas 4 (by kernel_rfl)).trans h4
    have eb4 := eval_at qb4
    obtain ⟨xc, hc, hk⟩ := C4.below hR
    refine inv_val (G := Kd.ok z (ring13K A B C 24)) (R := fun x y => Below x.heap.size x y) (hw.trans (by decide)) (v := .agg #[xc]) (w2 := x) (by simp only [execOp, eb4]; go_simp) hK hk (Below.refl _ _)
  | 25, _ =>
    obtain rfl : { dst := some 104, op := Op.load 25 (Operand.tmp 5), type := 25, pos := "outright.go:26", after := #[{ on := 22, ground := Ground.guard }], guard := some (22, false) } = o := Option.some.inj (show ring13Ops[25]? = some _ from ho)
    obtain ⟨t22, g22⟩ := dep 22 (by kernel_rfl)
    have q22 := t22 101 (by rfl)
    have e22 := eval_at q22
    have v22 : f 22 = .bool false := g22
    have hw := wanted_some (ops := ring13Ops) (o := { dst := some 104, op := Op.load 25 (Operand.tmp 5), type := 25, pos := "outright.go:26", after := #[{ on := 22, ground := Ground.guard }], guard := some (22, false) }) (a := a) (j := 22) (s := 101) (b := false) (c := false) rfl (by rfl) (by rw [← v22]; exact q22)
    have qb5 := (bas 5 (by kernel_rfl)).trans h5
    have eb5 := eval_at qb5
    obtain ⟨xc, hc, hk⟩ := C5.below hR
    refine inv_val (G := Kd.ok z (ring13K A B C 25)) (R := fun x y => Below x.heap.size x y) (hw.trans (by decide)) (v := .agg #[xc]) (w2 := x) (by simp only [execOp, eb5]; go_simp) hK hk (Below.refl _ _)
  | 26, _ =>
    obtain rfl : { dst := some 105, op := Op.buildSlice 32 2 #[(0, Operand.tmp 103), (1, Operand.tmp 104)], type := 32, pos := "outright.go:26", after := #[{ on := 24, ground := Ground.data }, { on := 25, ground := Ground.data }, { on := 22, ground := Ground.guard }], guard := some (22, false) } = o := Option.some.inj (show ring13Ops[26]? = some _ from ho)
    obtain ⟨t22, g22⟩ := dep 22 (by kernel_rfl)
    have q22 := t22 101 (by rfl)
    have e22 := eval_at q22
    have v22 : f 22 = .bool false := g22
    have hw := wanted_some (ops := ring13Ops) (o := { dst := some 105, op := Op.buildSlice 32 2 #[(0, Operand.tmp 103), (1, Operand.tmp 104)], type := 32, pos := "outright.go:26", after := #[{ on := 24, ground := Ground.data }, { on := 25, ground := Ground.data }, { on := 22, ground := Ground.guard }], guard := some (22, false) }) (a := a) (j := 22) (s := 101) (b := false) (c := false) rfl (by rfl) (by rw [← v22]; exact q22)
    obtain ⟨t24, g24⟩ := dep 24 (by kernel_rfl)
    have q24 := t24 103 (by rfl)
    have e24 := eval_at q24
    obtain ⟨t25, g25⟩ := dep 25 (by kernel_rfl)
    have q25 := t25 104 (by rfl)
    have e25 := eval_at q25
    obtain ⟨v, w2, hr, hrow, hb⟩ := st_build2 g24 g25
    refine inv_val (G := Kd.ok z (ring13K A B C 26)) (R := fun x y => Below x.heap.size x y) (hw.trans (by decide)) (v := v) (w2 := w2) (by simp [execOp, e24, e25, hr]) hK hrow hb
  | 27, _ =>
    obtain rfl : { dst := some 106, op := Op.call { callee := Callee.value (Operand.func 11), args := #[Operand.tmp 105], argTypes := #[32] }, type := 25, pos := "outright.go:26", after := #[{ on := 26, ground := Ground.data }, { on := 22, ground := Ground.chain }, { on := 22, ground := Ground.guard }], guard := some (22, false) } = o := Option.some.inj (show ring13Ops[27]? = some _ from ho)
    obtain ⟨t22, g22⟩ := dep 22 (by kernel_rfl)
    have q22 := t22 101 (by rfl)
    have e22 := eval_at q22
    have v22 : f 22 = .bool false := g22
    have hw := wanted_some (ops := ring13Ops) (o := { dst := some 106, op := Op.call { callee := Callee.value (Operand.func 11), args := #[Operand.tmp 105], argTypes := #[32] }, type := 25, pos := "outright.go:26", after := #[{ on := 26, ground := Ground.data }, { on := 22, ground := Ground.chain }, { on := 22, ground := Ground.guard }], guard := some (22, false) }) (a := a) (j := 22) (s := 101) (b := false) (c := false) rfl (by rfl) (by rw [← v22]; exact q22)
    obtain ⟨t26, g26⟩ := dep 26 (by kernel_rfl)
    have q26 := t26 105 (by rfl)
    have e26 := eval_at q26
    refine inv_call (G := Kd.ok z (ring13K A B C 27)) (R := fun x y => Below x.heap.size x y) (hw.trans (by decide)) (F := 11) (args := #[f 26]) (by simp [go_sem, q26]) hK ?_
    exact k_add g26 (by simp) N5 hka hzx
  | 28, _ =>
    obtain rfl : { dst := some 107, op := Op.buildSlice 32 2 #[(0, Operand.tmp 102), (1, Operand.tmp 106)], type := 32, pos := "outright.go:26", after := #[{ on := 23, ground := Ground.data }, { on := 27, ground := Ground.data }, { on := 22, ground := Ground.guard }], guard := some (22, false) } = o := Option.some.inj (show ring13Ops[28]? = some _ from ho)
    obtain ⟨t22, g22⟩ := dep 22 (by kernel_rfl)
    have q22 := t22 101 (by rfl)
    have e22 := eval_at q22
    have v22 : f 22 = .bool false := g22
    have hw := wanted_some (ops := ring13Ops) (o := { dst := some 107, op := Op.buildSlice 32 2 #[(0, Operand.tmp 102), (1, Operand.tmp 106)], type := 32, pos := "outright.go:26", after := #[{ on := 23, ground := Ground.data }, { on := 27, ground := Ground.data }, { on := 22, ground := Ground.guard }], guard := some (22, false) }) (a := a) (j := 22) (s := 101) (b := false) (c := false) rfl (by rfl) (by rw [← v22]; exact q22)
    obtain ⟨t23, g23⟩ := dep 23 (by kernel_rfl)
    have q23 := t23 102 (by rfl)
    have e23 := eval_at q23
    obtain ⟨t27, g27⟩ := dep 27 (by kernel_rfl)
    have q27 := t27 106 (by rfl)
    have e27 := eval_at q27
    obtain ⟨v, w2, hr, hrow, hb⟩ := st_build2 g23 g27.2
    refine inv_val (G := Kd.ok z (ring13K A B C 28)) (R := fun x y => Below x.heap.size x y) (hw.trans (by decide)) (v := v) (w2 := w2) (by simp [execOp, e23, e27, hr]) hK hrow hb
  | 29, _ =>
    obtain rfl : { dst := some 108, op := Op.call { callee := Callee.value (Operand.func 12), args := #[Operand.tmp 107], argTypes := #[32] }, type := 25, pos := "outright.go:26", after := #[{ on := 28, ground := Ground.data }, { on := 27, ground := Ground.chain }, { on := 22, ground := Ground.guard }], guard := some (22, false) } = o := Option.some.inj (show ring13Ops[29]? = some _ from ho)
    obtain ⟨t22, g22⟩ := dep 22 (by kernel_rfl)
    have q22 := t22 101 (by rfl)
    have e22 := eval_at q22
    have v22 : f 22 = .bool false := g22
    have hw := wanted_some (ops := ring13Ops) (o := { dst := some 108, op := Op.call { callee := Callee.value (Operand.func 12), args := #[Operand.tmp 107], argTypes := #[32] }, type := 25, pos := "outright.go:26", after := #[{ on := 28, ground := Ground.data }, { on := 27, ground := Ground.chain }, { on := 22, ground := Ground.guard }], guard := some (22, false) }) (a := a) (j := 22) (s := 101) (b := false) (c := false) rfl (by rfl) (by rw [← v22]; exact q22)
    obtain ⟨t28, g28⟩ := dep 28 (by kernel_rfl)
    have q28 := t28 107 (by rfl)
    have e28 := eval_at q28
    refine inv_call (G := Kd.ok z (ring13K A B C 29)) (R := fun x y => Below x.heap.size x y) (hw.trans (by decide)) (F := 12) (args := #[f 28]) (by simp [go_sem, q28]) hK ?_
    exact k_mul g28 (by simp) N6 hka hzx
  | 30, _ =>
    obtain rfl : { dst := some 109, op := Op.load 25 (Operand.tmp 3), type := 25, pos := "outright.go:26", after := #[{ on := 22, ground := Ground.guard }], guard := some (22, false) } = o := Option.some.inj (show ring13Ops[30]? = some _ from ho)
    obtain ⟨t22, g22⟩ := dep 22 (by kernel_rfl)
    have q22 := t22 101 (by rfl)
    have e22 := eval_at q22
    have v22 : f 22 = .bool false := g22
    have hw := wanted_some (ops := ring13Ops) (o := { dst := some 109, op := Op.load 25 (Operand.tmp 3), type := 25, pos := "outright.go:26", after := #[{ on := 22, ground := Ground.guard }], guard := some (22, false) }) (a := a) (j := 22) (s := 101) (b := false) (c := false) rfl (by rfl) (by rw [← v22]; exact q22)
    have qb3 := (bas 3 (by kernel_rfl)).trans h3
    have eb3 := eval_at qb3
    obtain ⟨xc, hc, hk⟩ := C3.below hR
    refine inv_val (G := Kd.ok z (ring13K A B C 30)) (R := fun x y => Below x.heap.size x y) (hw.trans (by decide)) (v := .agg #[xc]) (w2 := x) (by simp only [execOp, eb3]; go_simp) hK hk (Below.refl _ _)
  | 31, _ =>
    obtain rfl : { dst := some 110, op := Op.load 25 (Operand.tmp 4), type := 25, pos := "outright.go:26", after := #[{ on := 22, ground := Ground.guard }], guard := some (22, false) } = o := Option.some.inj (show ring13Ops[31]? = some _ from ho)
    obtain ⟨t22, g22⟩ := dep 22 (by kernel_rfl)
    have q22 := t22 101 (by rfl)
    have e22 := eval_at q22
    have v22 : f 22 = .bool false := g22
    have hw := wanted_some (ops := ring13Ops) (o := { dst := some 110, op := Op.load 25 (Operand.tmp 4), type := 25, pos := "outright.go:26", after := #[{ on := 22, ground := Ground.guard }], guard := some (22, false) }) (a := a) (j := 22) (s := 101) (b := false) (c := false) rfl (by rfl) (by rw [← v22]; exact q22)
    have qb4 := (bas 4 (by kernel_rfl)).trans h4
    have eb4 := eval_at qb4
    obtain ⟨xc, hc, hk⟩ := C4.below hR
    refine inv_val (G := Kd.ok z (ring13K A B C 31)) (R := fun x y => Below x.heap.size x y) (hw.trans (by decide)) (v := .agg #[xc]) (w2 := x) (by simp only [execOp, eb4]; go_simp) hK hk (Below.refl _ _)
  | 32, _ =>
    obtain rfl : { dst := some 111, op := Op.buildSlice 32 2 #[(0, Operand.tmp 109), (1, Operand.tmp 110)], type := 32, pos := "outright.go:26", after := #[{ on := 30, ground := Ground.data }, { on := 31, ground := Ground.data }, { on := 22, ground := Ground.guard }], guard := some (22, false) } = o := Option.some.inj (show ring13Ops[32]? = some _ from ho)
    obtain ⟨t22, g22⟩ := dep 22 (by kernel_rfl)
    have q22 := t22 101 (by rfl)
    have e22 := eval_at q22
    have v22 : f 22 = .bool false := g22
    have hw := wanted_some (ops := ring13Ops) (o := { dst := some 111, op := Op.buildSlice 32 2 #[(0, Operand.tmp 109), (1, Operand.tmp 110)], type := 32, pos := "outright.go:26", after := #[{ on := 30, ground := Ground.data }, { on := 31, ground := Ground.data }, { on := 22, ground := Ground.guard }], guard := some (22, false) }) (a := a) (j := 22) (s := 101) (b := false) (c := false) rfl (by rfl) (by rw [← v22]; exact q22)
    obtain ⟨t30, g30⟩ := dep 30 (by kernel_rfl)
    have q30 := t30 109 (by rfl)
    have e30 := eval_at q30
    obtain ⟨t31, g31⟩ := dep 31 (by kernel_rfl)
    have q31 := t31 110 (by rfl)
    have e31 := eval_at q31
    obtain ⟨v, w2, hr, hrow, hb⟩ := st_build2 g30 g31
    refine inv_val (G := Kd.ok z (ring13K A B C 32)) (R := fun x y => Below x.heap.size x y) (hw.trans (by decide)) (v := v) (w2 := w2) (by simp [execOp, e30, e31, hr]) hK hrow hb
  | 33, _ =>
    obtain rfl : { dst := some 112, op := Op.call { callee := Callee.value (Operand.func 12), args := #[Operand.tmp 111], argTypes := #[32] }, type := 25, pos := "outright.go:26", after := #[{ on := 32, ground := Ground.data }, { on := 29, ground := Ground.chain }, { on := 22, ground := Ground.guard }], guard := some (22, false) } = o := Option.some.inj (show ring13Ops[33]? = some _ from ho)
    obtain ⟨t22, g22⟩ := dep 22 (by kernel_rfl)
    have q22 := t22 101 (by rfl)
    have e22 := eval_at q22
    have v22 : f 22 = .bool false := g22
    have hw := wanted_some (ops := ring13Ops) (o := { dst := some 112, op := Op.call { callee := Callee.value (Operand.func 12), args := #[Operand.tmp 111], argTypes := #[32] }, type := 25, pos := "outright.go:26", after := #[{ on := 32, ground := Ground.data }, { on := 29, ground := Ground.chain }, { on := 22, ground := Ground.guard }], guard := some (22, false) }) (a := a) (j := 22) (s := 101) (b := false) (c := false) rfl (by rfl) (by rw [← v22]; exact q22)
    obtain ⟨t32, g32⟩ := dep 32 (by kernel_rfl)
    have q32 := t32 111 (by rfl)
    have e32 := eval_at q32
    refine inv_call (G := Kd.ok z (ring13K A B C 33)) (R := fun x y => Below x.heap.size x y) (hw.trans (by decide)) (F := 12) (args := #[f 32]) (by simp [go_sem, q32]) hK ?_
    exact k_mul g32 (by simp) N7 hka hzx
  | 34, _ =>
    obtain rfl : { dst := some 113, op := Op.load 25 (Operand.tmp 3), type := 25, pos := "outright.go:26", after := #[{ on := 22, ground := Ground.guard }], guard := some (22, false) } = o := Option.some.inj (show ring13Ops[34]? = some _ from ho)
    obtain ⟨t22, g22⟩ := dep 22 (by kernel_rfl)
    have q22 := t22 101 (by rfl)
    have e22 := eval_at q22
    have v22 : f 22 = .bool false := g22
    have hw := wanted_some (ops := ring13Ops) (o := { dst := some 113, op := Op.load 25 (Operand.tmp 3), type := 25, pos := "outright.go:26", after := #[{ on := 22, ground := Ground.guard }], guard := some (22, false) }) (a := a) (j := 22) (s := 101) (b := false) (c := false) rfl (by rfl) (by rw [← v22]; exact q22)
    have qb3 := (bas 3 (by kernel_rfl)).trans h3
    have eb3 := eval_at qb3
    obtain ⟨xc, hc, hk⟩ := C3.below hR
    refine inv_val (G := Kd.ok z (ring13K A B C 34)) (R := fun x y => Below x.heap.size x y) (hw.trans (by decide)) (v := .agg #[xc]) (w2 := x) (by simp only [execOp, eb3]; go_simp) hK hk (Below.refl _ _)
  | 35, _ =>
    obtain rfl : { dst := some 114, op := Op.load 25 (Operand.tmp 5), type := 25, pos := "outright.go:26", after := #[{ on := 22, ground := Ground.guard }], guard := some (22, false) } = o := Option.some.inj (show ring13Ops[35]? = some _ from ho)
    obtain ⟨t22, g22⟩ := dep 22 (by kernel_rfl)
    have q22 := t22 101 (by rfl)
    have e22 := eval_at q22
    have v22 : f 22 = .bool false := g22
    have hw := wanted_some (ops := ring13Ops) (o := { dst := some 114, op := Op.load 25 (Operand.tmp 5), type := 25, pos := "outright.go:26", after := #[{ on := 22, ground := Ground.guard }], guard := some (22, false) }) (a := a) (j := 22) (s := 101) (b := false) (c := false) rfl (by rfl) (by rw [← v22]; exact q22)
    have qb5 := (bas 5 (by kernel_rfl)).trans h5
    have eb5 := eval_at qb5
    obtain ⟨xc, hc, hk⟩ := C5.below hR
    refine inv_val (G := Kd.ok z (ring13K A B C 35)) (R := fun x y => Below x.heap.size x y) (hw.trans (by decide)) (v := .agg #[xc]) (w2 := x) (by simp only [execOp, eb5]; go_simp) hK hk (Below.refl _ _)
  | 36, _ =>
    obtain rfl : { dst := some 115, op := Op.buildSlice 32 2 #[(0, Operand.tmp 113), (1, Operand.tmp 114)], type := 32, pos := "outright.go:26", after := #[{ on := 34, ground := Ground.data }, { on := 35, ground := Ground.data }, { on := 22, ground := Ground.guard }], guard := some (22, false) } = o := Option.some.inj (show ring13Ops[36]? = some _ from ho)
    obtain ⟨t22, g22⟩ := dep 22 (by kernel_rfl)
    have q22 := t22 101 (by rfl)
    have e22 := eval_at q22
    have v22 : f 22 = .bool false := g22
    have hw := wanted_some (ops := ring13Ops) (o := { dst := some 115, op := Op.buildSlice 32 2 #[(0, Operand.tmp 113), (1, Operand.tmp 114)], type := 32, pos := "outright.go:26", after := #[{ on := 34, ground := Ground.data }, { on := 35, ground := Ground.data }, { on := 22, ground := Ground.guard }], guard := some (22, false) }) (a := a) (j := 22) (s := 101) (b := false) (c := false) rfl (by rfl) (by rw [← v22]; exact q22)
    obtain ⟨t34, g34⟩ := dep 34 (by kernel_rfl)
    have q34 := t34 113 (by rfl)
    have e34 := eval_at q34
    obtain ⟨t35, g35⟩ := dep 35 (by kernel_rfl)
    have q35 := t35 114 (by rfl)
    have e35 := eval_at q35
    obtain ⟨v, w2, hr, hrow, hb⟩ := st_build2 g34 g35
    refine inv_val (G := Kd.ok z (ring13K A B C 36)) (R := fun x y => Below x.heap.size x y) (hw.trans (by decide)) (v := v) (w2 := w2) (by simp [execOp, e34, e35, hr]) hK hrow hb
  | 37, _ =>
    obtain rfl : { dst := some 116, op := Op.call { callee := Callee.value (Operand.func 12), args := #[Operand.tmp 115], argTypes := #[32] }, type := 25, pos := "outright.go:26", after := #[{ on := 36, ground := Ground.data }, { on := 33, ground := Ground.chain }, { on := 22, ground := Ground.guard }], guard := some (22, false) } = o := Option.some.inj (show ring13Ops[37]? = some _ from ho)
    obtain ⟨t22, g22⟩ := dep 22 (by kernel_rfl)
    have q22 := t22 101 (by rfl)
    have e22 := eval_at q22
    have v22 : f 22 = .bool false := g22
    have hw := wanted_some (ops := ring13Ops) (o := { dst := some 116, op := Op.call { callee := Callee.value (Operand.func 12), args := #[Operand.tmp 115], argTypes := #[32] }, type := 25, pos := "outright.go:26", after := #[{ on := 36, ground := Ground.data }, { on := 33, ground := Ground.chain }, { on := 22, ground := Ground.guard }], guard := some (22, false) }) (a := a) (j := 22) (s := 101) (b := false) (c := false) rfl (by rfl) (by rw [← v22]; exact q22)
    obtain ⟨t36, g36⟩ := dep 36 (by kernel_rfl)
    have q36 := t36 115 (by rfl)
    have e36 := eval_at q36
    refine inv_call (G := Kd.ok z (ring13K A B C 37)) (R := fun x y => Below x.heap.size x y) (hw.trans (by decide)) (F := 12) (args := #[f 36]) (by simp [go_sem, q36]) hK ?_
    exact k_mul g36 (by simp) N8 hka hzx
  | 38, _ =>
    obtain rfl : { dst := some 117, op := Op.buildSlice 32 2 #[(0, Operand.tmp 112), (1, Operand.tmp 116)], type := 32, pos := "outright.go:26", after := #[{ on := 33, ground := Ground.data }, { on := 37, ground := Ground.data }, { on := 22, ground := Ground.guard }], guard := some (22, false) } = o := Option.some.inj (show ring13Ops[38]? = some _ from ho)
    obtain ⟨t22, g22⟩ := dep 22 (by kernel_rfl)
    have q22 := t22 101 (by rfl)
    have e22 := eval_at q22
    have v22 : f 22 = .bool false := g22
    have hw := wanted_some (ops := ring13Ops) (o := { dst := some 117, op := Op.buildSlice 32 2 #[(0, Operand.tmp 112), (1, Operand.tmp 116)], type := 32, pos := "outright.go:26", after := #[{ on := 33, ground := Ground.data }, { on := 37, ground := Ground.data }, { on := 22, ground := Ground.guard }], guard := some (22, false) }) (a := a) (j := 22) (s := 101) (b := false) (c := false) rfl (by rfl) (by rw [← v22]; exact q22)
    obtain ⟨t33, g33⟩ := dep 33 (by kernel_rfl)
    have q33 := t33 112 (by rfl)
    have e33 := eval_at q33
    obtain ⟨t37, g37⟩ := dep 37 (by kernel_rfl)
    have q37 := t37 116 (by rfl)
    have e37 := eval_at q37
    obtain ⟨v, w2, hr, hrow, hb⟩ := st_build2 g33.2 g37.2
    refine inv_val (G := Kd.ok z (ring13K A B C 38)) (R := fun x y => Below x.heap.size x y) (hw.trans (by decide)) (v := v) (w2 := w2) (by simp [execOp, e33, e37, hr]) hK hrow hb
  | 39, _ =>
    obtain rfl : { dst := some 118, op := Op.call { callee := Callee.value (Operand.func 11), args := #[Operand.tmp 117], argTypes := #[32] }, type := 25, pos := "outright.go:26", after := #[{ on := 38, ground := Ground.data }, { on := 37, ground := Ground.chain }, { on := 22, ground := Ground.guard }], guard := some (22, false) } = o := Option.some.inj (show ring13Ops[39]? = some _ from ho)
    obtain ⟨t22, g22⟩ := dep 22 (by kernel_rfl)
    have q22 := t22 101 (by rfl)
    have e22 := eval_at q22
    have v22 : f 22 = .bool false := g22
    have hw := wanted_some (ops := ring13Ops) (o := { dst := some 118, op := Op.call { callee := Callee.value (Operand.func 11), args := #[Operand.tmp 117], argTypes := #[32] }, type := 25, pos := "outright.go:26", after := #[{ on := 38, ground := Ground.data }, { on := 37, ground := Ground.chain }, { on := 22, ground := Ground.guard }], guard := some (22, false) }) (a := a) (j := 22) (s := 101) (b := false) (c := false) rfl (by rfl) (by rw [← v22]; exact q22)
    obtain ⟨t38, g38⟩ := dep 38 (by kernel_rfl)
    have q38 := t38 117 (by rfl)
    have e38 := eval_at q38
    refine inv_call (G := Kd.ok z (ring13K A B C 39)) (R := fun x y => Below x.heap.size x y) (hw.trans (by decide)) (F := 11) (args := #[f 38]) (by simp [go_sem, q38]) hK ?_
    exact (by have h := k_add (z := z) g38 (by simp) N9 hka hzx; rw [E3] at h; exact h)
  | 40, _ =>
    obtain rfl : { dst := some 119, op := Op.call { callee := Callee.value (Operand.func 9), args := #[Operand.tmp 108, Operand.tmp 118], argTypes := #[25, 25] }, type := 4, pos := "outright.go:26", after := #[{ on := 29, ground := Ground.data }, { on := 39, ground := Ground.data }, { on := 39, ground := Ground.chain }, { on := 22, ground := Ground.guard }], guard := some (22, false) } = o := Option.some.inj (show ring13Ops[40]? = some _ from ho)
    obtain ⟨t22, g22⟩ := dep 22 (by kernel_rfl)
    have q22 := t22 101 (by rfl)
    have e22 := eval_at q22
    have v22 : f 22 = .bool false := g22
    have hw := wanted_some (ops := ring13Ops) (o := { dst := some 119, op := Op.call { callee := Callee.value (Operand.func 9), args := #[Operand.tmp 108, Operand.tmp 118], argTypes := #[25, 25] }, type := 4, pos := "outright.go:26", after := #[{ on := 29, ground := Ground.data }, { on := 39, ground := Ground.data }, { on := 39, ground := Ground.chain }, { on := 22, ground := Ground.guard }], guard := some (22, false) }) (a := a) (j := 22) (s := 101) (b := false) (c := false) rfl (by rfl) (by rw [← v22]; exact q22)
    obtain ⟨t29, g29⟩ := dep 29 (by kernel_rfl)
    have q29 := t29 108 (by rfl)
    have e29 := eval_at q29
    obtain ⟨t39, g39⟩ := dep 39 (by kernel_rfl)
    have q39 := t39 118 (by rfl)
    have e39 := eval_at q39
    refine inv_call (G := Kd.ok z (ring13K A B C 40)) (R := fun x y => Below x.heap.size x y) (hw.trans (by decide)) (F := 9) (args := #[f 29, f 39]) (by simp [go_sem, q29, q39]) hK ?_
    exact k_same g29 g39
  | 41, _ =>
    obtain rfl : { dst := some 120, op := Op.unOp UnOp.not 4 (Operand.tmp 119), type := 4, pos := "outright.go:26", after := #[{ on := 40, ground := Ground.data }, { on := 22, ground := Ground.guard }], guard := some (22, false) } = o := Option.some.inj (show ring13Ops[41]? = some _ from ho)
    obtain ⟨t22, g22⟩ := dep 22 (by kernel_rfl)
    have q22 := t22 101 (by rfl)
    have e22 := eval_at q22
    have v22 : f 22 = .bool false := g22
    have hw := wanted_some (ops := ring13Ops) (o := { dst := some 120, op := Op.unOp UnOp.not 4 (Operand.tmp 119), type := 4, pos := "outright.go:26", after := #[{ on := 40, ground := Ground.data }, { on := 22, ground := Ground.guard }], guard := some (22, false) }) (a := a) (j := 22) (s := 101) (b := false) (c := false) rfl (by rfl) (by rw [← v22]; exact q22)
    obtain ⟨t40, g40⟩ := dep 40 (by kernel_rfl)
    have q40 := t40 119 (by rfl)
    have e40 := eval_at q40
    have w22 : f 22 = (.bool false) := g22
    have w40 : f 40 = (.bool true) := g40
    rw [w40] at e40
    refine inv_val (G := Kd.ok z (ring13K A B C 41)) (R := fun x y => Below x.heap.size x y) (hw.trans (by decide)) (v := (.bool false)) (w2 := x) (by simp only [execOp, e40]; go_simp) hK rfl (Below.refl _ _)
  | 42, _ =>
    obtain rfl : { dst := some 121, op := Op.pick (Operand.tmp 101) (Operand.const (Value.bool true)) (Operand.tmp 120), type := 4, pos := "outright.go:26", after := #[{ on := 22, ground := Ground.data }, { on := 41, ground := Ground.data }], guard := none } = o := Option.some.inj (show ring13Ops[42]? = some _ from ho)
    obtain ⟨t22, g22⟩ := dep 22 (by kernel_rfl)
    have q22 := t22 101 (by rfl)
    have e22 := eval_at q22
    obtain ⟨t41, g41⟩ := dep 41 (by kernel_rfl)
    have q41 := t41 120 (by rfl)
    have e41 := eval_at q41
    have w22 : f 22 = (.bool false) := g22
    have w41 : f 41 = (.bool false) := g41
    rw [w22] at e22
    rw [w41] at e41
    refine inv_val (G := Kd.ok z (ring13K A B C 42)) (R := fun x y => Below x.heap.size x y) (wanted_none rfl) (v := (.bool false)) (w2 := x) (by simp only [execOp, e22, e41]; go_simp) hK rfl (Below.refl _ _)
end Go.Proofs.YteiadigkbhbolaaDoor
