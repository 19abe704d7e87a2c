/- PartsWhole: its drawn region with what is asked of each class. -/
import Derived.Test.YtkcjfgkfhjanpaaQv
namespace Go.Proofs.Ytkcjfgkfhjanpaa
open Go.RowKit Tnr

theorem k_right {w : World} {z : Nat} {v u : Value} (hv : Kd.ok z (.val u) v w) (h : Calls Try.prog 10 #[u] w fun e w' => e = .returned (.bool true) ∧ Below w.heap.size w w') :
    Calls Try.prog 10 #[v] w fun e y => ∃ u, e = .returned u ∧ Kd.ok z (.val (.bool true)) u y ∧ Below w.heap.size w y := by
  obtain rfl : v = u := hv
  refine h.mono ?_
  rintro e y ⟨rfl, hb⟩
  exact ⟨_, rfl, rfl, hb⟩

def whole13aOps : Array Oper := #[{ dst := some 54, op := Op.move (Operand.tmp 5), type := 22, pos := "outright.go:27", after := #[], guard := none },
  { dst := some 55, op := Op.move (Operand.tmp 9), type := 3, pos := "outright.go:27", after := #[], guard := none },
  { dst := some 56, op := Op.indexAddr 22 (Operand.tmp 54) (Operand.tmp 55), type := 0, pos := "outright.go:27", after := #[{ on := 0, ground := Ground.data }, { on := 1, ground := Ground.data }], guard := none },
  { dst := some 57, op := Op.load 31 (Operand.tmp 56), type := 31, pos := "outright.go:27", after := #[{ on := 2, ground := Ground.data }], guard := none },
  { dst := some 58, op := Op.call { callee := Callee.value (Operand.func 10), args := #[Operand.tmp 57], argTypes := #[31] }, type := 4, pos := "outright.go:27", after := #[{ on := 3, ground := Ground.data }], guard := none },
  { dst := some 59, op := Op.unOp UnOp.not 4 (Operand.tmp 58), type := 4, pos := "outright.go:27", after := #[{ on := 4, ground := Ground.data }], guard := none },
  { dst := some 60, op := Op.move (Operand.tmp 59), type := 4, pos := "outright.go:27", after := #[{ on := 5, ground := Ground.data }, { on := 4, ground := Ground.chain }], guard := none },
  { dst := some 61, op := Op.move (Operand.tmp 5), type := 22, pos := "outright.go:27", after := #[{ on := 6, ground := Ground.guard }], guard := some (6, false) },
  { dst := some 62, op := Op.move (Operand.tmp 9), type := 3, pos := "outright.go:27", after := #[{ on := 6, ground := Ground.guard }], guard := some (6, false) },
  { dst := some 63, op := Op.indexAddr 22 (Operand.tmp 61) (Operand.tmp 62), type := 0, pos := "outright.go:27", after := #[{ on := 7, ground := Ground.data }, { on := 8, ground := Ground.data }, { on := 6, ground := Ground.guard }], guard := some (6, false) },
  { dst := some 64, op := Op.load 31 (Operand.tmp 63), type := 31, pos := "outright.go:27", after := #[{ on := 9, ground := Ground.data }, { on := 6, ground := Ground.guard }], guard := some (6, false) },
  { dst := some 65, op := Op.call { callee := Callee.builtin Builtin.len, args := #[Operand.tmp 64], argTypes := #[31] }, type := 3, pos := "outright.go:27", after := #[{ on := 10, ground := Ground.data }, { on := 6, ground := Ground.guard }], guard := some (6, false) },
  { dst := some 66, op := Op.binOp BinOp.eql 3 (Operand.tmp 65) (Operand.const (Value.int IntKind.i64 0)) 3, type := 4, pos := "outright.go:27", after := #[{ on := 11, ground := Ground.data }, { on := 6, ground := Ground.guard }], guard := some (6, false) },
  { dst := some 67, op := Op.pick (Operand.tmp 60) (Operand.const (Value.bool true)) (Operand.tmp 66), type := 4, pos := "outright.go:27", after := #[{ on := 6, ground := Ground.data }, { on := 12, ground := Ground.data }], guard := none },
  { dst := some 68, op := Op.move (Operand.tmp 67), type := 4, pos := "outright.go:27", after := #[{ on := 13, ground := Ground.data }, { on := 6, ground := Ground.chain }], guard := none },
  { dst := some 69, op := Op.move (Operand.tmp 9), type := 3, pos := "outright.go:27", after := #[{ on := 14, ground := Ground.guard }], guard := some (14, false) },
  { dst := some 70, op := Op.binOp BinOp.gtr 3 (Operand.tmp 69) (Operand.const (Value.int IntKind.i64 0)) 3, type := 4, pos := "outright.go:27", after := #[{ on := 15, ground := Ground.data }, { on := 14, ground := Ground.guard }], guard := some (14, false) },
  { dst := some 71, op := Op.move (Operand.tmp 70), type := 4, pos := "outright.go:27", after := #[{ on := 16, ground := Ground.data }, { on := 14, ground := Ground.chain }, { on := 14, ground := Ground.guard }], guard := some (14, false) },
  { dst := some 72, op := Op.move (Operand.tmp 8), type := 23, pos := "outright.go:27", after := #[{ on := 17, ground := Ground.guard }], guard := some (17, true) },
  { dst := some 73, op := Op.move (Operand.tmp 9), type := 3, pos := "outright.go:27", after := #[{ on := 17, ground := Ground.guard }], guard := some (17, true) },
  { dst := some 74, op := Op.binOp BinOp.sub 3 (Operand.tmp 73) (Operand.const (Value.int IntKind.i64 1)) 3, type := 3, pos := "outright.go:27", after := #[{ on := 19, ground := Ground.data }, { on := 17, ground := Ground.guard }], guard := some (17, true) },
  { dst := some 75, op := Op.indexAddr 23 (Operand.tmp 72) (Operand.tmp 74), type := 0, pos := "outright.go:27", after := #[{ on := 18, ground := Ground.data }, { on := 20, ground := Ground.data }, { on := 17, ground := Ground.guard }], guard := some (17, true) },
  { dst := some 76, op := Op.load 3 (Operand.tmp 75), type := 3, pos := "outright.go:27", after := #[{ on := 21, ground := Ground.data }, { on := 17, ground := Ground.guard }], guard := some (17, true) },
  { dst := some 77, op := Op.move (Operand.tmp 8), type := 23, pos := "outright.go:27", after := #[{ on := 17, ground := Ground.guard }], guard := some (17, true) },
  { dst := some 78, op := Op.move (Operand.tmp 9), type := 3, pos := "outright.go:27", after := #[{ on := 17, ground := Ground.guard }], guard := some (17, true) },
  { dst := some 79, op := Op.indexAddr 23 (Operand.tmp 77) (Operand.tmp 78), type := 0, pos := "outright.go:27", after := #[{ on := 23, ground := Ground.data }, { on := 24, ground := Ground.data }, { on := 17, ground := Ground.guard }], guard := some (17, true) },
  { dst := some 80, op := Op.load 3 (Operand.tmp 79), type := 3, pos := "outright.go:27", after := #[{ on := 25, ground := Ground.data }, { on := 17, ground := Ground.guard }], guard := some (17, true) },
  { dst := some 81, op := Op.binOp BinOp.geq 3 (Operand.tmp 76) (Operand.tmp 80) 3, type := 4, pos := "outright.go:27", after := #[{ on := 22, ground := Ground.data }, { on := 26, ground := Ground.data }, { on := 17, ground := Ground.guard }], guard := some (17, true) },
  { dst := some 82, op := Op.pick (Operand.tmp 71) (Operand.tmp 81) (Operand.const (Value.bool false)), type := 4, pos := "outright.go:27", after := #[{ on := 17, ground := Ground.data }, { on := 27, ground := Ground.data }, { on := 14, ground := Ground.guard }], guard := some (14, false) },
  { dst := some 83, op := Op.pick (Operand.tmp 68) (Operand.const (Value.bool true)) (Operand.tmp 82), type := 4, pos := "outright.go:27", after := #[{ on := 14, ground := Ground.data }, { on := 28, ground := Ground.data }], guard := none }]
def whole13aPre : Array Bool := #[true, true, true, true, true, true, true, true, true, true, true, true, true, true, true, true, true, true, true, true, true, true, true, true, true, true, true, true, true, true]
def whole13aK (pa : Option Addr) (bl ol ln lc ni na ca : Nat) : Nat → Kd
  | 0 => .val (.slice (some ⟨bl, ol, none⟩) ln lc)
  | 1 => .val (.int .i64 (ni : Nat))
  | 2 => .val (.pointer (some ⟨bl, ol + ni, none⟩))
  | 3 => .val (.slice pa na ca)
  | 4 => .val (.bool true)
  | 5 => .val (.bool false)
  | 6 => .val (.bool false)
  | 7 => .val (.slice (some ⟨bl, ol, none⟩) ln lc)
  | 8 => .val (.int .i64 (ni : Nat))
  | 9 => .val (.pointer (some ⟨bl, ol + ni, none⟩))
  | 10 => .val (.slice pa na ca)
  | 11 => .val (.int .i64 (na : Nat))
  | 12 => .val (.bool false)
  | 13 => .val (.bool false)
  | 14 => .val (.bool false)
  | 15 => .val (.int .i64 (ni : Nat))
  | 16 => .val (.bool false)
  | 17 => .val (.bool false)
  | 18 => .val undef
  | 19 => .val undef
  | 20 => .val undef
  | 21 => .val undef
  | 22 => .val undef
  | 23 => .val undef
  | 24 => .val undef
  | 25 => .val undef
  | 26 => .val undef
  | 27 => .val undef
  | 28 => .val (.bool false)
  | 29 => .val (.bool false)
  | _ => .val undef
theorem whole13a_slots (f : Nat → Value) : slotsOf whole13aOps whole13aPre f = [(54, f 0), (55, f 1), (56, f 2), (57, f 3), (58, f 4), (59, f 5), (60, f 6), (61, f 7), (62, f 8), (63, f 9), (64, f 10), (65, f 11), (66, f 12), (67, f 13), (68, f 14), (69, f 15), (70, f 16), (71, f 17), (72, f 18), (73, f 19), (74, f 20), (75, f 21), (76, f 22), (77, f 23), (78, f 24), (79, f 25), (80, f 26), (81, f 27), (82, f 28), (83, f 29)] := by kernel_rfl
set_option maxHeartbeats 6400000 in
set_option maxRecDepth 100000 in
theorem whole13a_wp {Q : Exit → Act → World → Prop} {a0 : Act} {w : World} {z : Nat} (pa : Option Addr) (bl ol ln lc ni na ca : Nat) (hz : z ≤ w.drew.heap.size) (hsize : a0.tmps.size = 152) (h5 : a0.tmps[5]? = some (.slice (some ⟨bl, ol, none⟩) ln lc)) (h9 : a0.tmps[9]? = some (.int .i64 (ni : Nat))) (hiI : (ni : Int) < ln) (hi0 : (ni : Int) ≤ 0)
    (hcell : w.drew.cell? ⟨bl, ol + ni, none⟩ = some (.slice pa na ca)) (hna0 : ((na : Int) == 0) = false) (hrt : ∀ W, Below w.drew.heap.size w.drew W → Calls Try.prog 10 #[.slice pa na ca] W fun e w' => e = .returned (.bool true) ∧ Below W.heap.size W w')
    (fin : ∀ (f : Nat → Value) (y : World), (∀ j, j < 30 → whole13aPre.getD j false = true → Kd.ok z (whole13aK pa bl ol ln lc ni na ca j) (f j) y) → Below w.drew.heap.size w.drew y → Q .normal (putL a0 [(54, f 0), (55, f 1), (56, f 2), (57, f 3), (58, f 4), (59, f 5), (60, f 6), (61, f 7), (62, f 8), (63, f 9), (64, f 10), (65, f 11), (66, f 12), (67, f 13), (68, f 14), (69, f 15), (70, f 16), (71, f 17), (72, f 18), (73, f 19), (74, f 20), (75, f 21), (76, f 22), (77, f 23), (78, f 24), (79, f 25), (80, f 26), (81, f 27), (82, f 28), (83, f 29)]) y) (id : Nat) :
    (Code.region id whole13aOps true).wp Try.prog Q a0 w := by
  refine wp_region_inv whole13aPre (fun j => Kd.ok z (whole13aK pa bl ol ln lc ni na ca j)) (fun x y => Below x.heap.size x y) 30 0 (by kernel_rfl) (by kernel_rfl) (by rw [hsize]; kernel_rfl) (by kernel_rfl) (by kernel_rfl) (Below.refl _ _) (fun _ _ _ h1 h2 => bl_trans h1 h2) (fun _ _ _ _ h1 h2 => Kd.below h1 h2) ?_ (fun f y h1 h2 => by rw [whole13a_slots]; exact any_end (by kernel_rfl) (fin f y h1 h2) 0)
  intro i o ho hp f a x hR hbase hdeps K hK
  have hi : i < 30 := by
    rcases Nat.lt_or_ge i 30 with h | h
    · exact h
    · have : whole13aOps.size ≤ i := h
      rw [Array.getElem?_eq_none this] at ho; cases ho
  have hzx : z ≤ x.heap.size := Nat.le_trans hz hR.size
  have dep : ∀ j, (o.after.any fun e => Region.binds .any e && e.on == j) = true → (∀ s, slotOf whole13aOps j = some s → a.tmps[s]? = some (f j)) ∧ Kd.ok z (whole13aK pa bl ol ln lc ni na ca j) (f j) x := by
    intro j h
    obtain ⟨e, he, h2⟩ := Array.any_eq_true'.1 h
    simp only [Bool.and_eq_true, beq_iff_eq] at h2
    obtain ⟨h3, rfl⟩ := h2
    exact hdeps e he h3
  have bas : ∀ s, ((List.range whole13aOps.size).all fun j => slotOf whole13aOps j != some s) = true → a.tmps[s]? = a0.tmps[s]? := by
    intro s h
    refine hbase s fun j hj _ e => ?_
    have h2 := (List.all_eq_true.1 h) j (List.mem_range.2 hj)
    rw [e] at h2; simp at h2
  match i, hi with
  | 0, _ =>
    obtain rfl : { dst := some 54, op := Op.move (Operand.tmp 5), type := 22, pos := "outright.go:27", after := #[], guard := none } = o := Option.some.inj (show whole13aOps[0]? = some _ from ho)
    have qb5 := (bas 5 (by kernel_rfl)).trans h5
    have eb5 := eval_at qb5
    refine inv_val (G := Kd.ok z (whole13aK pa bl ol ln lc ni na ca 0)) (R := fun x y => Below x.heap.size x y) (wanted_none rfl) (v := (.slice (some ⟨bl, ol, none⟩) ln lc)) (w2 := x) (by simp only [execOp, eb5]; go_simp) hK rfl (Below.refl _ _)
  | 1, _ =>
    obtain rfl : { dst := some 55, op := Op.move (Operand.tmp 9), type := 3, pos := "outright.go:27", after := #[], guard := none } = o := Option.some.inj (show whole13aOps[1]? = some _ from ho)
    have qb9 := (bas 9 (by kernel_rfl)).trans h9
    have eb9 := eval_at qb9
    refine inv_val (G := Kd.ok z (whole13aK pa bl ol ln lc ni na ca 1)) (R := fun x y => Below x.heap.size x y) (wanted_none rfl) (v := (.int .i64 (ni : Nat))) (w2 := x) (by simp only [execOp, eb9]; go_simp) hK rfl (Below.refl _ _)
  | 2, _ =>
    obtain rfl : { dst := some 56, op := Op.indexAddr 22 (Operand.tmp 54) (Operand.tmp 55), type := 0, pos := "outright.go:27", after := #[{ on := 0, ground := Ground.data }, { on := 1, ground := Ground.data }], guard := none } = o := Option.some.inj (show whole13aOps[2]? = some _ from ho)
    obtain ⟨t0, g0⟩ := dep 0 (by kernel_rfl)
    have q0 := t0 54 (by rfl)
    have e0 := eval_at q0
    obtain ⟨t1, g1⟩ := dep 1 (by kernel_rfl)
    have q1 := t1 55 (by rfl)
    have e1 := eval_at q1
    have w0 : f 0 = (.slice (some ⟨bl, ol, none⟩) ln lc) := g0
    have w1 : f 1 = (.int .i64 (ni : Nat)) := g1
    rw [w0] at e0
    rw [w1] at e1
    refine inv_val (G := Kd.ok z (whole13aK pa bl ol ln lc ni na ca 2)) (R := fun x y => Below x.heap.size x y) (wanted_none rfl) (v := (.pointer (some ⟨bl, ol + ni, none⟩))) (w2 := x) (by simp only [execOp, e0, e1]; go_simp) hK rfl (Below.refl _ _)
  | 3, _ =>
    obtain rfl : { dst := some 57, op := Op.load 31 (Operand.tmp 56), type := 31, pos := "outright.go:27", after := #[{ on := 2, ground := Ground.data }], guard := none } = o := Option.some.inj (show whole13aOps[3]? = some _ from ho)
    obtain ⟨t2, g2⟩ := dep 2 (by kernel_rfl)
    have q2 := t2 56 (by rfl)
    have e2 := eval_at q2
    have w2 : f 2 = (.pointer (some ⟨bl, ol + ni, none⟩)) := g2
    rw [w2] at e2
    have hc := keep_cell hR hcell
    refine inv_val (G := Kd.ok z (whole13aK pa bl ol ln lc ni na ca 3)) (R := fun x y => Below x.heap.size x y) (wanted_none rfl) (v := (.slice pa na ca)) (w2 := x) (by simp only [execOp, e2]; go_simp) hK rfl (Below.refl _ _)
  | 4, _ =>
    obtain rfl : { dst := some 58, op := Op.call { callee := Callee.value (Operand.func 10), args := #[Operand.tmp 57], argTypes := #[31] }, type := 4, pos := "outright.go:27", after := #[{ on := 3, ground := Ground.data }], guard := none } = o := Option.some.inj (show whole13aOps[4]? = some _ from ho)
    obtain ⟨t3, g3⟩ := dep 3 (by kernel_rfl)
    have q3 := t3 57 (by rfl)
    have e3 := eval_at q3
    refine inv_call (G := Kd.ok z (whole13aK pa bl ol ln lc ni na ca 4)) (R := fun x y => Below x.heap.size x y) (wanted_none rfl) (F := 10) (args := #[f 3]) (by simp [go_sem, q3]) hK ?_
    exact k_right g3 (hrt _ hR)
  | 5, _ =>
    obtain rfl : { dst := some 59, op := Op.unOp UnOp.not 4 (Operand.tmp 58), type := 4, pos := "outright.go:27", after := #[{ on := 4, ground := Ground.data }], guard := none } = o := Option.some.inj (show whole13aOps[5]? = some _ from ho)
    obtain ⟨t4, g4⟩ := dep 4 (by kernel_rfl)
    have q4 := t4 58 (by rfl)
    have e4 := eval_at q4
    have w4 : f 4 = (.bool true) := g4
    rw [w4] at e4
    refine inv_val (G := Kd.ok z (whole13aK pa bl ol ln lc ni na ca 5)) (R := fun x y => Below x.heap.size x y) (wanted_none rfl) (v := (.bool false)) (w2 := x) (by simp only [execOp, e4]; go_simp) hK rfl (Below.refl _ _)
  | 6, _ =>
    obtain rfl : { dst := some 60, op := Op.move (Operand.tmp 59), type := 4, pos := "outright.go:27", after := #[{ on := 5, ground := Ground.data }, { on := 4, ground := Ground.chain }], guard := none } = o := Option.some.inj (show whole13aOps[6]? = some _ from ho)
    obtain ⟨t5, g5⟩ := dep 5 (by kernel_rfl)
    have q5 := t5 59 (by rfl)
    have e5 := eval_at q5
    have w5 : f 5 = (.bool false) := g5
    rw [w5] at e5
    refine inv_val (G := Kd.ok z (whole13aK pa bl ol ln lc ni na ca 6)) (R := fun x y => Below x.heap.size x y) (wanted_none rfl) (v := (.bool false)) (w2 := x) (by simp only [execOp, e5]; go_simp) hK rfl (Below.refl _ _)
  | 7, _ =>
    obtain rfl : { dst := some 61, op := Op.move (Operand.tmp 5), type := 22, pos := "outright.go:27", after := #[{ on := 6, ground := Ground.guard }], guard := some (6, false) } = o := Option.some.inj (show whole13aOps[7]? = some _ from ho)
    obtain ⟨t6, g6⟩ := dep 6 (by kernel_rfl)
    have q6 := t6 60 (by rfl)
    have e6 := eval_at q6
    have v6 : f 6 = .bool false := g6
    have hw := wanted_some (ops := whole13aOps) (o := { dst := some 61, op := Op.move (Operand.tmp 5), type := 22, pos := "outright.go:27", after := #[{ on := 6, ground := Ground.guard }], guard := some (6, false) }) (a := a) (j := 6) (s := 60) (b := false) (c := false) rfl (by rfl) (by rw [← v6]; exact q6)
    have qb5 := (bas 5 (by kernel_rfl)).trans h5
    have eb5 := eval_at qb5
    have w6 : f 6 = (.bool false) := g6
    refine inv_val (G := Kd.ok z (whole13aK pa bl ol ln lc ni na ca 7)) (R := fun x y => Below x.heap.size x y) (hw.trans (by decide)) (v := (.slice (some ⟨bl, ol, none⟩) ln lc)) (w2 := x) (by simp only [execOp, eb5]; go_simp) hK rfl (Below.refl _ _)
  | 8, _ =>
    obtain rfl : { dst := some 62, op := Op.move (Operand.tmp 9), type := 3, pos := "outright.go:27", after := #[{ on := 6, ground := Ground.guard }], guard := some (6, false) } = o := Option.some.inj (show whole13aOps[8]? = some _ from ho)
    obtain ⟨t6, g6⟩ := dep 6 (by kernel_rfl)
    have q6 := t6 60 (by rfl)
    have e6 := eval_at q6
    have v6 : f 6 = .bool false := g6
    have hw := wanted_some (ops := whole13aOps) (o := { dst := some 62, op := Op.move (Operand.tmp 9), type := 3, pos := "outright.go:27", after := #[{ on := 6, ground := Ground.guard }], guard := some (6, false) }) (a := a) (j := 6) (s := 60) (b := false) (c := false) rfl (by rfl) (by rw [← v6]; exact q6)
    have qb9 := (bas 9 (by kernel_rfl)).trans h9
    have eb9 := eval_at qb9
    have w6 : f 6 = (.bool false) := g6
    refine inv_val (G := Kd.ok z (whole13aK pa bl ol ln lc ni na ca 8)) (R := fun x y => Below x.heap.size x y) (hw.trans (by decide)) (v := (.int .i64 (ni : Nat))) (w2 := x) (by simp only [execOp, eb9]; go_simp) hK rfl (Below.refl _ _)
  | 9, _ =>
    obtain rfl : { dst := some 63, op := Op.indexAddr 22 (Operand.tmp 61) (Operand.tmp 62), type := 0, pos := "outright.go:27", after := #[{ on := 7, ground := Ground.data }, { on := 8, ground := Ground.data }, { on := 6, ground := Ground.guard }], guard := some (6, false) } = o := Option.some.inj (show whole13aOps[9]? = some _ from ho)
    obtain ⟨t6, g6⟩ := dep 6 (by kernel_rfl)
    have q6 := t6 60 (by rfl)
    have e6 := eval_at q6
    have v6 : f 6 = .bool false := g6
    have hw := wanted_some (ops := whole13aOps) (o := { dst := some 63, op := Op.indexAddr 22 (Operand.tmp 61) (Operand.tmp 62), type := 0, pos := "outright.go:27", after := #[{ on := 7, ground := Ground.data }, { on := 8, ground := Ground.data }, { on := 6, ground := Ground.guard }], guard := some (6, false) }) (a := a) (j := 6) (s := 60) (b := false) (c := false) rfl (by rfl) (by rw [← v6]; exact q6)
    obtain ⟨t7, g7⟩ := dep 7 (by kernel_rfl)
    have q7 := t7 61 (by rfl)
    have e7 := eval_at q7
    obtain ⟨t8, g8⟩ := dep 8 (by kernel_rfl)
    have q8 := t8 62 (by rfl)
    have e8 := eval_at q8
    have w6 : f 6 = (.bool false) := g6
    have w7 : f 7 = (.slice (some ⟨bl, ol, none⟩) ln lc) := g7
    have w8 : f 8 = (.int .i64 (ni : Nat)) := g8
    rw [w7] at e7
    rw [w8] at e8
    refine inv_val (G := Kd.ok z (whole13aK pa bl ol ln lc ni na ca 9)) (R := fun x y => Below x.heap.size x y) (hw.trans (by decide)) (v := (.pointer (some ⟨bl, ol + ni, none⟩))) (w2 := x) (by simp only [execOp, e7, e8]; go_simp) hK rfl (Below.refl _ _)
  | 10, _ =>
    obtain rfl : { dst := some 64, op := Op.load 31 (Operand.tmp 63), type := 31, pos := "outright.go:27", after := #[{ on := 9, ground := Ground.data }, { on := 6, ground := Ground.guard }], guard := some (6, false) } = o := Option.some.inj (show whole13aOps[10]? = some _ from ho)
    obtain ⟨t6, g6⟩ := dep 6 (by kernel_rfl)
    have q6 := t6 60 (by rfl)
    have e6 := eval_at q6
    have v6 : f 6 = .bool false := g6
    have hw := wanted_some (ops := whole13aOps) (o := { dst := some 64, op := Op.load 31 (Operand.tmp 63), type := 31, pos := "outright.go:27", after := #[{ on := 9, ground := Ground.data }, { on := 6, ground := Ground.guard }], guard := some (6, false) }) (a := a) (j := 6) (s := 60) (b := false) (c := false) rfl (by rfl) (by rw [← v6]; exact q6)
    obtain ⟨t9, g9⟩ := dep 9 (by kernel_rfl)
    have q9 := t9 63 (by rfl)
    have e9 := eval_at q9
    have w9 : f 9 = (.pointer (some ⟨bl, ol + ni, none⟩)) := g9
    rw [w9] at e9
    have hc := keep_cell hR hcell
    refine inv_val (G := Kd.ok z (whole13aK pa bl ol ln lc ni na ca 10)) (R := fun x y => Below x.heap.size x y) (hw.trans (by decide)) (v := (.slice pa na ca)) (w2 := x) (by simp only [execOp, e9]; go_simp) hK rfl (Below.refl _ _)
  | 11, _ =>
    obtain rfl : { dst := some 65, op := Op.call { callee := Callee.builtin Builtin.len, args := #[Operand.tmp 64], argTypes := #[31] }, type := 3, pos := "outright.go:27", after := #[{ on := 10, ground := Ground.data }, { on := 6, ground := Ground.guard }], guard := some (6, false) } = o := Option.some.inj (show whole13aOps[11]? = some _ from ho)
    obtain ⟨t6, g6⟩ := dep 6 (by kernel_rfl)
    have q6 := t6 60 (by rfl)
    have e6 := eval_at q6
    have v6 : f 6 = .bool false := g6
    have hw := wanted_some (ops := whole13aOps) (o := { dst := some 65, op := Op.call { callee := Callee.builtin Builtin.len, args := #[Operand.tmp 64], argTypes := #[31] }, type := 3, pos := "outright.go:27", after := #[{ on := 10, ground := Ground.data }, { on := 6, ground := Ground.guard }], guard := some (6, false) }) (a := a) (j := 6) (s := 60) (b := false) (c := false) rfl (by rfl) (by rw [← v6]; exact q6)
    obtain ⟨t10, g10⟩ := dep 10 (by kernel_rfl)
    have q10 := t10 64 (by rfl)
    have e10 := eval_at q10
    have w6 : f 6 = (.bool false) := g6
    have w10 : f 10 = (.slice pa na ca) := g10
    rw [w10] at e10
    refine inv_val (G := Kd.ok z (whole13aK pa bl ol ln lc ni na ca 11)) (R := fun x y => Below x.heap.size x y) (hw.trans (by decide)) (v := (.int .i64 (na : Nat))) (w2 := x) (by simp only [execOp, e10]; go_simp) hK rfl (Below.refl _ _)
  | 12, _ =>
    obtain rfl : { dst := some 66, op := Op.binOp BinOp.eql 3 (Operand.tmp 65) (Operand.const (Value.int IntKind.i64 0)) 3, type := 4, pos := "outright.go:27", after := #[{ on := 11, ground := Ground.data }, { on := 6, ground := Ground.guard }], guard := some (6, false) } = o := Option.some.inj (show whole13aOps[12]? = some _ from ho)
    obtain ⟨t6, g6⟩ := dep 6 (by kernel_rfl)
    have q6 := t6 60 (by rfl)
    have e6 := eval_at q6
    have v6 : f 6 = .bool false := g6
    have hw := wanted_some (ops := whole13aOps) (o := { dst := some 66, op := Op.binOp BinOp.eql 3 (Operand.tmp 65) (Operand.const (Value.int IntKind.i64 0)) 3, type := 4, pos := "outright.go:27", after := #[{ on := 11, ground := Ground.data }, { on := 6, ground := Ground.guard }], guard := some (6, false) }) (a := a) (j := 6) (s := 60) (b := false) (c := false) rfl (by rfl) (by rw [← v6]; exact q6)
    obtain ⟨t11, g11⟩ := dep 11 (by kernel_rfl)
    have q11 := t11 65 (by rfl)
    have e11 := eval_at q11
    have w6 : f 6 = (.bool false) := g6
    have w11 : f 11 = (.int .i64 (na : Nat)) := g11
    rw [w11] at e11
    refine inv_val (G := Kd.ok z (whole13aK pa bl ol ln lc ni na ca 12)) (R := fun x y => Below x.heap.size x y) (hw.trans (by decide)) (v := (.bool false)) (w2 := x) (by simp only [execOp, e11]; go_simp) hK rfl (Below.refl _ _)
  | 13, _ =>
    obtain rfl : { dst := some 67, op := Op.pick (Operand.tmp 60) (Operand.const (Value.bool true)) (Operand.tmp 66), type := 4, pos := "outright.go:27", after := #[{ on := 6, ground := Ground.data }, { on := 12, ground := Ground.data }], guard := none } = o := Option.some.inj (show whole13aOps[13]? = some _ from ho)
    obtain ⟨t6, g6⟩ := dep 6 (by kernel_rfl)
    have q6 := t6 60 (by rfl)
    have e6 := eval_at q6
    obtain ⟨t12, g12⟩ := dep 12 (by kernel_rfl)
    have q12 := t12 66 (by rfl)
    have e12 := eval_at q12
    have w6 : f 6 = (.bool false) := g6
    have w12 : f 12 = (.bool false) := g12
    rw [w6] at e6
    rw [w12] at e12
    refine inv_val (G := Kd.ok z (whole13aK pa bl ol ln lc ni na ca 13)) (R := fun x y => Below x.heap.size x y) (wanted_none rfl) (v := (.bool false)) (w2 := x) (by simp only [execOp, e6, e12]; go_simp) hK rfl (Below.refl _ _)
  | 14, _ =>
    obtain rfl : { dst := some 68, op := Op.move (Operand.tmp 67), type := 4, pos := "outright.go:27", after := #[{ on := 13, ground := Ground.data }, { on := 6, ground := Ground.chain }], guard := none } = o := Option.some.inj (show whole13aOps[14]? = some _ from ho)
    obtain ⟨t13, g13⟩ := dep 13 (by kernel_rfl)
    have q13 := t13 67 (by rfl)
    have e13 := eval_at q13
    have w13 : f 13 = (.bool false) := g13
    rw [w13] at e13
    refine inv_val (G := Kd.ok z (whole13aK pa bl ol ln lc ni na ca 14)) (R := fun x y => Below x.heap.size x y) (wanted_none rfl) (v := (.bool false)) (w2 := x) (by simp only [execOp, e13]; go_simp) hK rfl (Below.refl _ _)
  | 15, _ =>
    obtain rfl : { dst := some 69, op := Op.move (Operand.tmp 9), type := 3, pos := "outright.go:27", after := #[{ on := 14, ground := Ground.guard }], guard := some (14, false) } = o := Option.some.inj (show whole13aOps[15]? = some _ from ho)
    obtain ⟨t14, g14⟩ := dep 14 (by kernel_rfl)
    have q14 := t14 68 (by rfl)
    have e14 := eval_at q14
    have v14 : f 14 = .bool false := g14
    have hw := wanted_some (ops := whole13aOps) (o := { dst := some 69, op := Op.move (Operand.tmp 9), type := 3, pos := "outright.go:27", after := #[{ on := 14, ground := Ground.guard }], guard := some (14, false) }) (a := a) (j := 14) (s := 68) (b := false) (c := false) rfl (by rfl) (by rw [← v14]; exact q14)
    have qb9 := (bas 9 (by kernel_rfl)).trans h9
    have eb9 := eval_at qb9
    have w14 : f 14 = (.bool false) := g14
    refine inv_val (G := Kd.ok z (whole13aK pa bl ol ln lc ni na ca 15)) (R := fun x y => Below x.heap.size x y) (hw.trans (by decide)) (v := (.int .i64 (ni : Nat))) (w2 := x) (by simp only [execOp, eb9]; go_simp) hK rfl (Below.refl _ _)
  | 16, _ =>
    obtain rfl : { dst := some 70, op := Op.binOp BinOp.gtr 3 (Operand.tmp 69) (Operand.const (Value.int IntKind.i64 0)) 3, type := 4, pos := "outright.go:27", after := #[{ on := 15, ground := Ground.data }, { on := 14, ground := Ground.guard }], guard := some (14, false) } = o := Option.some.inj (show whole13aOps[16]? = some _ from ho)
    obtain ⟨t14, g14⟩ := dep 14 (by kernel_rfl)
    have q14 := t14 68 (by rfl)
    have e14 := eval_at q14
    have v14 : f 14 = .bool false := g14
    have hw := wanted_some (ops := whole13aOps) (o := { dst := some 70, op := Op.binOp BinOp.gtr 3 (Operand.tmp 69) (Operand.const (Value.int IntKind.i64 0)) 3, type := 4, pos := "outright.go:27", after := #[{ on := 15, ground := Ground.data }, { on := 14, ground := Ground.guard }], guard := some (14, false) }) (a := a) (j := 14) (s := 68) (b := false) (c := false) rfl (by rfl) (by rw [← v14]; exact q14)
    obtain ⟨t15, g15⟩ := dep 15 (by kernel_rfl)
    have q15 := t15 69 (by rfl)
    have e15 := eval_at q15
    have w14 : f 14 = (.bool false) := g14
    have w15 : f 15 = (.int .i64 (ni : Nat)) := g15
    rw [w15] at e15
    refine inv_val (G := Kd.ok z (whole13aK pa bl ol ln lc ni na ca 16)) (R := fun x y => Below x.heap.size x y) (hw.trans (by decide)) (v := (.bool false)) (w2 := x) (by simp only [execOp, e15]; go_simp; omega) hK rfl (Below.refl _ _)
  | 17, _ =>
    obtain rfl : { dst := some 71, op := Op.move (Operand.tmp 70), type := 4, pos := "outright.go:27", after := #[{ on := 16, ground := Ground.data }, { on := 14, ground := Ground.chain }, { on := 14, ground := Ground.guard }], guard := some (14, false) } = o := Option.some.inj (show whole13aOps[17]? = some _ from ho)
    obtain ⟨t14, g14⟩ := dep 14 (by kernel_rfl)
    have q14 := t14 68 (by rfl)
    have e14 := eval_at q14
    have v14 : f 14 = .bool false := g14
    have hw := wanted_some (ops := whole13aOps) (o := { dst := some 71, op := Op.move (Operand.tmp 70), type := 4, pos := "outright.go:27", after := #[{ on := 16, ground := Ground.data }, { on := 14, ground := Ground.chain }, { on := 14, ground := Ground.guard }], guard := some (14, false) }) (a := a) (j := 14) (s := 68) (b := false) (c := false) rfl (by rfl) (by rw [← v14]; exact q14)
    obtain ⟨t16, g16⟩ := dep 16 (by kernel_rfl)
    have q16 := t16 70 (by rfl)
    have e16 := eval_at q16
    have w14 : f 14 = (.bool false) := g14
    have w16 : f 16 = (.bool false) := g16
    rw [w16] at e16
    refine inv_val (G := Kd.ok z (whole13aK pa bl ol ln lc ni na ca 17)) (R := fun x y => Below x.heap.size x y) (hw.trans (by decide)) (v := (.bool false)) (w2 := x) (by simp only [execOp, e16]; go_simp) hK rfl (Below.refl _ _)
  | 18, _ =>
    obtain rfl : { dst := some 72, op := Op.move (Operand.tmp 8), type := 23, pos := "outright.go:27", after := #[{ on := 17, ground := Ground.guard }], guard := some (17, true) } = o := Option.some.inj (show whole13aOps[18]? = some _ from ho)
    obtain ⟨t17, g17⟩ := dep 17 (by kernel_rfl)
    have q17 := t17 71 (by rfl)
    have e17 := eval_at q17
    have v17 : f 17 = .bool false := g17
    have hw := wanted_some (ops := whole13aOps) (o := { dst := some 72, op := Op.move (Operand.tmp 8), type := 23, pos := "outright.go:27", after := #[{ on := 17, ground := Ground.guard }], guard := some (17, true) }) (a := a) (j := 17) (s := 71) (b := true) (c := false) rfl (by rfl) (by rw [← v17]; exact q17)
    exact inv_left (G := Kd.ok z (whole13aK pa bl ol ln lc ni na ca 18)) (R := fun x y => Below x.heap.size x y) (hw.trans (by decide)) hK rfl (Below.refl _ _)
  | 19, _ =>
    obtain rfl : { dst := some 73, op := Op.move (Operand.tmp 9), type := 3, pos := "outright.go:27", after := #[{ on := 17, ground := Ground.guard }], guard := some (17, true) } = o := Option.some.inj (show whole13aOps[19]? = some _ from ho)
    obtain ⟨t17, g17⟩ := dep 17 (by kernel_rfl)
    have q17 := t17 71 (by rfl)
    have e17 := eval_at q17
    have v17 : f 17 = .bool false := g17
    have hw := wanted_some (ops := whole13aOps) (o := { dst := some 73, op := Op.move (Operand.tmp 9), type := 3, pos := "outright.go:27", after := #[{ on := 17, ground := Ground.guard }], guard := some (17, true) }) (a := a) (j := 17) (s := 71) (b := true) (c := false) rfl (by rfl) (by rw [← v17]; exact q17)
    exact inv_left (G := Kd.ok z (whole13aK pa bl ol ln lc ni na ca 19)) (R := fun x y => Below x.heap.size x y) (hw.trans (by decide)) hK rfl (Below.refl _ _)
  | 20, _ =>
    obtain rfl : { dst := some 74, op := Op.binOp BinOp.sub 3 (Operand.tmp 73) (Operand.const (Value.int IntKind.i64 1)) 3, type := 3, pos := "outright.go:27", after := #[{ on := 19, ground := Ground.data }, { on := 17, ground := Ground.guard }], guard := some (17, true) } = o := Option.some.inj (show whole13aOps[20]? = some _ from ho)
    obtain ⟨t17, g17⟩ := dep 17 (by kernel_rfl)
    have q17 := t17 71 (by rfl)
    have e17 := eval_at q17
    have v17 : f 17 = .bool false := g17
    have hw := wanted_some (ops := whole13aOps) (o := { dst := some 74, op := Op.binOp BinOp.sub 3 (Operand.tmp 73) (Operand.const (Value.int IntKind.i64 1)) 3, type := 3, pos := "outright.go:27", after := #[{ on := 19, ground := Ground.data }, { on := 17, ground := Ground.guard }], guard := some (17, true) }) (a := a) (j := 17) (s := 71) (b := true) (c := false) rfl (by rfl) (by rw [← v17]; exact q17)
    exact inv_left (G := Kd.ok z (whole13aK pa bl ol ln lc ni na ca 20)) (R := fun x y => Below x.heap.size x y) (hw.trans (by decide)) hK rfl (Below.refl _ _)
  | 21, _ =>
    obtain rfl : { dst := some 75, op := Op.indexAddr 23 (Operand.tmp 72) (Operand.tmp 74), type := 0, pos := "outright.go:27", after := #[{ on := 18, ground := Ground.data }, { on := 20, ground := Ground.data }, { on := 17, ground := Ground.guard }], guard := some (17, true) } = o := Option.some.inj (show whole13aOps[21]? = some _ from ho)
    obtain ⟨t17, g17⟩ := dep 17 (by kernel_rfl)
    have q17 := t17 71 (by rfl)
    have e17 := eval_at q17
    have v17 : f 17 = .bool false := g17
    have hw := wanted_some (ops := whole13aOps) (o := { dst := some 75, op := Op.indexAddr 23 (Operand.tmp 72) (Operand.tmp 74), type := 0, pos := "outright.go:27", after := #[{ on := 18, ground := Ground.data }, { on := 20, ground := Ground.data }, { on := 17, ground := Ground.guard }], guard := some (17, true) }) (a := a) (j := 17) (s := 71) (b := true) (c := false) rfl (by rfl) (by rw [← v17]; exact q17)
    exact inv_left (G := Kd.ok z (whole13aK pa bl ol ln lc ni na ca 21)) (R := fun x y => Below x.heap.size x y) (hw.trans (by decide)) hK rfl (Below.refl _ _)
  | 22, _ =>
    obtain rfl : { dst := some 76, op := Op.load 3 (Operand.tmp 75), type := 3, pos := "outright.go:27", after := #[{ on := 21, ground := Ground.data }, { on := 17, ground := Ground.guard }], guard := some (17, true) } = o := Option.some.inj (show whole13aOps[22]? = some _ from ho)
    obtain ⟨t17, g17⟩ := dep 17 (by kernel_rfl)
    have q17 := t17 71 (by rfl)
    have e17 := eval_at q17
    have v17 : f 17 = .bool false := g17
    have hw := wanted_some (ops := whole13aOps) (o := { dst := some 76, op := Op.load 3 (Operand.tmp 75), type := 3, pos := "outright.go:27", after := #[{ on := 21, ground := Ground.data }, { on := 17, ground := Ground.guard }], guard := some (17, true) }) (a := a) (j := 17) (s := 71) (b := true) (c := false) rfl (by rfl) (by rw [← v17]; exact q17)
    exact inv_left (G := Kd.ok z (whole13aK pa bl ol ln lc ni na ca 22)) (R := fun x y => Below x.heap.size x y) (hw.trans (by decide)) hK rfl (Below.refl _ _)
  | 23, _ =>
    obtain rfl : { dst := some 77, op := Op.move (Operand.tmp 8), type := 23, pos := "outright.go:27", after := #[{ on := 17, ground := Ground.guard }], guard := some (17, true) } = o := Option.some.inj (show whole13aOps[23]? = some _ from ho)
    obtain ⟨t17, g17⟩ := dep 17 (by kernel_rfl)
    have q17 := t17 71 (by rfl)
    have e17 := eval_at q17
    have v17 : f 17 = .bool false := g17
    have hw := wanted_some (ops := whole13aOps) (o := { dst := some 77, op := Op.move (Operand.tmp 8), type := 23, pos := "outright.go:27", after := #[{ on := 17, ground := Ground.guard }], guard := some (17, true) }) (a := a) (j := 17) (s := 71) (b := true) (c := false) rfl (by rfl) (by rw [← v17]; exact q17)
    exact inv_left (G := Kd.ok z (whole13aK pa bl ol ln lc ni na ca 23)) (R := fun x y => Below x.heap.size x y) (hw.trans (by decide)) hK rfl (Below.refl _ _)
  | 24, _ =>
    obtain rfl : { dst := some 78, op := Op.move (Operand.tmp 9), type := 3, pos := "outright.go:27", after := #[{ on := 17, ground := Ground.guard }], guard := some (17, true) } = o := Option.some.inj (show whole13aOps[24]? = some _ from ho)
    obtain ⟨t17, g17⟩ := dep 17 (by kernel_rfl)
    have q17 := t17 71 (by rfl)
    have e17 := eval_at q17
    have v17 : f 17 = .bool false := g17
    have hw := wanted_some (ops := whole13aOps) (o := { dst := some 78, op := Op.move (Operand.tmp 9), type := 3, pos := "outright.go:27", after := #[{ on := 17, ground := Ground.guard }], guard := some (17, true) }) (a := a) (j := 17) (s := 71) (b := true) (c := false) rfl (by rfl) (by rw [← v17]; exact q17)
    exact inv_left (G := Kd.ok z (whole13aK pa bl ol ln lc ni na ca 24)) (R := fun x y => Below x.heap.size x y) (hw.trans (by decide)) hK rfl (Below.refl _ _)
  | 25, _ =>
    obtain rfl : { dst := some 79, op := Op.indexAddr 23 (Operand.tmp 77) (Operand.tmp 78), type := 0, pos := "outright.go:27", after := #[{ on := 23, ground := Ground.data }, { on := 24, ground := Ground.data }, { on := 17, ground := Ground.guard }], guard := some (17, true) } = o := Option.some.inj (show whole13aOps[25]? = some _ from ho)
    obtain ⟨t17, g17⟩ := dep 17 (by kernel_rfl)
    have q17 := t17 71 (by rfl)
    have e17 := eval_at q17
    have v17 : f 17 = .bool false := g17
    have hw := wanted_some (ops := whole13aOps) (o := { dst := some 79, op := Op.indexAddr 23 (Operand.tmp 77) (Operand.tmp 78), type := 0, pos := "outright.go:27", after := #[{ on := 23, ground := Ground.data }, { on := 24, ground := Ground.data }, { on := 17, ground := Ground.guard }], guard := some (17, true) }) (a := a) (j := 17) (s := 71) (b := true) (c := false) rfl (by rfl) (by rw [← v17]; exact q17)
    exact inv_left (G := Kd.ok z (whole13aK pa bl ol ln lc ni na ca 25)) (R := fun x y => Below x.heap.size x y) (hw.trans (by decide)) hK rfl (Below.refl _ _)
  | 26, _ =>
    obtain rfl : { dst := some 80, op := Op.load 3 (Operand.tmp 79), type := 3, pos := "outright.go:27", after := #[{ on := 25, ground := Ground.data }, { on := 17, ground := Ground.guard }], guard := some (17, true) } = o := Option.some.inj (show whole13aOps[26]? = some _ from ho)
    obtain ⟨t17, g17⟩ := dep 17 (by kernel_rfl)
    have q17 := t17 71 (by rfl)
    have e17 := eval_at q17
    have v17 : f 17 = .bool false := g17
    have hw := wanted_some (ops := whole13aOps) (o := { dst := some 80, op := Op.load 3 (Operand.tmp 79), type := 3, pos := "outright.go:27", after := #[{ on := 25, ground := Ground.data }, { on := 17, ground := Ground.guard }], guard := some (17, true) }) (a := a) (j := 17) (s := 71) (b := true) (c := false) rfl (by rfl) (by rw [← v17]; exact q17)
    exact inv_left (G := Kd.ok z (whole13aK pa bl ol ln lc ni na ca 26)) (R := fun x y => Below x.heap.size x y) (hw.trans (by decide)) hK rfl (Below.refl _ _)
  | 27, _ =>
    obtain rfl : { dst := some 81, op := Op.binOp BinOp.geq 3 (Operand.tmp 76) (Operand.tmp 80) 3, type := 4, pos := "outright.go:27", after := #[{ on := 22, ground := Ground.data }, { on := 26, ground := Ground.data }, { on := 17, ground := Ground.guard }], guard := some (17, true) } = o := Option.some.inj (show whole13aOps[27]? = some _ from ho)
    obtain ⟨t17, g17⟩ := dep 17 (by kernel_rfl)
    have q17 := t17 71 (by rfl)
    have e17 := eval_at q17
    have v17 : f 17 = .bool false := g17
    have hw := wanted_some (ops := whole13aOps) (o := { dst := some 81, op := Op.binOp BinOp.geq 3 (Operand.tmp 76) (Operand.tmp 80) 3, type := 4, pos := "outright.go:27", after := #[{ on := 22, ground := Ground.data }, { on := 26, ground := Ground.data }, { on := 17, ground := Ground.guard }], guard := some (17, true) }) (a := a) (j := 17) (s := 71) (b := true) (c := false) rfl (by rfl) (by rw [← v17]; exact q17)
    exact inv_left (G := Kd.ok z (whole13aK pa bl ol ln lc ni na ca 27)) (R := fun x y => Below x.heap.size x y) (hw.trans (by decide)) hK rfl (Below.refl _ _)
  | 28, _ =>
    obtain rfl : { dst := some 82, op := Op.pick (Operand.tmp 71) (Operand.tmp 81) (Operand.const (Value.bool false)), type := 4, pos := "outright.go:27", after := #[{ on := 17, ground := Ground.data }, { on := 27, ground := Ground.data }, { on := 14, ground := Ground.guard }], guard := some (14, false) } = o := Option.some.inj (show whole13aOps[28]? = some _ from ho)
    obtain ⟨t14, g14⟩ := dep 14 (by kernel_rfl)
    have q14 := t14 68 (by rfl)
    have e14 := eval_at q14
    have v14 : f 14 = .bool false := g14
    have hw := wanted_some (ops := whole13aOps) (o := { dst := some 82, op := Op.pick (Operand.tmp 71) (Operand.tmp 81) (Operand.const (Value.bool false)), type := 4, pos := "outright.go:27", after := #[{ on := 17, ground := Ground.data }, { on := 27, ground := Ground.data }, { on := 14, ground := Ground.guard }], guard := some (14, false) }) (a := a) (j := 14) (s := 68) (b := false) (c := false) rfl (by rfl) (by rw [← v14]; exact q14)
    obtain ⟨t17, g17⟩ := dep 17 (by kernel_rfl)
    have q17 := t17 71 (by rfl)
    have e17 := eval_at q17
    obtain ⟨t27, g27⟩ := dep 27 (by kernel_rfl)
    have q27 := t27 81 (by rfl)
    have e27 := eval_at q27
    have w14 : f 14 = (.bool false) := g14
    have w17 : f 17 = (.bool false) := g17
    have w27 : f 27 = undef := g27
    rw [w17] at e17
    refine inv_val (G := Kd.ok z (whole13aK pa bl ol ln lc ni na ca 28)) (R := fun x y => Below x.heap.size x y) (hw.trans (by decide)) (v := (.bool false)) (w2 := x) (by simp only [execOp, e17, e27]; go_simp) hK rfl (Below.refl _ _)
  | 29, _ =>
    obtain rfl : { dst := some 83, op := Op.pick (Operand.tmp 68) (Operand.const (Value.bool true)) (Operand.tmp 82), type := 4, pos := "outright.go:27", after := #[{ on := 14, ground := Ground.data }, { on := 28, ground := Ground.data }], guard := none } = o := Option.some.inj (show whole13aOps[29]? = some _ from ho)
    obtain ⟨t14, g14⟩ := dep 14 (by kernel_rfl)
    have q14 := t14 68 (by rfl)
    have e14 := eval_at q14
    obtain ⟨t28, g28⟩ := dep 28 (by kernel_rfl)
    have q28 := t28 82 (by rfl)
    have e28 := eval_at q28
    have w14 : f 14 = (.bool false) := g14
    have w28 : f 28 = (.bool false) := g28
    rw [w14] at e14
    rw [w28] at e28
    refine inv_val (G := Kd.ok z (whole13aK pa bl ol ln lc ni na ca 29)) (R := fun x y => Below x.heap.size x y) (wanted_none rfl) (v := (.bool false)) (w2 := x) (by simp only [execOp, e14, e28]; go_simp) hK rfl (Below.refl _ _)
def whole13bOps : Array Oper := #[{ dst := some 54, op := Op.move (Operand.tmp 5), type := 22, pos := "outright.go:27", after := #[], guard := none },
  { dst := some 55, op := Op.move (Operand.tmp 9), type := 3, pos := "outright.go:27", after := #[], guard := none },
  { dst := some 56, op := Op.indexAddr 22 (Operand.tmp 54) (Operand.tmp 55), type := 0, pos := "outright.go:27", after := #[{ on := 0, ground := Ground.data }, { on := 1, ground := Ground.data }], guard := none },
  { dst := some 57, op := Op.load 31 (Operand.tmp 56), type := 31, pos := "outright.go:27", after := #[{ on := 2, ground := Ground.data }], guard := none },
  { dst := some 58, op := Op.call { callee := Callee.value (Operand.func 10), args := #[Operand.tmp 57], argTypes := #[31] }, type := 4, pos := "outright.go:27", after := #[{ on := 3, ground := Ground.data }], guard := none },
  { dst := some 59, op := Op.unOp UnOp.not 4 (Operand.tmp 58), type := 4, pos := "outright.go:27", after := #[{ on := 4, ground := Ground.data }], guard := none },
  { dst := some 60, op := Op.move (Operand.tmp 59), type := 4, pos := "outright.go:27", after := #[{ on := 5, ground := Ground.data }, { on := 4, ground := Ground.chain }], guard := none },
  { dst := some 61, op := Op.move (Operand.tmp 5), type := 22, pos := "outright.go:27", after := #[{ on := 6, ground := Ground.guard }], guard := some (6, false) },
  { dst := some 62, op := Op.move (Operand.tmp 9), type := 3, pos := "outright.go:27", after := #[{ on := 6, ground := Ground.guard }], guard := some (6, false) },
  { dst := some 63, op := Op.indexAddr 22 (Operand.tmp 61) (Operand.tmp 62), type := 0, pos := "outright.go:27", after := #[{ on := 7, ground := Ground.data }, { on := 8, ground := Ground.data }, { on := 6, ground := Ground.guard }], guard := some (6, false) },
  { dst := some 64, op := Op.load 31 (Operand.tmp 63), type := 31, pos := "outright.go:27", after := #[{ on := 9, ground := Ground.data }, { on := 6, ground := Ground.guard }], guard := some (6, false) },
  { dst := some 65, op := Op.call { callee := Callee.builtin Builtin.len, args := #[Operand.tmp 64], argTypes := #[31] }, type := 3, pos := "outright.go:27", after := #[{ on := 10, ground := Ground.data }, { on := 6, ground := Ground.guard }], guard := some (6, false) },
  { dst := some 66, op := Op.binOp BinOp.eql 3 (Operand.tmp 65) (Operand.const (Value.int IntKind.i64 0)) 3, type := 4, pos := "outright.go:27", after := #[{ on := 11, ground := Ground.data }, { on := 6, ground := Ground.guard }], guard := some (6, false) },
  { dst := some 67, op := Op.pick (Operand.tmp 60) (Operand.const (Value.bool true)) (Operand.tmp 66), type := 4, pos := "outright.go:27", after := #[{ on := 6, ground := Ground.data }, { on := 12, ground := Ground.data }], guard := none },
  { dst := some 68, op := Op.move (Operand.tmp 67), type := 4, pos := "outright.go:27", after := #[{ on := 13, ground := Ground.data }, { on := 6, ground := Ground.chain }], guard := none },
  { dst := some 69, op := Op.move (Operand.tmp 9), type := 3, pos := "outright.go:27", after := #[{ on := 14, ground := Ground.guard }], guard := some (14, false) },
  { dst := some 70, op := Op.binOp BinOp.gtr 3 (Operand.tmp 69) (Operand.const (Value.int IntKind.i64 0)) 3, type := 4, pos := "outright.go:27", after := #[{ on := 15, ground := Ground.data }, { on := 14, ground := Ground.guard }], guard := some (14, false) },
  { dst := some 71, op := Op.move (Operand.tmp 70), type := 4, pos := "outright.go:27", after := #[{ on := 16, ground := Ground.data }, { on := 14, ground := Ground.chain }, { on := 14, ground := Ground.guard }], guard := some (14, false) },
  { dst := some 72, op := Op.move (Operand.tmp 8), type := 23, pos := "outright.go:27", after := #[{ on := 17, ground := Ground.guard }], guard := some (17, true) },
  { dst := some 73, op := Op.move (Operand.tmp 9), type := 3, pos := "outright.go:27", after := #[{ on := 17, ground := Ground.guard }], guard := some (17, true) },
  { dst := some 74, op := Op.binOp BinOp.sub 3 (Operand.tmp 73) (Operand.const (Value.int IntKind.i64 1)) 3, type := 3, pos := "outright.go:27", after := #[{ on := 19, ground := Ground.data }, { on := 17, ground := Ground.guard }], guard := some (17, true) },
  { dst := some 75, op := Op.indexAddr 23 (Operand.tmp 72) (Operand.tmp 74), type := 0, pos := "outright.go:27", after := #[{ on := 18, ground := Ground.data }, { on := 20, ground := Ground.data }, { on := 17, ground := Ground.guard }], guard := some (17, true) },
  { dst := some 76, op := Op.load 3 (Operand.tmp 75), type := 3, pos := "outright.go:27", after := #[{ on := 21, ground := Ground.data }, { on := 17, ground := Ground.guard }], guard := some (17, true) },
  { dst := some 77, op := Op.move (Operand.tmp 8), type := 23, pos := "outright.go:27", after := #[{ on := 17, ground := Ground.guard }], guard := some (17, true) },
  { dst := some 78, op := Op.move (Operand.tmp 9), type := 3, pos := "outright.go:27", after := #[{ on := 17, ground := Ground.guard }], guard := some (17, true) },
  { dst := some 79, op := Op.indexAddr 23 (Operand.tmp 77) (Operand.tmp 78), type := 0, pos := "outright.go:27", after := #[{ on := 23, ground := Ground.data }, { on := 24, ground := Ground.data }, { on := 17, ground := Ground.guard }], guard := some (17, true) },
  { dst := some 80, op := Op.load 3 (Operand.tmp 79), type := 3, pos := "outright.go:27", after := #[{ on := 25, ground := Ground.data }, { on := 17, ground := Ground.guard }], guard := some (17, true) },
  { dst := some 81, op := Op.binOp BinOp.geq 3 (Operand.tmp 76) (Operand.tmp 80) 3, type := 4, pos := "outright.go:27", after := #[{ on := 22, ground := Ground.data }, { on := 26, ground := Ground.data }, { on := 17, ground := Ground.guard }], guard := some (17, true) },
  { dst := some 82, op := Op.pick (Operand.tmp 71) (Operand.tmp 81) (Operand.const (Value.bool false)), type := 4, pos := "outright.go:27", after := #[{ on := 17, ground := Ground.data }, { on := 27, ground := Ground.data }, { on := 14, ground := Ground.guard }], guard := some (14, false) },
  { dst := some 83, op := Op.pick (Operand.tmp 68) (Operand.const (Value.bool true)) (Operand.tmp 82), type := 4, pos := "outright.go:27", after := #[{ on := 14, ground := Ground.data }, { on := 28, ground := Ground.data }], guard := none }]
def whole13bPre : Array Bool := #[true, true, true, true, true, true, true, true, true, true, true, true, true, true, true, true, true, true, true, true, true, true, true, true, true, true, true, true, true, true]
def whole13bK (pa : Option Addr) (bl ol ln lc ni na ca b1 o1 fc : Nat) (v1 v2 : Int) : Nat → Kd
  | 0 => .val (.slice (some ⟨bl, ol, none⟩) ln lc)
  | 1 => .val (.int .i64 (ni : Nat))
  | 2 => .val (.pointer (some ⟨bl, ol + ni, none⟩))
  | 3 => .val (.slice pa na ca)
  | 4 => .val (.bool true)
  | 5 => .val (.bool false)
  | 6 => .val (.bool false)
  | 7 => .val (.slice (some ⟨bl, ol, none⟩) ln lc)
  | 8 => .val (.int .i64 (ni : Nat))
  | 9 => .val (.pointer (some ⟨bl, ol + ni, none⟩))
  | 10 => .val (.slice pa na ca)
  | 11 => .val (.int .i64 (na : Nat))
  | 12 => .val (.bool false)
  | 13 => .val (.bool false)
  | 14 => .val (.bool false)
  | 15 => .val (.int .i64 (ni : Nat))
  | 16 => .val (.bool true)
  | 17 => .val (.bool true)
  | 18 => .val (.slice (some ⟨b1, o1, none⟩) ln fc)
  | 19 => .val (.int .i64 (ni : Nat))
  | 20 => .val (.int .i64 ((ni : Int) - 1))
  | 21 => .val (.pointer (some ⟨b1, o1 + (ni - 1), none⟩))
  | 22 => .val (.int .i64 v2)
  | 23 => .val (.slice (some ⟨b1, o1, none⟩) ln fc)
  | 24 => .val (.int .i64 (ni : Nat))
  | 25 => .val (.pointer (some ⟨b1, o1 + ni, none⟩))
  | 26 => .val (.int .i64 v1)
  | 27 => .val (.bool false)
  | 28 => .val (.bool false)
  | 29 => .val (.bool false)
  | _ => .val undef
theorem whole13b_slots (f : Nat → Value) : slotsOf whole13bOps whole13bPre f = [(54, f 0), (55, f 1), (56, f 2), (57, f 3), (58, f 4), (59, f 5), (60, f 6), (61, f 7), (62, f 8), (63, f 9), (64, f 10), (65, f 11), (66, f 12), (67, f 13), (68, f 14), (69, f 15), (70, f 16), (71, f 17), (72, f 18), (73, f 19), (74, f 20), (75, f 21), (76, f 22), (77, f 23), (78, f 24), (79, f 25), (80, f 26), (81, f 27), (82, f 28), (83, f 29)] := by kernel_rfl
set_option maxHeartbeats 6400000 in
set_option maxRecDepth 100000 in
theorem whole13b_wp {Q : Exit → Act → World → Prop} {a0 : Act} {w : World} {z : Nat} (pa : Option Addr) (bl ol ln lc ni na ca b1 o1 fc : Nat) (v1 v2 : Int) (hz : z ≤ w.drew.heap.size) (hsize : a0.tmps.size = 152) (h5 : a0.tmps[5]? = some (.slice (some ⟨bl, ol, none⟩) ln lc)) (h9 : a0.tmps[9]? = some (.int .i64 (ni : Nat))) (h8 : a0.tmps[8]? = some (.slice (some ⟨b1, o1, none⟩) ln fc)) (hiI : (ni : Int) < ln) (hi0 : 0 < (ni : Int)) (hlnI : (ln : Int) ≤ 60) (hnt : ((ni : Int) - 1).toNat = ni - 1) (hw1 : IntKind.i64.wrap ((ni : Int) - 1) = (ni : Int) - 1)
    (hcell : w.drew.cell? ⟨bl, ol + ni, none⟩ = some (.slice pa na ca)) (hc1 : w.drew.cell? ⟨b1, o1 + ni, none⟩ = some (.int .i64 v1)) (hc2 : w.drew.cell? ⟨b1, o1 + (ni - 1), none⟩ = some (.int .i64 v2)) (hv : v2 < v1) (hna0 : ((na : Int) == 0) = false) (hrt : ∀ W, Below w.drew.heap.size w.drew W → Calls Try.prog 10 #[.slice pa na ca] W fun e w' => e = .returned (.bool true) ∧ Below W.heap.size W w')
    (fin : ∀ (f : Nat → Value) (y : World), (∀ j, j < 30 → whole13bPre.getD j false = true → Kd.ok z (whole13bK pa bl ol ln lc ni na ca b1 o1 fc v1 v2 j) (f j) y) → Below w.drew.heap.size w.drew y → Q .normal (putL a0 [(54, f 0), (55, f 1), (56, f 2), (57, f 3), (58, f 4), (59, f 5), (60, f 6), (61, f 7), (62, f 8), (63, f 9), (64, f 10), (65, f 11), (66, f 12), (67, f 13), (68, f 14), (69, f 15), (70, f 16), (71, f 17), (72, f 18), (73, f 19), (74, f 20), (75, f 21), (76, f 22), (77, f 23), (78, f 24), (79, f 25), (80, f 26), (81, f 27), (82, f 28), (83, f 29)]) y) (id : Nat) :
    (Code.region id whole13bOps true).wp Try.prog Q a0 w := by
  refine wp_region_inv whole13bPre (fun j => Kd.ok z (whole13bK pa bl ol ln lc ni na ca b1 o1 fc v1 v2 j)) (fun x y => Below x.heap.size x y) 30 0 (by kernel_rfl) (by kernel_rfl) (by rw [hsize]; kernel_rfl) (by kernel_rfl) (by kernel_rfl) (Below.refl _ _) (fun _ _ _ h1 h2 => bl_trans h1 h2) (fun _ _ _ _ h1 h2 => Kd.below h1 h2) ?_ (fun f y h1 h2 => by rw [whole13b_slots]; exact any_end (by kernel_rfl) (fin f y h1 h2) 0)
  intro i o ho hp f a x hR hbase hdeps K hK
  have hi : i < 30 := by
    rcases Nat.lt_or_ge i 30 with h | h
    · exact h
    · have : whole13bOps.size ≤ i := h
      rw [Array.getElem?_eq_none this] at ho; cases ho
  have hzx : z ≤ x.heap.size := Nat.le_trans hz hR.size
  have dep : ∀ j, (o.after.any fun e => Region.binds .any e && e.on == j) = true → (∀ s, slotOf whole13bOps j = some s → a.tmps[s]? = some (f j)) ∧ Kd.ok z (whole13bK pa bl ol ln lc ni na ca b1 o1 fc v1 v2 j) (f j) x := by
    intro j h
    obtain ⟨e, he, h2⟩ := Array.any_eq_true'.1 h
    simp only [Bool.and_eq_true, beq_iff_eq] at h2
    obtain ⟨h3, rfl⟩ := h2
    exact hdeps e he h3
  have bas : ∀ s, ((List.range whole13bOps.size).all fun j => slotOf whole13bOps j != some s) = true → a.tmps[s]? = a0.tmps[s]? := by
    intro s h
    refine hbase s fun j hj _ e => ?_
    have h2 := (List.all_eq_true.1 h) j (List.mem_range.2 hj)
    rw [e] at h2; simp at h2
  match i, hi with
  | 0, _ =>
    obtain rfl : { dst := some 54, op := Op.move (Operand.tmp 5), type := 22, pos := "outright.go:27", after := #[], guard := none } = o := Option.some.inj (show whole13bOps[0]? = some _ from ho)
    have qb5 := (bas 5 (by kernel_rfl)).trans h5
    have eb5 := eval_at qb5
    refine inv_val (G := Kd.ok z (whole13bK pa bl ol ln lc ni na ca b1 o1 fc v1 v2 0)) (R := fun x y => Below x.heap.size x y) (wanted_none rfl) (v := (.slice (some ⟨bl, ol, none⟩) ln lc)) (w2 := x) (by simp only [execOp, eb5]; go_simp) hK rfl (Below.refl _ _)
  | 1, _ =>
    obtain rfl : { dst := some 55, op := Op.move (Operand.tmp 9), type := 3, pos := "outright.go:27", after := #[], guard := none } = o := Option.some.inj (show whole13bOps[1]? = some _ from ho)
    have qb9 := (bas 9 (by kernel_rfl)).trans h9
    have eb9 := eval_at qb9
    refine inv_val (G := Kd.ok z (whole13bK pa bl ol ln lc ni na ca b1 o1 fc v1 v2 1)) (R := fun x y => Below x.heap.size x y) (wanted_none rfl) (v := (.int .i64 (ni : Nat))) (w2 := x) (by simp only [execOp, eb9]; go_simp) hK rfl (Below.refl _ _)
  | 2, _ =>
    obtain rfl : { dst := some 56, op := Op.indexAddr 22 (Operand.tmp 54) (Operand.tmp 55), type := 0, pos := "outright.go:27", after := #[{ on := 0, ground := Ground.data }, { on := 1, ground := Ground.data }], guard := none } = o := Option.some.inj (show whole13bOps[2]? = some _ from ho)
    obtain ⟨t0, g0⟩ := dep 0 (by kernel_rfl)
    have q0 := t0 54 (by rfl)
    have e0 := eval_at q0
    obtain ⟨t1, g1⟩ := dep 1 (by kernel_rfl)
    have q1 := t1 55 (by rfl)
    have e1 := eval_at q1
    have w0 : f 0 = (.slice (some ⟨bl, ol, none⟩) ln lc) := g0
    have w1 : f 1 = (.int .i64 (ni : Nat)) := g1
    rw [w0] at e0
    rw [w1] at e1
    refine inv_val (G := Kd.ok z (whole13bK pa bl ol ln lc ni na ca b1 o1 fc v1 v2 2)) (R := fun x y => Below x.heap.size x y) (wanted_none rfl) (v := (.pointer (some ⟨bl, ol + ni, none⟩))) (w2 := x) (by simp only [execOp, e0, e1]; go_simp) hK rfl (Below.refl _ _)
  | 3, _ =>
    obtain rfl : { dst := some 57, op := Op.load 31 (Operand.tmp 56), type := 31, pos := "outright.go:27", after := #[{ on := 2, ground := Ground.data }], guard := none } = o := Option.some.inj (show whole13bOps[3]? = some _ from ho)
    obtain ⟨t2, g2⟩ := dep 2 (by kernel_rfl)
    have q2 := t2 56 (by rfl)
    have e2 := eval_at q2
    have w2 : f 2 = (.pointer (some ⟨bl, ol + ni, none⟩)) := g2
    rw [w2] at e2
    have hc := keep_cell hR hcell
    refine inv_val (G := Kd.ok z (whole13bK pa bl ol ln lc ni na ca b1 o1 fc v1 v2 3)) (R := fun x y => Below x.heap.size x y) (wanted_none rfl) (v := (.slice pa na ca)) (w2 := x) (by simp only [execOp, e2]; go_simp) hK rfl (Below.refl _ _)
  | 4, _ =>
    obtain rfl : { dst := some 58, op := Op.call { callee := Callee.value (Operand.func 10), args := #[Operand.tmp 57], argTypes := #[31] }, type := 4, pos := "outright.go:27", after := #[{ on := 3, ground := Ground.data }], guard := none } = o := Option.some.inj (show whole13bOps[4]? = some _ from ho)
    obtain ⟨t3, g3⟩ := dep 3 (by kernel_rfl)
    have q3 := t3 57 (by rfl)
    have e3 := eval_at q3
    refine inv_call (G := Kd.ok z (whole13bK pa bl ol ln lc ni na ca b1 o1 fc v1 v2 4)) (R := fun x y => Below x.heap.size x y) (wanted_none rfl) (F := 10) (args := #[f 3]) (by simp [go_sem, q3]) hK ?_
    exact k_right g3 (hrt _ hR)
  | 5, _ =>
    obtain rfl : { dst := some 59, op := Op.unOp UnOp.not 4 (Operand.tmp 58), type := 4, pos := "outright.go:27", after := #[{ on := 4, ground := Ground.data }], guard := none } = o := Option.some.inj (show whole13bOps[5]? = some _ from ho)
    obtain ⟨t4, g4⟩ := dep 4 (by kernel_rfl)
    have q4 := t4 58 (by rfl)
    have e4 := eval_at q4
    have w4 : f 4 = (.bool true) := g4
    rw [w4] at e4
    refine inv_val (G := Kd.ok z (whole13bK pa bl ol ln lc ni na ca b1 o1 fc v1 v2 5)) (R := fun x y => Below x.heap.size x y) (wanted_none rfl) (v := (.bool false)) (w2 := x) (by simp only [execOp, e4]; go_simp) hK rfl (Below.refl _ _)
  | 6, _ =>
    obtain rfl : { dst := some 60, op := Op.move (Operand.tmp 59), type := 4, pos := "outright.go:27", after := #[{ on := 5, ground := Ground.data }, { on := 4, ground := Ground.chain }], guard := none } = o := Option.some.inj (show whole13bOps[6]? = some _ from ho)
    obtain ⟨t5, g5⟩ := dep 5 (by kernel_rfl)
    have q5 := t5 59 (by rfl)
    have e5 := eval_at q5
    have w5 : f 5 = (.bool false) := g5
    rw [w5] at e5
    refine inv_val (G := Kd.ok z (whole13bK pa bl ol ln lc ni na ca b1 o1 fc v1 v2 6)) (R := fun x y => Below x.heap.size x y) (wanted_none rfl) (v := (.bool false)) (w2 := x) (by simp only [execOp, e5]; go_simp) hK rfl (Below.refl _ _)
  | 7, _ =>
    obtain rfl : { dst := some 61, op := Op.move (Operand.tmp 5), type := 22, pos := "outright.go:27", after := #[{ on := 6, ground := Ground.guard }], guard := some (6, false) } = o := Option.some.inj (show whole13bOps[7]? = some _ from ho)
    obtain ⟨t6, g6⟩ := dep 6 (by kernel_rfl)
    have q6 := t6 60 (by rfl)
    have e6 := eval_at q6
    have v6 : f 6 = .bool false := g6
    have hw := wanted_some (ops := whole13bOps) (o := { dst := some 61, op := Op.move (Operand.tmp 5), type := 22, pos := "outright.go:27", after := #[{ on := 6, ground := Ground.guard }], guard := some (6, false) }) (a := a) (j := 6) (s := 60) (b := false) (c := false) rfl (by rfl) (by rw [← v6]; exact q6)
    have qb5 := (bas 5 (by kernel_rfl)).trans h5
    have eb5 := eval_at qb5
    have w6 : f 6 = (.bool false) := g6
    refine inv_val (G := Kd.ok z (whole13bK pa bl ol ln lc ni na ca b1 o1 fc v1 v2 7)) (R := fun x y => Below x.heap.size x y) (hw.trans (by decide)) (v := (.slice (some ⟨bl, ol, none⟩) ln lc)) (w2 := x) (by simp only [execOp, eb5]; go_simp) hK rfl (Below.refl _ _)
  | 8, _ =>
    obtain rfl : { dst := some 62, op := Op.move (Operand.tmp 9), type := 3, pos := "outright.go:27", after := #[{ on := 6, ground := Ground.guard }], guard := some (6, false) } = o := Option.some.inj (show whole13bOps[8]? = some _ from ho)
    obtain ⟨t6, g6⟩ := dep 6 (by kernel_rfl)
    have q6 := t6 60 (by rfl)
    have e6 := eval_at q6
    have v6 : f 6 = .bool false := g6
    have hw := wanted_some (ops := whole13bOps) (o := { dst := some 62, op := Op.move (Operand.tmp 9), type := 3, pos := "outright.go:27", after := #[{ on := 6, ground := Ground.guard }], guard := some (6, false) }) (a := a) (j := 6) (s := 60) (b := false) (c := false) rfl (by rfl) (by rw [← v6]; exact q6)
    have qb9 := (bas 9 (by kernel_rfl)).trans h9
    have eb9 := eval_at qb9
    have w6 : f 6 = (.bool false) := g6
    refine inv_val (G := Kd.ok z (whole13bK pa bl ol ln lc ni na ca b1 o1 fc v1 v2 8)) (R := fun x y => Below x.heap.size x y) (hw.trans (by decide)) (v := (.int .i64 (ni : Nat))) (w2 := x) (by simp only [execOp, eb9]; go_simp) hK rfl (Below.refl _ _)
  | 9, _ =>
    obtain rfl : { dst := some 63, op := Op.indexAddr 22 (Operand.tmp 61) (Operand.tmp 62), type := 0, pos := "outright.go:27", after := #[{ on := 7, ground := Ground.data }, { on := 8, ground := Ground.data }, { on := 6, ground := Ground.guard }], guard := some (6, false) } = o := Option.some.inj (show whole13bOps[9]? = some _ from ho)
    obtain ⟨t6, g6⟩ := dep 6 (by kernel_rfl)
    have q6 := t6 60 (by rfl)
    have e6 := eval_at q6
    have v6 : f 6 = .bool false := g6
    have hw := wanted_some (ops := whole13bOps) (o := { dst := some 63, op := Op.indexAddr 22 (Operand.tmp 61) (Operand.tmp 62), type := 0, pos := "outright.go:27", after := #[{ on := 7, ground := Ground.data }, { on := 8, ground := Ground.data }, { on := 6, ground := Ground.guard }], guard := some (6, false) }) (a := a) (j := 6) (s := 60) (b := false) (c := false) rfl (by rfl) (by rw [← v6]; exact q6)
    obtain ⟨t7, g7⟩ := dep 7 (by kernel_rfl)
    have q7 := t7 61 (by rfl)
    have e7 := eval_at q7
    obtain ⟨t8, g8⟩ := dep 8 (by kernel_rfl)
    have q8 := t8 62 (by rfl)
    have e8 := eval_at q8
    have w6 : f 6 = (.bool false) := g6
    have w7 : f 7 = (.slice (some ⟨bl, ol, none⟩) ln lc) := g7
    have w8 : f 8 = (.int .i64 (ni : Nat)) := g8
    rw [w7] at e7
    rw [w8] at e8
    refine inv_val (G := Kd.ok z (whole13bK pa bl ol ln lc ni na ca b1 o1 fc v1 v2 9)) (R := fun x y => Below x.heap.size x y) (hw.trans (by decide)) (v := (.pointer (some ⟨bl, ol + ni, none⟩))) (w2 := x) (by simp only [execOp, e7, e8]; go_simp) hK rfl (Below.refl _ _)
  | 10, _ =>
    obtain rfl : { dst := some 64, op := Op.load 31 (Operand.tmp 63), type := 31, pos := "outright.go:27", after := #[{ on := 9, ground := Ground.data }, { on := 6, ground := Ground.guard }], guard := some (6, false) } = o := Option.some.inj (show whole13bOps[10]? = some _ from ho)
    obtain ⟨t6, g6⟩ := dep 6 (by kernel_rfl)
    have q6 := t6 60 (by rfl)
    have e6 := eval_at q6
    have v6 : f 6 = .bool false := g6
    have hw := wanted_some (ops := whole13bOps) (o := { dst := some 64, op := Op.load 31 (Operand.tmp 63), type := 31, pos := "outright.go:27", after := #[{ on := 9, ground := Ground.data }, { on := 6, ground := Ground.guard }], guard := some (6, false) }) (a := a) (j := 6) (s := 60) (b := false) (c := false) rfl (by rfl) (by rw [← v6]; exact q6)
    obtain ⟨t9, g9⟩ := dep 9 (by kernel_rfl)
    have q9 := t9 63 (by rfl)
    have e9 := eval_at q9
    have w9 : f 9 = (.pointer (some ⟨bl, ol + ni, none⟩)) := g9
    rw [w9] at e9
    have hc := keep_cell hR hcell
    refine inv_val (G := Kd.ok z (whole13bK pa bl ol ln lc ni na ca b1 o1 fc v1 v2 10)) (R := fun x y => Below x.heap.size x y) (hw.trans (by decide)) (v := (.slice pa na ca)) (w2 := x) (by simp only [execOp, e9]; go_simp) hK rfl (Below.refl _ _)
  | 11, _ =>
    obtain rfl : { dst := some 65, op := Op.call { callee := Callee.builtin Builtin.len, args := #[Operand.tmp 64], argTypes := #[31] }, type := 3, pos := "outright.go:27", after := #[{ on := 10, ground := Ground.data }, { on := 6, ground := Ground.guard }], guard := some (6, false) } = o := Option.some.inj (show whole13bOps[11]? = some _ from ho)
    obtain ⟨t6, g6⟩ := dep 6 (by kernel_rfl)
    have q6 := t6 60 (by rfl)
    have e6 := eval_at q6
    have v6 : f 6 = .bool false := g6
    have hw := wanted_some (ops := whole13bOps) (o := { dst := some 65, op := Op.call { callee := Callee.builtin Builtin.len, args := #[Operand.tmp 64], argTypes := #[31] }, type := 3, pos := "outright.go:27", after := #[{ on := 10, ground := Ground.data }, { on := 6, ground := Ground.guard }], guard := some (6, false) }) (a := a) (j := 6) (s := 60) (b := false) (c := false) rfl (by rfl) (by rw [← v6]; exact q6)
    obtain ⟨t10, g10⟩ := dep 10 (by kernel_rfl)
    have q10 := t10 64 (by rfl)
    have e10 := eval_at q10
    have w6 : f 6 = (.bool false) := g6
    have w10 : f 10 = (.slice pa na ca) := g10
    rw [w10] at e10
    refine inv_val (G := Kd.ok z (whole13bK pa bl ol ln lc ni na ca b1 o1 fc v1 v2 11)) (R := fun x y => Below x.heap.size x y) (hw.trans (by decide)) (v := (.int .i64 (na : Nat))) (w2 := x) (by simp only [execOp, e10]; go_simp) hK rfl (Below.refl _ _)
  | 12, _ =>
    obtain rfl : { dst := some 66, op := Op.binOp BinOp.eql 3 (Operand.tmp 65) (Operand.const (Value.int IntKind.i64 0)) 3, type := 4, pos := "outright.go:27", after := #[{ on := 11, ground := Ground.data }, { on := 6, ground := Ground.guard }], guard := some (6, false) } = o := Option.some.inj (show whole13bOps[12]? = some _ from ho)
    obtain ⟨t6, g6⟩ := dep 6 (by kernel_rfl)
    have q6 := t6 60 (by rfl)
    have e6 := eval_at q6
    have v6 : f 6 = .bool false := g6
    have hw := wanted_some (ops := whole13bOps) (o := { dst := some 66, op := Op.binOp BinOp.eql 3 (Operand.tmp 65) (Operand.const (Value.int IntKind.i64 0)) 3, type := 4, pos := "outright.go:27", after := #[{ on := 11, ground := Ground.data }, { on := 6, ground := Ground.guard }], guard := some (6, false) }) (a := a) (j := 6) (s := 60) (b := false) (c := false) rfl (by rfl) (by rw [← v6]; exact q6)
    obtain ⟨t11, g11⟩ := dep 11 (by kernel_rfl)
    have q11 := t11 65 (by rfl)
    have e11 := eval_at q11
    have w6 : f 6 = (.bool false) := g6
    have w11 : f 11 = (.int .i64 (na : Nat)) := g11
    rw [w11] at e11
    refine inv_val (G := Kd.ok z (whole13bK pa bl ol ln lc ni na ca b1 o1 fc v1 v2 12)) (R := fun x y => Below x.heap.size x y) (hw.trans (by decide)) (v := (.bool false)) (w2 := x) (by simp only [execOp, e11]; go_simp) hK rfl (Below.refl _ _)
  | 13, _ =>
    obtain rfl : { dst := some 67, op := Op.pick (Operand.tmp 60) (Operand.const (Value.bool true)) (Operand.tmp 66), type := 4, pos := "outright.go:27", after := #[{ on := 6, ground := Ground.data }, { on := 12, ground := Ground.data }], guard := none } = o := Option.some.inj (show whole13bOps[13]? = some _ from ho)
    obtain ⟨t6, g6⟩ := dep 6 (by kernel_rfl)
    have q6 := t6 60 (by rfl)
    have e6 := eval_at q6
    obtain ⟨t12, g12⟩ := dep 12 (by kernel_rfl)
    have q12 := t12 66 (by rfl)
    have e12 := eval_at q12
    have w6 : f 6 = (.bool false) := g6
    have w12 : f 12 = (.bool false) := g12
    rw [w6] at e6
    rw [w12] at e12
    refine inv_val (G := Kd.ok z (whole13bK pa bl ol ln lc ni na ca b1 o1 fc v1 v2 13)) (R := fun x y => Below x.heap.size x y) (wanted_none rfl) (v := (.bool false)) (w2 := x) (by simp only [execOp, e6, e12]; go_simp) hK rfl (Below.refl _ _)
  | 14, _ =>
    obtain rfl : { dst := some 68, op := Op.move (Operand.tmp 67), type := 4, pos := "outright.go:27", after := #[{ on := 13, ground := Ground.data }, { on := 6, ground := Ground.chain }], guard := none } = o := Option.some.inj (show whole13bOps[14]? = some _ from ho)
    obtain ⟨t13, g13⟩ := dep 13 (by kernel_rfl)
    have q13 := t13 67 (by rfl)
    have e13 := eval_at q13
    have w13 : f 13 = (.bool false) := g13
    rw [w13] at e13
    refine inv_val (G := Kd.ok z (whole13bK pa bl ol ln lc ni na ca b1 o1 fc v1 v2 14)) (R := fun x y => Below x.heap.size x y) (wanted_none rfl) (v := (.bool false)) (w2 := x) (by simp only [execOp, e13]; go_simp) hK rfl (Below.refl _ _)
  | 15, _ =>
    obtain rfl : { dst := some 69, op := Op.move (Operand.tmp 9), type := 3, pos := "outright.go:27", after := #[{ on := 14, ground := Ground.guard }], guard := some (14, false) } = o := Option.some.inj (show whole13bOps[15]? = some _ from ho)
    obtain ⟨t14, g14⟩ := dep 14 (by kernel_rfl)
    have q14 := t14 68 (by rfl)
    have e14 := eval_at q14
    have v14 : f 14 = .bool false := g14
    have hw := wanted_some (ops := whole13bOps) (o := { dst := some 69, op := Op.move (Operand.tmp 9), type := 3, pos := "outright.go:27", after := #[{ on := 14, ground := Ground.guard }], guard := some (14, false) }) (a := a) (j := 14) (s := 68) (b := false) (c := false) rfl (by rfl) (by rw [← v14]; exact q14)
    have qb9 := (bas 9 (by kernel_rfl)).trans h9
    have eb9 := eval_at qb9
    have w14 : f 14 = (.bool false) := g14
    refine inv_val (G := Kd.ok z (whole13bK pa bl ol ln lc ni na ca b1 o1 fc v1 v2 15)) (R := fun x y => Below x.heap.size x y) (hw.trans (by decide)) (v := (.int .i64 (ni : Nat))) (w2 := x) (by simp only [execOp, eb9]; go_simp) hK rfl (Below.refl _ _)
  | 16, _ =>
    obtain rfl : { dst := some 70, op := Op.binOp BinOp.gtr 3 (Operand.tmp 69) (Operand.const (Value.int IntKind.i64 0)) 3, type := 4, pos := "outright.go:27", after := #[{ on := 15, ground := Ground.data }, { on := 14, ground := Ground.guard }], guard := some (14, false) } = o := Option.some.inj (show whole13bOps[16]? = some _ from ho)
    obtain ⟨t14, g14⟩ := dep 14 (by kernel_rfl)
    have q14 := t14 68 (by rfl)
    have e14 := eval_at q14
    have v14 : f 14 = .bool false := g14
    have hw := wanted_some (ops := whole13bOps) (o := { dst := some 70, op := Op.binOp BinOp.gtr 3 (Operand.tmp 69) (Operand.const (Value.int IntKind.i64 0)) 3, type := 4, pos := "outright.go:27", after := #[{ on := 15, ground := Ground.data }, { on := 14, ground := Ground.guard }], guard := some (14, false) }) (a := a) (j := 14) (s := 68) (b := false) (c := false) rfl (by rfl) (by rw [← v14]; exact q14)
    obtain ⟨t15, g15⟩ := dep 15 (by kernel_rfl)
    have q15 := t15 69 (by rfl)
    have e15 := eval_at q15
    have w14 : f 14 = (.bool false) := g14
    have w15 : f 15 = (.int .i64 (ni : Nat)) := g15
    rw [w15] at e15
    refine inv_val (G := Kd.ok z (whole13bK pa bl ol ln lc ni na ca b1 o1 fc v1 v2 16)) (R := fun x y => Below x.heap.size x y) (hw.trans (by decide)) (v := (.bool true)) (w2 := x) (by simp only [execOp, e15]; go_simp; omega) hK rfl (Below.refl _ _)
  | 17, _ =>
    obtain rfl : { dst := some 71, op := Op.move (Operand.tmp 70), type := 4, pos := "outright.go:27", after := #[{ on := 16, ground := Ground.data }, { on := 14, ground := Ground.chain }, { on := 14, ground := Ground.guard }], guard := some (14, false) } = o := Option.some.inj (show whole13bOps[17]? = some _ from ho)
    obtain ⟨t14, g14⟩ := dep 14 (by kernel_rfl)
    have q14 := t14 68 (by rfl)
    have e14 := eval_at q14
    have v14 : f 14 = .bool false := g14
    have hw := wanted_some (ops := whole13bOps) (o := { dst := some 71, op := Op.move (Operand.tmp 70), type := 4, pos := "outright.go:27", after := #[{ on := 16, ground := Ground.data }, { on := 14, ground := Ground.chain }, { on := 14, ground := Ground.guard }], guard := some (14, false) }) (a := a) (j := 14) (s := 68) (b := false) (c := false) rfl (by rfl) (by rw [← v14]; exact q14)
    obtain ⟨t16, g16⟩ := dep 16 (by kernel_rfl)
    have q16 := t16 70 (by rfl)
    have e16 := eval_at q16
    have w14 : f 14 = (.bool false) := g14
    have w16 : f 16 = (.bool true) := g16
    rw [w16] at e16
    refine inv_val (G := Kd.ok z (whole13bK pa bl ol ln lc ni na ca b1 o1 fc v1 v2 17)) (R := fun x y => Below x.heap.size x y) (hw.trans (by decide)) (v := (.bool true)) (w2 := x) (by simp only [execOp, e16]; go_simp) hK rfl (Below.refl _ _)
  | 18, _ =>
    obtain rfl : { dst := some 72, op := Op.move (Operand.tmp 8), type := 23, pos := "outright.go:27", after := #[{ on := 17, ground := Ground.guard }], guard := some (17, true) } = o := Option.some.inj (show whole13bOps[18]? = some _ from ho)
    obtain ⟨t17, g17⟩ := dep 17 (by kernel_rfl)
    have q17 := t17 71 (by rfl)
    have e17 := eval_at q17
    have v17 : f 17 = .bool true := g17
    have hw := wanted_some (ops := whole13bOps) (o := { dst := some 72, op := Op.move (Operand.tmp 8), type := 23, pos := "outright.go:27", after := #[{ on := 17, ground := Ground.guard }], guard := some (17, true) }) (a := a) (j := 17) (s := 71) (b := true) (c := true) rfl (by rfl) (by rw [← v17]; exact q17)
    have qb8 := (bas 8 (by kernel_rfl)).trans h8
    have eb8 := eval_at qb8
    have w17 : f 17 = (.bool true) := g17
    refine inv_val (G := Kd.ok z (whole13bK pa bl ol ln lc ni na ca b1 o1 fc v1 v2 18)) (R := fun x y => Below x.heap.size x y) (hw.trans (by decide)) (v := (.slice (some ⟨b1, o1, none⟩) ln fc)) (w2 := x) (by simp only [execOp, eb8]; go_simp) hK rfl (Below.refl _ _)
  | 19, _ =>
    obtain rfl : { dst := some 73, op := Op.move (Operand.tmp 9), type := 3, pos := "outright.go:27", after := #[{ on := 17, ground := Ground.guard }], guard := some (17, true) } = o := Option.some.inj (show whole13bOps[19]? = some _ from ho)
    obtain ⟨t17, g17⟩ := dep 17 (by kernel_rfl)
    have q17 := t17 71 (by rfl)
    have e17 := eval_at q17
    have v17 : f 17 = .bool true := g17
    have hw := wanted_some (ops := whole13bOps) (o := { dst := some 73, op := Op.move (Operand.tmp 9), type := 3, pos := "outright.go:27", after := #[{ on := 17, ground := Ground.guard }], guard := some (17, true) }) (a := a) (j := 17) (s := 71) (b := true) (c := true) rfl (by rfl) (by rw [← v17]; exact q17)
    have qb9 := (bas 9 (by kernel_rfl)).trans h9
    have eb9 := eval_at qb9
    have w17 : f 17 = (.bool true) := g17
    refine inv_val (G := Kd.ok z (whole13bK pa bl ol ln lc ni na ca b1 o1 fc v1 v2 19)) (R := fun x y => Below x.heap.size x y) (hw.trans (by decide)) (v := (.int .i64 (ni : Nat))) (w2 := x) (by simp only [execOp, eb9]; go_simp) hK rfl (Below.refl _ _)
  | 20, _ =>
    obtain rfl : { dst := some 74, op := Op.binOp BinOp.sub 3 (Operand.tmp 73) (Operand.const (Value.int IntKind.i64 1)) 3, type := 3, pos := "outright.go:27", after := #[{ on := 19, ground := Ground.data }, { on := 17, ground := Ground.guard }], guard := some (17, true) } = o := Option.some.inj (show whole13bOps[20]? = some _ from ho)
    obtain ⟨t17, g17⟩ := dep 17 (by kernel_rfl)
    have q17 := t17 71 (by rfl)
    have e17 := eval_at q17
    have v17 : f 17 = .bool true := g17
    have hw := wanted_some (ops := whole13bOps) (o := { dst := some 74, op := Op.binOp BinOp.sub 3 (Operand.tmp 73) (Operand.const (Value.int IntKind.i64 1)) 3, type := 3, pos := "outright.go:27", after := #[{ on := 19, ground := Ground.data }, { on := 17, ground := Ground.guard }], guard := some (17, true) }) (a := a) (j := 17) (s := 71) (b := true) (c := true) rfl (by rfl) (by rw [← v17]; exact q17)
    obtain ⟨t19, g19⟩ := dep 19 (by kernel_rfl)
    have q19 := t19 73 (by rfl)
    have e19 := eval_at q19
    have w17 : f 17 = (.bool true) := g17
    have w19 : f 19 = (.int .i64 (ni : Nat)) := g19
    rw [w19] at e19
    refine inv_val (G := Kd.ok z (whole13bK pa bl ol ln lc ni na ca b1 o1 fc v1 v2 20)) (R := fun x y => Below x.heap.size x y) (hw.trans (by decide)) (v := (.int .i64 ((ni : Int) - 1))) (w2 := x) (by simp only [execOp, e19]; go_simp) hK rfl (Below.refl _ _)
  | 21, _ =>
    obtain rfl : { dst := some 75, op := Op.indexAddr 23 (Operand.tmp 72) (Operand.tmp 74), type := 0, pos := "outright.go:27", after := #[{ on := 18, ground := Ground.data }, { on := 20, ground := Ground.data }, { on := 17, ground := Ground.guard }], guard := some (17, true) } = o := Option.some.inj (show whole13bOps[21]? = some _ from ho)
    obtain ⟨t17, g17⟩ := dep 17 (by kernel_rfl)
    have q17 := t17 71 (by rfl)
    have e17 := eval_at q17
    have v17 : f 17 = .bool true := g17
    have hw := wanted_some (ops := whole13bOps) (o := { dst := some 75, op := Op.indexAddr 23 (Operand.tmp 72) (Operand.tmp 74), type := 0, pos := "outright.go:27", after := #[{ on := 18, ground := Ground.data }, { on := 20, ground := Ground.data }, { on := 17, ground := Ground.guard }], guard := some (17, true) }) (a := a) (j := 17) (s := 71) (b := true) (c := true) rfl (by rfl) (by rw [← v17]; exact q17)
    obtain ⟨t18, g18⟩ := dep 18 (by kernel_rfl)
    have q18 := t18 72 (by rfl)
    have e18 := eval_at q18
    obtain ⟨t20, g20⟩ := dep 20 (by kernel_rfl)
    have q20 := t20 74 (by rfl)
    have e20 := eval_at q20
    have w17 : f 17 = (.bool true) := g17
    have w18 : f 18 = (.slice (some ⟨b1, o1, none⟩) ln fc) := g18
    have w20 : f 20 = (.int .i64 ((ni : Int) - 1)) := g20
    rw [w18] at e18
    rw [w20] at e20
    refine inv_val (G := Kd.ok z (whole13bK pa bl ol ln lc ni na ca b1 o1 fc v1 v2 21)) (R := fun x y => Below x.heap.size x y) (hw.trans (by decide)) (v := (.pointer (some ⟨b1, o1 + (ni - 1), none⟩))) (w2 := x) (by simp only [execOp, e18, e20]; go_simp; intro h; exact absurd (h (by omega)) (by omega)) hK rfl (Below.refl _ _)
  | 22, _ =>
    obtain rfl : { dst := some 76, op := Op.load 3 (Operand.tmp 75), type := 3, pos := "outright.go:27", after := #[{ on := 21, ground := Ground.data }, { on := 17, ground := Ground.guard }], guard := some (17, true) } = o := Option.some.inj (show whole13bOps[22]? = some _ from ho)
    obtain ⟨t17, g17⟩ := dep 17 (by kernel_rfl)
    have q17 := t17 71 (by rfl)
    have e17 := eval_at q17
    have v17 : f 17 = .bool true := g17
    have hw := wanted_some (ops := whole13bOps) (o := { dst := some 76, op := Op.load 3 (Operand.tmp 75), type := 3, pos := "outright.go:27", after := #[{ on := 21, ground := Ground.data }, { on := 17, ground := Ground.guard }], guard := some (17, true) }) (a := a) (j := 17) (s := 71) (b := true) (c := true) rfl (by rfl) (by rw [← v17]; exact q17)
    obtain ⟨t21, g21⟩ := dep 21 (by kernel_rfl)
    have q21 := t21 75 (by rfl)
    have e21 := eval_at q21
    have w21 : f 21 = (.pointer (some ⟨b1, o1 + (ni - 1), none⟩)) := g21
    rw [w21] at e21
    have hc := keep_cell hR hc2
    refine inv_val (G := Kd.ok z (whole13bK pa bl ol ln lc ni na ca b1 o1 fc v1 v2 22)) (R := fun x y => Below x.heap.size x y) (hw.trans (by decide)) (v := (.int .i64 v2)) (w2 := x) (by simp only [execOp, e21]; go_simp) hK rfl (Below.refl _ _)
  | 23, _ =>
    obtain rfl : { dst := some 77, op := Op.move (Operand.tmp 8), type := 23, pos := "outright.go:27", after := #[{ on := 17, ground := Ground.guard }], guard := some (17, true) } = o := Option.some.inj (show whole13bOps[23]? = some _ from ho)
    obtain ⟨t17, g17⟩ := dep 17 (by kernel_rfl)
    have q17 := t17 71 (by rfl)
    have e17 := eval_at q17
    have v17 : f 17 = .bool true := g17
    have hw := wanted_some (ops := whole13bOps) (o := { dst := some 77, op := Op.move (Operand.tmp 8), type := 23, pos := "outright.go:27", after := #[{ on := 17, ground := Ground.guard }], guard := some (17, true) }) (a := a) (j := 17) (s := 71) (b := true) (c := true) rfl (by rfl) (by rw [← v17]; exact q17)
    have qb8 := (bas 8 (by kernel_rfl)).trans h8
    have eb8 := eval_at qb8
    have w17 : f 17 = (.bool true) := g17
    refine inv_val (G := Kd.ok z (whole13bK pa bl ol ln lc ni na ca b1 o1 fc v1 v2 23)) (R := fun x y => Below x.heap.size x y) (hw.trans (by decide)) (v := (.slice (some ⟨b1, o1, none⟩) ln fc)) (w2 := x) (by simp only [execOp, eb8]; go_simp) hK rfl (Below.refl _ _)
  | 24, _ =>
    obtain rfl : { dst := some 78, op := Op.move (Operand.tmp 9), type := 3, pos := "outright.go:27", after := #[{ on := 17, ground := Ground.guard }], guard := some (17, true) } = o := Option.some.inj (show whole13bOps[24]? = some _ from ho)
    obtain ⟨t17, g17⟩ := dep 17 (by kernel_rfl)
    have q17 := t17 71 (by rfl)
    have e17 := eval_at q17
    have v17 : f 17 = .bool true := g17
    have hw := wanted_some (ops := whole13bOps) (o := { dst := some 78, op := Op.move (Operand.tmp 9), type := 3, pos := "outright.go:27", after := #[{ on := 17, ground := Ground.guard }], guard := some (17, true) }) (a := a) (j := 17) (s := 71) (b := true) (c := true) rfl (by rfl) (by rw [← v17]; exact q17)
    have qb9 := (bas 9 (by kernel_rfl)).trans h9
    have eb9 := eval_at qb9
    have w17 : f 17 = (.bool true) := g17
    refine inv_val (G := Kd.ok z (whole13bK pa bl ol ln lc ni na ca b1 o1 fc v1 v2 24)) (R := fun x y => Below x.heap.size x y) (hw.trans (by decide)) (v := (.int .i64 (ni : Nat))) (w2 := x) (by simp only [execOp, eb9]; go_simp) hK rfl (Below.refl _ _)
  | 25, _ =>
    obtain rfl : { dst := some 79, op := Op.indexAddr 23 (Operand.tmp 77) (Operand.tmp 78), type := 0, pos := "outright.go:27", after := #[{ on := 23, ground := Ground.data }, { on := 24, ground := Ground.data }, { on := 17, ground := Ground.guard }], guard := some (17, true) } = o := Option.some.inj (show whole13bOps[25]? = some _ from ho)
    obtain ⟨t17, g17⟩ := dep 17 (by kernel_rfl)
    have q17 := t17 71 (by rfl)
    have e17 := eval_at q17
    have v17 : f 17 = .bool true := g17
    have hw := wanted_some (ops := whole13bOps) (o := { dst := some 79, op := Op.indexAddr 23 (Operand.tmp 77) (Operand.tmp 78), type := 0, pos := "outright.go:27", after := #[{ on := 23, ground := Ground.data }, { on := 24, ground := Ground.data }, { on := 17, ground := Ground.guard }], guard := some (17, true) }) (a := a) (j := 17) (s := 71) (b := true) (c := true) rfl (by rfl) (by rw [← v17]; exact q17)
    obtain ⟨t23, g23⟩ := dep 23 (by kernel_rfl)
    have q23 := t23 77 (by rfl)
    have e23 := eval_at q23
    obtain ⟨t24, g24⟩ := dep 24 (by kernel_rfl)
    have q24 := t24 78 (by rfl)
    have e24 := eval_at q24
    have w17 : f 17 = (.bool true) := g17
    have w23 : f 23 = (.slice (some ⟨b1, o1, none⟩) ln fc) := g23
    have w24 : f 24 = (.int .i64 (ni : Nat)) := g24
    rw [w23] at e23
    rw [w24] at e24
    refine inv_val (G := Kd.ok z (whole13bK pa bl ol ln lc ni na ca b1 o1 fc v1 v2 25)) (R := fun x y => Below x.heap.size x y) (hw.trans (by decide)) (v := (.pointer (some ⟨b1, o1 + ni, none⟩))) (w2 := x) (by simp only [execOp, e23, e24]; go_simp) hK rfl (Below.refl _ _)
  | 26, _ =>
    obtain rfl : { dst := some 80, op := Op.load 3 (Operand.tmp 79), type := 3, pos := "outright.go:27", after := #[{ on := 25, ground := Ground.data }, { on := 17, ground := Ground.guard }], guard := some (17, true) } = o := Option.some.inj (show whole13bOps[26]? = some _ from ho)
    obtain ⟨t17, g17⟩ := dep 17 (by kernel_rfl)
    have q17 := t17 71 (by rfl)
    have e17 := eval_at q17
    have v17 : f 17 = .bool true := g17
    have hw := wanted_some (ops := whole13bOps) (o := { dst := some 80, op := Op.load 3 (Operand.tmp 79), type := 3, pos := "outright.go:27", after := #[{ on := 25, ground := Ground.data }, { on := 17, ground := Ground.guard }], guard := some (17, true) }) (a := a) (j := 17) (s := 71) (b := true) (c := true) rfl (by rfl) (by rw [← v17]; exact q17)
    obtain ⟨t25, g25⟩ := dep 25 (by kernel_rfl)
    have q25 := t25 79 (by rfl)
    have e25 := eval_at q25
    have w25 : f 25 = (.pointer (some ⟨b1, o1 + ni, none⟩)) := g25
    rw [w25] at e25
    have hc := keep_cell hR hc1
    refine inv_val (G := Kd.ok z (whole13bK pa bl ol ln lc ni na ca b1 o1 fc v1 v2 26)) (R := fun x y => Below x.heap.size x y) (hw.trans (by decide)) (v := (.int .i64 v1)) (w2 := x) (by simp only [execOp, e25]; go_simp) hK rfl (Below.refl _ _)
  | 27, _ =>
    obtain rfl : { dst := some 81, op := Op.binOp BinOp.geq 3 (Operand.tmp 76) (Operand.tmp 80) 3, type := 4, pos := "outright.go:27", after := #[{ on := 22, ground := Ground.data }, { on := 26, ground := Ground.data }, { on := 17, ground := Ground.guard }], guard := some (17, true) } = o := Option.some.inj (show whole13bOps[27]? = some _ from ho)
    obtain ⟨t17, g17⟩ := dep 17 (by kernel_rfl)
    have q17 := t17 71 (by rfl)
    have e17 := eval_at q17
    have v17 : f 17 = .bool true := g17
    have hw := wanted_some (ops := whole13bOps) (o := { dst := some 81, op := Op.binOp BinOp.geq 3 (Operand.tmp 76) (Operand.tmp 80) 3, type := 4, pos := "outright.go:27", after := #[{ on := 22, ground := Ground.data }, { on := 26, ground := Ground.data }, { on := 17, ground := Ground.guard }], guard := some (17, true) }) (a := a) (j := 17) (s := 71) (b := true) (c := true) rfl (by rfl) (by rw [← v17]; exact q17)
    obtain ⟨t22, g22⟩ := dep 22 (by kernel_rfl)
    have q22 := t22 76 (by rfl)
    have e22 := eval_at q22
    obtain ⟨t26, g26⟩ := dep 26 (by kernel_rfl)
    have q26 := t26 80 (by rfl)
    have e26 := eval_at q26
    have w17 : f 17 = (.bool true) := g17
    have w22 : f 22 = (.int .i64 v2) := g22
    have w26 : f 26 = (.int .i64 v1) := g26
    rw [w22] at e22
    rw [w26] at e26
    refine inv_val (G := Kd.ok z (whole13bK pa bl ol ln lc ni na ca b1 o1 fc v1 v2 27)) (R := fun x y => Below x.heap.size x y) (hw.trans (by decide)) (v := (.bool false)) (w2 := x) (by simp only [execOp, e22, e26]; go_simp) hK rfl (Below.refl _ _)
  | 28, _ =>
    obtain rfl : { dst := some 82, op := Op.pick (Operand.tmp 71) (Operand.tmp 81) (Operand.const (Value.bool false)), type := 4, pos := "outright.go:27", after := #[{ on := 17, ground := Ground.data }, { on := 27, ground := Ground.data }, { on := 14, ground := Ground.guard }], guard := some (14, false) } = o := Option.some.inj (show whole13bOps[28]? = some _ from ho)
    obtain ⟨t14, g14⟩ := dep 14 (by kernel_rfl)
    have q14 := t14 68 (by rfl)
    have e14 := eval_at q14
    have v14 : f 14 = .bool false := g14
    have hw := wanted_some (ops := whole13bOps) (o := { dst := some 82, op := Op.pick (Operand.tmp 71) (Operand.tmp 81) (Operand.const (Value.bool false)), type := 4, pos := "outright.go:27", after := #[{ on := 17, ground := Ground.data }, { on := 27, ground := Ground.data }, { on := 14, ground := Ground.guard }], guard := some (14, false) }) (a := a) (j := 14) (s := 68) (b := false) (c := false) rfl (by rfl) (by rw [← v14]; exact q14)
    obtain ⟨t17, g17⟩ := dep 17 (by kernel_rfl)
    have q17 := t17 71 (by rfl)
    have e17 := eval_at q17
    obtain ⟨t27, g27⟩ := dep 27 (by kernel_rfl)
    have q27 := t27 81 (by rfl)
    have e27 := eval_at q27
    have w14 : f 14 = (.bool false) := g14
    have w17 : f 17 = (.bool true) := g17
    have w27 : f 27 = (.bool false) := g27
    rw [w17] at e17
    rw [w27] at e27
    refine inv_val (G := Kd.ok z (whole13bK pa bl ol ln lc ni na ca b1 o1 fc v1 v2 28)) (R := fun x y => Below x.heap.size x y) (hw.trans (by decide)) (v := (.bool false)) (w2 := x) (by simp only [execOp, e17, e27]; go_simp) hK rfl (Below.refl _ _)
  | 29, _ =>
    obtain rfl : { dst := some 83, op := Op.pick (Operand.tmp 68) (Operand.const (Value.bool true)) (Operand.tmp 82), type := 4, pos := "outright.go:27", after := #[{ on := 14, ground := Ground.data }, { on := 28, ground := Ground.data }], guard := none } = o := Option.some.inj (show whole13bOps[29]? = some _ from ho)
    obtain ⟨t14, g14⟩ := dep 14 (by kernel_rfl)
    have q14 := t14 68 (by rfl)
    have e14 := eval_at q14
    obtain ⟨t28, g28⟩ := dep 28 (by kernel_rfl)
    have q28 := t28 82 (by rfl)
    have e28 := eval_at q28
    have w14 : f 14 = (.bool false) := g14
    have w28 : f 28 = (.bool false) := g28
    rw [w14] at e14
    rw [w28] at e28
    refine inv_val (G := Kd.ok z (whole13bK pa bl ol ln lc ni na ca b1 o1 fc v1 v2 29)) (R := fun x y => Below x.heap.size x y) (wanted_none rfl) (v := (.bool false)) (w2 := x) (by simp only [execOp, e14, e28]; go_simp) hK rfl (Below.refl _ _)
end Go.Proofs.Ytkcjfgkfhjanpaa
