/- propsRight: its drawn region, the six ways through its guards. -/
import Derived.Test.YtglgfpapackcdaaGreatFi
import Derived.Test.YtglgfpapackcdaaGreatGsb

namespace Go.Proofs.YtglgfpapackcdaaGreat
open Go.RowKit Tnr

theorem keep_cellP {W w6 : World} {a : Addr} {v : Value} (hb : Below W.heap.size W w6) (h : W.cell? a = some v) : w6.cell? a = some v := by rw [hb.cell (World.block_lt_of_cell? W _ h)]; exact h
inductive Kd where
  | val (v : Value)
def Kd.ok (_z : Nat) : Kd → Value → World → Prop
  | .val u, v, _ => v = u
theorem Kd.below {z : Nat} {w w' : World} {v : Value} : ∀ {k : Kd}, Kd.ok z k v w → Below w.heap.size w w' → Kd.ok z k v w'
  | .val _, h, _ => h
theorem wanted_undef {ops : Array Oper} {o : Oper} {a : Act} {j s : Nat} {b : Bool} (h : o.guard = some (j, b)) (hs : slotOf ops j = some s) (hv : a.tmps[s]? = some undef) : Region.wanted o (yielded ops a.tmps) = false := by
  unfold Region.wanted
  rw [h]
  have e : yielded ops a.tmps j = none := by
    unfold yielded
    have e2 : ((ops[j]?).bind (·.dst)).bind (a.tmps[·]?) = some undef := by
      show (slotOf ops j).bind _ = _
      rw [hs]; exact hv
    rw [e2]
    rfl
  show (yielded ops a.tmps j == some b) = _
  rw [e]; rfl
theorem k_named {w : World} {z : Nat} {v : Value} {s : ByteArray} {t : Bool} (hv : Kd.ok z (.val (.string s)) v w) (ht : nameB s.data.toList = t) {z' y : Nat} (_ : z' ≤ y) :
    Calls Tryz.prog 115 #[v] w fun e y => ∃ u, e = .returned u ∧ Kd.ok z (.val (.bool t)) u y ∧ Below w.heap.size w y := by
  obtain rfl : v = .string s := hv
  refine (named_any s w).mono ?_
  rintro e y ⟨rfl, hb⟩
  exact ⟨_, rfl, by rw [ht]; rfl, hb⟩
theorem k_rt {w : World} {z : Nat} {v u : Value} {r : Bool} (hv : Kd.ok z (.val u) v w) (h : Calls Tryz.prog 116 #[u] w fun e w' => e = .returned (.bool r) ∧ Below w.heap.size w w') :
    Calls Tryz.prog 116 #[v] w fun e y => ∃ u, e = .returned u ∧ Kd.ok z (.val (.bool r)) u y ∧ Below w.heap.size w y := by
  obtain rfl : v = u := hv
  refine h.mono ?_
  rintro e y ⟨rfl, hb⟩
  exact ⟨_, rfl, rfl, hb⟩

def prAOps : Array Oper := #[⟨some 14, Op.fieldAddr 37 (.tmp 4) 0, 0, "tables.go:42", #[], none⟩,
  ⟨some 15, Op.load 9 (.tmp 14), 9, "tables.go:42", #[⟨0, .data⟩], none⟩,
  ⟨some 16, Op.call ⟨.value (.func 115), #[.tmp 15], #[9]⟩, 4, "tables.go:42", #[⟨1, .data⟩], none⟩,
  ⟨some 17, Op.unOp UnOp.not 4 (.tmp 16), 4, "tables.go:42", #[⟨2, .data⟩], none⟩,
  ⟨some 18, Op.move (.tmp 17), 4, "tables.go:42", #[⟨3, .data⟩, ⟨2, .chain⟩], none⟩,
  ⟨some 19, Op.move (.tmp 3), 3, "tables.go:42", #[⟨4, .guard⟩], some (4, false)⟩,
  ⟨some 20, Op.binOp BinOp.gtr 3 (.tmp 19) (.const (.int .i64 0)) 3, 4, "tables.go:42", #[⟨5, .data⟩, ⟨4, .guard⟩], some (4, false)⟩,
  ⟨some 21, Op.move (.tmp 20), 4, "tables.go:42", #[⟨6, .data⟩, ⟨4, .chain⟩, ⟨4, .guard⟩], some (4, false)⟩,
  ⟨some 22, Op.fieldAddr 37 (.tmp 4) 0, 0, "tables.go:42", #[⟨7, .guard⟩], some (7, true)⟩,
  ⟨some 23, Op.load 9 (.tmp 22), 9, "tables.go:42", #[⟨8, .data⟩, ⟨7, .guard⟩], some (7, true)⟩,
  ⟨some 24, Op.fieldAddr 69 (.tmp 1) 0, 0, "tables.go:42", #[⟨7, .guard⟩], some (7, true)⟩,
  ⟨some 25, Op.fieldAddr 30 (.tmp 24) 1, 0, "tables.go:42", #[⟨10, .data⟩, ⟨7, .guard⟩], some (7, true)⟩,
  ⟨some 26, Op.load 28 (.tmp 25), 28, "tables.go:42", #[⟨11, .data⟩, ⟨7, .guard⟩], some (7, true)⟩,
  ⟨some 27, Op.move (.tmp 3), 3, "tables.go:42", #[⟨7, .guard⟩], some (7, true)⟩,
  ⟨some 28, Op.binOp BinOp.sub 3 (.tmp 27) (.const (.int .i64 1)) 3, 3, "tables.go:42", #[⟨13, .data⟩, ⟨7, .guard⟩], some (7, true)⟩,
  ⟨some 29, Op.indexAddr 28 (.tmp 26) (.tmp 28), 0, "tables.go:42", #[⟨12, .data⟩, ⟨14, .data⟩, ⟨7, .guard⟩], some (7, true)⟩,
  ⟨some 30, Op.fieldAddr 37 (.tmp 29) 0, 0, "tables.go:42", #[⟨15, .data⟩, ⟨7, .guard⟩], some (7, true)⟩,
  ⟨some 31, Op.load 9 (.tmp 30), 9, "tables.go:42", #[⟨16, .data⟩, ⟨7, .guard⟩], some (7, true)⟩,
  ⟨some 32, Op.binOp BinOp.leq 9 (.tmp 23) (.tmp 31) 9, 4, "tables.go:42", #[⟨9, .data⟩, ⟨17, .data⟩, ⟨7, .guard⟩], some (7, true)⟩,
  ⟨some 33, Op.pick (.tmp 21) (.tmp 32) (.const (Value.bool false)), 4, "tables.go:42", #[⟨7, .data⟩, ⟨18, .data⟩, ⟨4, .guard⟩], some (4, false)⟩,
  ⟨some 34, Op.pick (.tmp 18) (.const (Value.bool true)) (.tmp 33), 4, "tables.go:42", #[⟨4, .data⟩, ⟨19, .data⟩], none⟩,
  ⟨some 35, Op.move (.tmp 34), 4, "tables.go:42", #[⟨20, .data⟩, ⟨7, .chain⟩], none⟩,
  ⟨some 36, Op.fieldAddr 37 (.tmp 4) 1, 0, "tables.go:42", #[⟨21, .guard⟩], some (21, false)⟩,
  ⟨some 37, Op.load 25 (.tmp 36), 25, "tables.go:42", #[⟨22, .data⟩, ⟨21, .guard⟩], some (21, false)⟩,
  ⟨some 38, Op.call { callee := Callee.builtin Builtin.len, args := #[.tmp 37], argTypes := #[25] }, 3, "tables.go:42", #[⟨23, .data⟩, ⟨21, .guard⟩], some (21, false)⟩,
  ⟨some 39, Op.binOp BinOp.gtr 3 (.tmp 38) (.const (.int .i64 2000)) 3, 4, "tables.go:42", #[⟨24, .data⟩, ⟨21, .guard⟩], some (21, false)⟩,
  ⟨some 40, Op.pick (.tmp 35) (.const (Value.bool true)) (.tmp 39), 4, "tables.go:42", #[⟨21, .data⟩, ⟨25, .data⟩], none⟩,
  ⟨some 41, Op.move (.tmp 40), 4, "tables.go:42", #[⟨26, .data⟩, ⟨21, .chain⟩], none⟩,
  ⟨some 42, Op.fieldAddr 37 (.tmp 4) 1, 0, "tables.go:42", #[⟨27, .guard⟩], some (27, false)⟩,
  ⟨some 43, Op.load 25 (.tmp 42), 25, "tables.go:42", #[⟨28, .data⟩, ⟨27, .guard⟩], some (27, false)⟩,
  ⟨some 44, Op.call { callee := Callee.value (.func 116), args := #[.tmp 43], argTypes := #[25] }, 4, "tables.go:42", #[⟨29, .data⟩, ⟨27, .chain⟩, ⟨27, .guard⟩], some (27, false)⟩,
  ⟨some 45, Op.unOp UnOp.not 4 (.tmp 44), 4, "tables.go:42", #[⟨30, .data⟩, ⟨27, .guard⟩], some (27, false)⟩,
  ⟨some 46, Op.pick (.tmp 41) (.const (Value.bool true)) (.tmp 45), 4, "tables.go:42", #[⟨27, .data⟩, ⟨31, .data⟩], none⟩]
def prAPre : Array Bool := #[true, true, true, true, true, true, true, true, true, true, true, true, true, true, true, true, true, true, true, true, true, true, true, true, true, true, true, true, true, true, true, true, true]
def prAK (s : ByteArray) (_q : Option Addr) (bf _bt _ni _n _m _c : Nat) : Nat → Kd
  | 0 => .val (.pointer (some ⟨bf, 0, none⟩))
  | 1 => .val (.string s)
  | 2 => .val (.bool false)
  | 3 => .val (.bool true)
  | 4 => .val (.bool true)
  | 5 => .val undef
  | 6 => .val undef
  | 7 => .val undef
  | 8 => .val undef
  | 9 => .val undef
  | 10 => .val undef
  | 11 => .val undef
  | 12 => .val undef
  | 13 => .val undef
  | 14 => .val undef
  | 15 => .val undef
  | 16 => .val undef
  | 17 => .val undef
  | 18 => .val undef
  | 19 => .val undef
  | 20 => .val (.bool true)
  | 21 => .val (.bool true)
  | 22 => .val undef
  | 23 => .val undef
  | 24 => .val undef
  | 25 => .val undef
  | 26 => .val (.bool true)
  | 27 => .val (.bool true)
  | 28 => .val undef
  | 29 => .val undef
  | 30 => .val undef
  | 31 => .val undef
  | 32 => .val (.bool true)
  | _ => .val undef
theorem prA_slots (f : Nat → Value) : slotsOf prAOps prAPre f = [(14, f 0), (15, f 1), (16, f 2), (17, f 3), (18, f 4), (19, f 5), (20, f 6), (21, f 7), (22, f 8), (23, f 9), (24, f 10), (25, f 11), (26, f 12), (27, f 13), (28, f 14), (29, f 15), (30, f 16), (31, f 17), (32, f 18), (33, f 19), (34, f 20), (35, f 21), (36, f 22), (37, f 23), (38, f 24), (39, f 25), (40, f 26), (41, f 27), (42, f 28), (43, f 29), (44, f 30), (45, f 31), (46, f 32)] := by kernel_rfl
set_option maxHeartbeats 6400000 in
set_option maxRecDepth 100000 in
theorem prA_wp {Q : Exit → Act → World → Prop} {a0 : Act} {w : World} {z : Nat} (s : ByteArray) (q : Option Addr) (bf bt ni n m c : Nat) (hz : z ≤ w.drew.heap.size) (hsize : a0.tmps.size = 48) (h4 : a0.tmps[4]? = some (.pointer (some ⟨bf, 0, none⟩))) (_h3 : a0.tmps[3]? = some (.int .i64 (ni : Nat))) (_h1 : a0.tmps[1]? = some (.pointer (some ⟨bt, 0, none⟩))) (hf0 : w.drew.cell? ⟨bf, 0, none⟩ = some (.string s)) (_hf1 : w.drew.cell? ⟨bf, 1, none⟩ = some (.slice q m c)) (_hmI : (m : Int) ≤ 10000000000000) (_hnI : (n : Int) ≤ 10000000000000) (hnm : nameB s.data.toList = false) 
    (fin : ∀ (f : Nat → Value) (y : World), (∀ j, j < 33 → prAPre.getD j false = true → Kd.ok z (prAK s q bf bt ni n m c j) (f j) y) → Below w.drew.heap.size w.drew y → Q .normal (putL a0 [(14, f 0), (15, f 1), (16, f 2), (17, f 3), (18, f 4), (19, f 5), (20, f 6), (21, f 7), (22, f 8), (23, f 9), (24, f 10), (25, f 11), (26, f 12), (27, f 13), (28, f 14), (29, f 15), (30, f 16), (31, f 17), (32, f 18), (33, f 19), (34, f 20), (35, f 21), (36, f 22), (37, f 23), (38, f 24), (39, f 25), (40, f 26), (41, f 27), (42, f 28), (43, f 29), (44, f 30), (45, f 31), (46, f 32)]) y) (id : Nat) :
    (Code.region id prAOps true).wp Tryz.prog Q a0 w := by
  refine wp_region_inv prAPre (fun j => Kd.ok z (prAK s q bf bt ni n m c j)) (fun x y => Below x.heap.size x y) 33 0 (by kernel_rfl) (by kernel_rfl) (by rw [hsize]; kernel_rfl) (by kernel_rfl) (by kernel_rfl) (Below.refl _ _) (fun _ _ _ h1 h2 => bl_trans h1 h2) (fun _ _ _ _ h1 h2 => Kd.below h1 h2) ?_ (fun f y h1 h2 => by rw [prA_slots]; exact any_end (by kernel_rfl) (fin f y h1 h2) 0)
  intro i o ho hp f a x hR hbase hdeps K hK
  have hi : i < 33 := by
    rcases Nat.lt_or_ge i 33 with h | h
    · exact h
    · have : prAOps.size ≤ i := h
      rw [Array.getElem?_eq_none this] at ho; cases ho
  have hzx : z ≤ x.heap.size := Nat.le_trans hz hR.size
  have dep : ∀ j, (o.after.any fun e => Region.binds .any e && e.on == j) = true → (∀ s, slotOf prAOps j = some s → a.tmps[s]? = some (f j)) ∧ Kd.ok z (prAK s q bf bt ni n m c j) (f j) x := by
    intro j h
    obtain ⟨e, he, h2⟩ := Array.any_eq_true'.1 h
    simp only [Bool.and_eq_true, beq_iff_eq] at h2
    obtain ⟨h3, rfl⟩ := h2
    exact hdeps e he h3
  have bas : ∀ s, ((List.range prAOps.size).all fun j => slotOf prAOps j != some s) = true → a.tmps[s]? = a0.tmps[s]? := by
    intro s h
    refine hbase s fun j hj _ e => ?_
    have h2 := (List.all_eq_true.1 h) j (List.mem_range.2 hj)
    rw [e] at h2; simp at h2
  match i, hi with
  | 0, _ =>
    obtain rfl : ⟨some 14, Op.fieldAddr 37 (.tmp 4) 0, 0, "tables.go:42", #[], none⟩ = o := Option.some.inj (show prAOps[0]? = some _ from ho)
    have qb4 := (bas 4 (by kernel_rfl)).trans h4
    have eb4 := eval_at qb4
    refine inv_val (G := Kd.ok z (prAK s q bf bt ni n m c 0)) (R := fun x y => Below x.heap.size x y) (wanted_none rfl) (v := (.pointer (some ⟨bf, 0, none⟩))) (w2 := x) (by simp only [execOp, eb4]; go_simp) hK rfl (Below.refl _ _)
  | 1, _ =>
    obtain rfl : ⟨some 15, Op.load 9 (.tmp 14), 9, "tables.go:42", #[⟨0, .data⟩], none⟩ = o := Option.some.inj (show prAOps[1]? = some _ from ho)
    obtain ⟨t0, g0⟩ := dep 0 (by kernel_rfl)
    have q0 := t0 14 (by rfl)
    have e0 := eval_at q0
    have w0 : f 0 = (.pointer (some ⟨bf, 0, none⟩)) := g0
    rw [w0] at e0
    have hc := keep_cellP hR hf0
    refine inv_val (G := Kd.ok z (prAK s q bf bt ni n m c 1)) (R := fun x y => Below x.heap.size x y) (wanted_none rfl) (v := (.string s)) (w2 := x) (by simp only [execOp, e0]; go_simp) hK rfl (Below.refl _ _)
  | 2, _ =>
    obtain rfl : ⟨some 16, Op.call ⟨.value (.func 115), #[.tmp 15], #[9]⟩, 4, "tables.go:42", #[⟨1, .data⟩], none⟩ = o := Option.some.inj (show prAOps[2]? = some _ from ho)
    obtain ⟨t1, g1⟩ := dep 1 (by kernel_rfl)
    have q1 := t1 15 (by rfl)
    have e1 := eval_at q1
    refine inv_call (G := Kd.ok z (prAK s q bf bt ni n m c 2)) (R := fun x y => Below x.heap.size x y) (wanted_none rfl) (F := 115) (args := #[f 1]) (by simp [go_sem, q1]) hK ?_
    exact k_named (w := x) g1 hnm hR.size
  | 3, _ =>
    obtain rfl : ⟨some 17, Op.unOp UnOp.not 4 (.tmp 16), 4, "tables.go:42", #[⟨2, .data⟩], none⟩ = o := Option.some.inj (show prAOps[3]? = some _ from ho)
    obtain ⟨t2, g2⟩ := dep 2 (by kernel_rfl)
    have q2 := t2 16 (by rfl)
    have e2 := eval_at q2
    have w2 : f 2 = (.bool false) := g2
    rw [w2] at e2
    refine inv_val (G := Kd.ok z (prAK s q bf bt ni n m c 3)) (R := fun x y => Below x.heap.size x y) (wanted_none rfl) (v := (.bool true)) (w2 := x) (by simp only [execOp, e2]; go_simp) hK rfl (Below.refl _ _)
  | 4, _ =>
    obtain rfl : ⟨some 18, Op.move (.tmp 17), 4, "tables.go:42", #[⟨3, .data⟩, ⟨2, .chain⟩], none⟩ = o := Option.some.inj (show prAOps[4]? = some _ from ho)
    obtain ⟨t3, g3⟩ := dep 3 (by kernel_rfl)
    have q3 := t3 17 (by rfl)
    have e3 := eval_at q3
    have w3 : f 3 = (.bool true) := g3
    rw [w3] at e3
    refine inv_val (G := Kd.ok z (prAK s q bf bt ni n m c 4)) (R := fun x y => Below x.heap.size x y) (wanted_none rfl) (v := (.bool true)) (w2 := x) (by simp only [execOp, e3]; go_simp) hK rfl (Below.refl _ _)
  | 5, _ =>
    obtain rfl : ⟨some 19, Op.move (.tmp 3), 3, "tables.go:42", #[⟨4, .guard⟩], some (4, false)⟩ = o := Option.some.inj (show prAOps[5]? = some _ from ho)
    obtain ⟨t4, g4⟩ := dep 4 (by kernel_rfl)
    have q4 := t4 18 (by rfl)
    have e4 := eval_at q4
    have v4 : f 4 = .bool true := g4
    have hw := wanted_some (ops := prAOps) (o := ⟨some 19, Op.move (.tmp 3), 3, "tables.go:42", #[⟨4, .guard⟩], some (4, false)⟩) (a := a) (j := 4) (s := 18) (b := false) (c := true) rfl (by rfl) (by rw [← v4]; exact q4)
    exact inv_left (G := Kd.ok z (prAK s q bf bt ni n m c 5)) (R := fun x y => Below x.heap.size x y) (hw.trans (by decide)) hK rfl (Below.refl _ _)
  | 6, _ =>
    obtain rfl : ⟨some 20, Op.binOp BinOp.gtr 3 (.tmp 19) (.const (.int .i64 0)) 3, 4, "tables.go:42", #[⟨5, .data⟩, ⟨4, .guard⟩], some (4, false)⟩ = o := Option.some.inj (show prAOps[6]? = some _ from ho)
    obtain ⟨t4, g4⟩ := dep 4 (by kernel_rfl)
    have q4 := t4 18 (by rfl)
    have e4 := eval_at q4
    have v4 : f 4 = .bool true := g4
    have hw := wanted_some (ops := prAOps) (o := ⟨some 20, Op.binOp BinOp.gtr 3 (.tmp 19) (.const (.int .i64 0)) 3, 4, "tables.go:42", #[⟨5, .data⟩, ⟨4, .guard⟩], some (4, false)⟩) (a := a) (j := 4) (s := 18) (b := false) (c := true) rfl (by rfl) (by rw [← v4]; exact q4)
    exact inv_left (G := Kd.ok z (prAK s q bf bt ni n m c 6)) (R := fun x y => Below x.heap.size x y) (hw.trans (by decide)) hK rfl (Below.refl _ _)
  | 7, _ =>
    obtain rfl : ⟨some 21, Op.move (.tmp 20), 4, "tables.go:42", #[⟨6, .data⟩, ⟨4, .chain⟩, ⟨4, .guard⟩], some (4, false)⟩ = o := Option.some.inj (show prAOps[7]? = some _ from ho)
    obtain ⟨t4, g4⟩ := dep 4 (by kernel_rfl)
    have q4 := t4 18 (by rfl)
    have e4 := eval_at q4
    have v4 : f 4 = .bool true := g4
    have hw := wanted_some (ops := prAOps) (o := ⟨some 21, Op.move (.tmp 20), 4, "tables.go:42", #[⟨6, .data⟩, ⟨4, .chain⟩, ⟨4, .guard⟩], some (4, false)⟩) (a := a) (j := 4) (s := 18) (b := false) (c := true) rfl (by rfl) (by rw [← v4]; exact q4)
    exact inv_left (G := Kd.ok z (prAK s q bf bt ni n m c 7)) (R := fun x y => Below x.heap.size x y) (hw.trans (by decide)) hK rfl (Below.refl _ _)
  | 8, _ =>
    obtain rfl : ⟨some 22, Op.fieldAddr 37 (.tmp 4) 0, 0, "tables.go:42", #[⟨7, .guard⟩], some (7, true)⟩ = o := Option.some.inj (show prAOps[8]? = some _ from ho)
    obtain ⟨t7, g7⟩ := dep 7 (by kernel_rfl)
    have q7 := t7 21 (by rfl)
    have e7 := eval_at q7
    have v7 : f 7 = undef := g7
    have hw := wanted_undef (ops := prAOps) (o := ⟨some 22, Op.fieldAddr 37 (.tmp 4) 0, 0, "tables.go:42", #[⟨7, .guard⟩], some (7, true)⟩) (a := a) (j := 7) (s := 21) (b := true) rfl (by rfl) (by rw [← v7]; exact q7)
    exact inv_left (G := Kd.ok z (prAK s q bf bt ni n m c 8)) (R := fun x y => Below x.heap.size x y) hw hK rfl (Below.refl _ _)
  | 9, _ =>
    obtain rfl : ⟨some 23, Op.load 9 (.tmp 22), 9, "tables.go:42", #[⟨8, .data⟩, ⟨7, .guard⟩], some (7, true)⟩ = o := Option.some.inj (show prAOps[9]? = some _ from ho)
    obtain ⟨t7, g7⟩ := dep 7 (by kernel_rfl)
    have q7 := t7 21 (by rfl)
    have e7 := eval_at q7
    have v7 : f 7 = undef := g7
    have hw := wanted_undef (ops := prAOps) (o := ⟨some 23, Op.load 9 (.tmp 22), 9, "tables.go:42", #[⟨8, .data⟩, ⟨7, .guard⟩], some (7, true)⟩) (a := a) (j := 7) (s := 21) (b := true) rfl (by rfl) (by rw [← v7]; exact q7)
    exact inv_left (G := Kd.ok z (prAK s q bf bt ni n m c 9)) (R := fun x y => Below x.heap.size x y) hw hK rfl (Below.refl _ _)
  | 10, _ =>
    obtain rfl : ⟨some 24, Op.fieldAddr 69 (.tmp 1) 0, 0, "tables.go:42", #[⟨7, .guard⟩], some (7, true)⟩ = o := Option.some.inj (show prAOps[10]? = some _ from ho)
    obtain ⟨t7, g7⟩ := dep 7 (by kernel_rfl)
    have q7 := t7 21 (by rfl)
    have e7 := eval_at q7
    have v7 : f 7 = undef := g7
    have hw := wanted_undef (ops := prAOps) (o := ⟨some 24, Op.fieldAddr 69 (.tmp 1) 0, 0, "tables.go:42", #[⟨7, .guard⟩], some (7, true)⟩) (a := a) (j := 7) (s := 21) (b := true) rfl (by rfl) (by rw [← v7]; exact q7)
    exact inv_left (G := Kd.ok z (prAK s q bf bt ni n m c 10)) (R := fun x y => Below x.heap.size x y) hw hK rfl (Below.refl _ _)
  | 11, _ =>
    obtain rfl : ⟨some 25, Op.fieldAddr 30 (.tmp 24) 1, 0, "tables.go:42", #[⟨10, .data⟩, ⟨7, .guard⟩], some (7, true)⟩ = o := Option.some.inj (show prAOps[11]? = some _ from ho)
    obtain ⟨t7, g7⟩ := dep 7 (by kernel_rfl)
    have q7 := t7 21 (by rfl)
    have e7 := eval_at q7
    have v7 : f 7 = undef := g7
    have hw := wanted_undef (ops := prAOps) (o := ⟨some 25, Op.fieldAddr 30 (.tmp 24) 1, 0, "tables.go:42", #[⟨10, .data⟩, ⟨7, .guard⟩], some (7, true)⟩) (a := a) (j := 7) (s := 21) (b := true) rfl (by rfl) (by rw [← v7]; exact q7)
    exact inv_left (G := Kd.ok z (prAK s q bf bt ni n m c 11)) (R := fun x y => Below x.heap.size x y) hw hK rfl (Below.refl _ _)
  | 12, _ =>
    obtain rfl : ⟨some 26, Op.load 28 (.tmp 25), 28, "tables.go:42", #[⟨11, .data⟩, ⟨7, .guard⟩], some (7, true)⟩ = o := Option.some.inj (show prAOps[12]? = some _ from ho)
    obtain ⟨t7, g7⟩ := dep 7 (by kernel_rfl)
    have q7 := t7 21 (by rfl)
    have e7 := eval_at q7
    have v7 : f 7 = undef := g7
    have hw := wanted_undef (ops := prAOps) (o := ⟨some 26, Op.load 28 (.tmp 25), 28, "tables.go:42", #[⟨11, .data⟩, ⟨7, .guard⟩], some (7, true)⟩) (a := a) (j := 7) (s := 21) (b := true) rfl (by rfl) (by rw [← v7]; exact q7)
    exact inv_left (G := Kd.ok z (prAK s q bf bt ni n m c 12)) (R := fun x y => Below x.heap.size x y) hw hK rfl (Below.refl _ _)
  | 13, _ =>
    obtain rfl : ⟨some 27, Op.move (.tmp 3), 3, "tables.go:42", #[⟨7, .guard⟩], some (7, true)⟩ = o := Option.some.inj (show prAOps[13]? = some _ from ho)
    obtain ⟨t7, g7⟩ := dep 7 (by kernel_rfl)
    have q7 := t7 21 (by rfl)
    have e7 := eval_at q7
    have v7 : f 7 = undef := g7
    have hw := wanted_undef (ops := prAOps) (o := ⟨some 27, Op.move (.tmp 3), 3, "tables.go:42", #[⟨7, .guard⟩], some (7, true)⟩) (a := a) (j := 7) (s := 21) (b := true) rfl (by rfl) (by rw [← v7]; exact q7)
    exact inv_left (G := Kd.ok z (prAK s q bf bt ni n m c 13)) (R := fun x y => Below x.heap.size x y) hw hK rfl (Below.refl _ _)
  | 14, _ =>
    obtain rfl : ⟨some 28, Op.binOp BinOp.sub 3 (.tmp 27) (.const (.int .i64 1)) 3, 3, "tables.go:42", #[⟨13, .data⟩, ⟨7, .guard⟩], some (7, true)⟩ = o := Option.some.inj (show prAOps[14]? = some _ from ho)
    obtain ⟨t7, g7⟩ := dep 7 (by kernel_rfl)
    have q7 := t7 21 (by rfl)
    have e7 := eval_at q7
    have v7 : f 7 = undef := g7
    have hw := wanted_undef (ops := prAOps) (o := ⟨some 28, Op.binOp BinOp.sub 3 (.tmp 27) (.const (.int .i64 1)) 3, 3, "tables.go:42", #[⟨13, .data⟩, ⟨7, .guard⟩], some (7, true)⟩) (a := a) (j := 7) (s := 21) (b := true) rfl (by rfl) (by rw [← v7]; exact q7)
    exact inv_left (G := Kd.ok z (prAK s q bf bt ni n m c 14)) (R := fun x y => Below x.heap.size x y) hw hK rfl (Below.refl _ _)
  | 15, _ =>
    obtain rfl : ⟨some 29, Op.indexAddr 28 (.tmp 26) (.tmp 28), 0, "tables.go:42", #[⟨12, .data⟩, ⟨14, .data⟩, ⟨7, .guard⟩], some (7, true)⟩ = o := Option.some.inj (show prAOps[15]? = some _ from ho)
    obtain ⟨t7, g7⟩ := dep 7 (by kernel_rfl)
    have q7 := t7 21 (by rfl)
    have e7 := eval_at q7
    have v7 : f 7 = undef := g7
    have hw := wanted_undef (ops := prAOps) (o := ⟨some 29, Op.indexAddr 28 (.tmp 26) (.tmp 28), 0, "tables.go:42", #[⟨12, .data⟩, ⟨14, .data⟩, ⟨7, .guard⟩], some (7, true)⟩) (a := a) (j := 7) (s := 21) (b := true) rfl (by rfl) (by rw [← v7]; exact q7)
    exact inv_left (G := Kd.ok z (prAK s q bf bt ni n m c 15)) (R := fun x y => Below x.heap.size x y) hw hK rfl (Below.refl _ _)
  | 16, _ =>
    obtain rfl : ⟨some 30, Op.fieldAddr 37 (.tmp 29) 0, 0, "tables.go:42", #[⟨15, .data⟩, ⟨7, .guard⟩], some (7, true)⟩ = o := Option.some.inj (show prAOps[16]? = some _ from ho)
    obtain ⟨t7, g7⟩ := dep 7 (by kernel_rfl)
    have q7 := t7 21 (by rfl)
    have e7 := eval_at q7
    have v7 : f 7 = undef := g7
    have hw := wanted_undef (ops := prAOps) (o := ⟨some 30, Op.fieldAddr 37 (.tmp 29) 0, 0, "tables.go:42", #[⟨15, .data⟩, ⟨7, .guard⟩], some (7, true)⟩) (a := a) (j := 7) (s := 21) (b := true) rfl (by rfl) (by rw [← v7]; exact q7)
    exact inv_left (G := Kd.ok z (prAK s q bf bt ni n m c 16)) (R := fun x y => Below x.heap.size x y) hw hK rfl (Below.refl _ _)
  | 17, _ =>
    obtain rfl : ⟨some 31, Op.load 9 (.tmp 30), 9, "tables.go:42", #[⟨16, .data⟩, ⟨7, .guard⟩], some (7, true)⟩ = o := Option.some.inj (show prAOps[17]? = some _ from ho)
    obtain ⟨t7, g7⟩ := dep 7 (by kernel_rfl)
    have q7 := t7 21 (by rfl)
    have e7 := eval_at q7
    have v7 : f 7 = undef := g7
    have hw := wanted_undef (ops := prAOps) (o := ⟨some 31, Op.load 9 (.tmp 30), 9, "tables.go:42", #[⟨16, .data⟩, ⟨7, .guard⟩], some (7, true)⟩) (a := a) (j := 7) (s := 21) (b := true) rfl (by rfl) (by rw [← v7]; exact q7)
    exact inv_left (G := Kd.ok z (prAK s q bf bt ni n m c 17)) (R := fun x y => Below x.heap.size x y) hw hK rfl (Below.refl _ _)
  | 18, _ =>
    obtain rfl : ⟨some 32, Op.binOp BinOp.leq 9 (.tmp 23) (.tmp 31) 9, 4, "tables.go:42", #[⟨9, .data⟩, ⟨17, .data⟩, ⟨7, .guard⟩], some (7, true)⟩ = o := Option.some.inj (show prAOps[18]? = some _ from ho)
    obtain ⟨t7, g7⟩ := dep 7 (by kernel_rfl)
    have q7 := t7 21 (by rfl)
    have e7 := eval_at q7
    have v7 : f 7 = undef := g7
    have hw := wanted_undef (ops := prAOps) (o := ⟨some 32, Op.binOp BinOp.leq 9 (.tmp 23) (.tmp 31) 9, 4, "tables.go:42", #[⟨9, .data⟩, ⟨17, .data⟩, ⟨7, .guard⟩], some (7, true)⟩) (a := a) (j := 7) (s := 21) (b := true) rfl (by rfl) (by rw [← v7]; exact q7)
    exact inv_left (G := Kd.ok z (prAK s q bf bt ni n m c 18)) (R := fun x y => Below x.heap.size x y) hw hK rfl (Below.refl _ _)
  | 19, _ =>
    obtain rfl : ⟨some 33, Op.pick (.tmp 21) (.tmp 32) (.const (Value.bool false)), 4, "tables.go:42", #[⟨7, .data⟩, ⟨18, .data⟩, ⟨4, .guard⟩], some (4, false)⟩ = o := Option.some.inj (show prAOps[19]? = some _ from ho)
    obtain ⟨t4, g4⟩ := dep 4 (by kernel_rfl)
    have q4 := t4 18 (by rfl)
    have e4 := eval_at q4
    have v4 : f 4 = .bool true := g4
    have hw := wanted_some (ops := prAOps) (o := ⟨some 33, Op.pick (.tmp 21) (.tmp 32) (.const (Value.bool false)), 4, "tables.go:42", #[⟨7, .data⟩, ⟨18, .data⟩, ⟨4, .guard⟩], some (4, false)⟩) (a := a) (j := 4) (s := 18) (b := false) (c := true) rfl (by rfl) (by rw [← v4]; exact q4)
    exact inv_left (G := Kd.ok z (prAK s q bf bt ni n m c 19)) (R := fun x y => Below x.heap.size x y) (hw.trans (by decide)) hK rfl (Below.refl _ _)
  | 20, _ =>
    obtain rfl : ⟨some 34, Op.pick (.tmp 18) (.const (Value.bool true)) (.tmp 33), 4, "tables.go:42", #[⟨4, .data⟩, ⟨19, .data⟩], none⟩ = o := Option.some.inj (show prAOps[20]? = some _ from ho)
    obtain ⟨t4, g4⟩ := dep 4 (by kernel_rfl)
    have q4 := t4 18 (by rfl)
    have e4 := eval_at q4
    obtain ⟨t19, g19⟩ := dep 19 (by kernel_rfl)
    have q19 := t19 33 (by rfl)
    have e19 := eval_at q19
    have w4 : f 4 = (.bool true) := g4
    have w19 : f 19 = undef := g19
    rw [w4] at e4
    refine inv_val (G := Kd.ok z (prAK s q bf bt ni n m c 20)) (R := fun x y => Below x.heap.size x y) (wanted_none rfl) (v := (.bool true)) (w2 := x) (by simp only [execOp, e4, e19]; go_simp) hK rfl (Below.refl _ _)
  | 21, _ =>
    obtain rfl : ⟨some 35, Op.move (.tmp 34), 4, "tables.go:42", #[⟨20, .data⟩, ⟨7, .chain⟩], none⟩ = o := Option.some.inj (show prAOps[21]? = some _ from ho)
    obtain ⟨t20, g20⟩ := dep 20 (by kernel_rfl)
    have q20 := t20 34 (by rfl)
    have e20 := eval_at q20
    have w20 : f 20 = (.bool true) := g20
    rw [w20] at e20
    refine inv_val (G := Kd.ok z (prAK s q bf bt ni n m c 21)) (R := fun x y => Below x.heap.size x y) (wanted_none rfl) (v := (.bool true)) (w2 := x) (by simp only [execOp, e20]; go_simp) hK rfl (Below.refl _ _)
  | 22, _ =>
    obtain rfl : ⟨some 36, Op.fieldAddr 37 (.tmp 4) 1, 0, "tables.go:42", #[⟨21, .guard⟩], some (21, false)⟩ = o := Option.some.inj (show prAOps[22]? = some _ from ho)
    obtain ⟨t21, g21⟩ := dep 21 (by kernel_rfl)
    have q21 := t21 35 (by rfl)
    have e21 := eval_at q21
    have v21 : f 21 = .bool true := g21
    have hw := wanted_some (ops := prAOps) (o := ⟨some 36, Op.fieldAddr 37 (.tmp 4) 1, 0, "tables.go:42", #[⟨21, .guard⟩], some (21, false)⟩) (a := a) (j := 21) (s := 35) (b := false) (c := true) rfl (by rfl) (by rw [← v21]; exact q21)
    exact inv_left (G := Kd.ok z (prAK s q bf bt ni n m c 22)) (R := fun x y => Below x.heap.size x y) (hw.trans (by decide)) hK rfl (Below.refl _ _)
  | 23, _ =>
    obtain rfl : ⟨some 37, Op.load 25 (.tmp 36), 25, "tables.go:42", #[⟨22, .data⟩, ⟨21, .guard⟩], some (21, false)⟩ = o := Option.some.inj (show prAOps[23]? = some _ from ho)
    obtain ⟨t21, g21⟩ := dep 21 (by kernel_rfl)
    have q21 := t21 35 (by rfl)
    have e21 := eval_at q21
    have v21 : f 21 = .bool true := g21
    have hw := wanted_some (ops := prAOps) (o := ⟨some 37, Op.load 25 (.tmp 36), 25, "tables.go:42", #[⟨22, .data⟩, ⟨21, .guard⟩], some (21, false)⟩) (a := a) (j := 21) (s := 35) (b := false) (c := true) rfl (by rfl) (by rw [← v21]; exact q21)
    exact inv_left (G := Kd.ok z (prAK s q bf bt ni n m c 23)) (R := fun x y => Below x.heap.size x y) (hw.trans (by decide)) hK rfl (Below.refl _ _)
  | 24, _ =>
    obtain rfl : ⟨some 38, Op.call { callee := Callee.builtin Builtin.len, args := #[.tmp 37], argTypes := #[25] }, 3, "tables.go:42", #[⟨23, .data⟩, ⟨21, .guard⟩], some (21, false)⟩ = o := Option.some.inj (show prAOps[24]? = some _ from ho)
    obtain ⟨t21, g21⟩ := dep 21 (by kernel_rfl)
    have q21 := t21 35 (by rfl)
    have e21 := eval_at q21
    have v21 : f 21 = .bool true := g21
    have hw := wanted_some (ops := prAOps) (o := ⟨some 38, Op.call { callee := Callee.builtin Builtin.len, args := #[.tmp 37], argTypes := #[25] }, 3, "tables.go:42", #[⟨23, .data⟩, ⟨21, .guard⟩], some (21, false)⟩) (a := a) (j := 21) (s := 35) (b := false) (c := true) rfl (by rfl) (by rw [← v21]; exact q21)
    exact inv_left (G := Kd.ok z (prAK s q bf bt ni n m c 24)) (R := fun x y => Below x.heap.size x y) (hw.trans (by decide)) hK rfl (Below.refl _ _)
  | 25, _ =>
    obtain rfl : ⟨some 39, Op.binOp BinOp.gtr 3 (.tmp 38) (.const (.int .i64 2000)) 3, 4, "tables.go:42", #[⟨24, .data⟩, ⟨21, .guard⟩], some (21, false)⟩ = o := Option.some.inj (show prAOps[25]? = some _ from ho)
    obtain ⟨t21, g21⟩ := dep 21 (by kernel_rfl)
    have q21 := t21 35 (by rfl)
    have e21 := eval_at q21
    have v21 : f 21 = .bool true := g21
    have hw := wanted_some (ops := prAOps) (o := ⟨some 39, Op.binOp BinOp.gtr 3 (.tmp 38) (.const (.int .i64 2000)) 3, 4, "tables.go:42", #[⟨24, .data⟩, ⟨21, .guard⟩], some (21, false)⟩) (a := a) (j := 21) (s := 35) (b := false) (c := true) rfl (by rfl) (by rw [← v21]; exact q21)
    exact inv_left (G := Kd.ok z (prAK s q bf bt ni n m c 25)) (R := fun x y => Below x.heap.size x y) (hw.trans (by decide)) hK rfl (Below.refl _ _)
  | 26, _ =>
    obtain rfl : ⟨some 40, Op.pick (.tmp 35) (.const (Value.bool true)) (.tmp 39), 4, "tables.go:42", #[⟨21, .data⟩, ⟨25, .data⟩], none⟩ = o := Option.some.inj (show prAOps[26]? = some _ from ho)
    obtain ⟨t21, g21⟩ := dep 21 (by kernel_rfl)
    have q21 := t21 35 (by rfl)
    have e21 := eval_at q21
    obtain ⟨t25, g25⟩ := dep 25 (by kernel_rfl)
    have q25 := t25 39 (by rfl)
    have e25 := eval_at q25
    have w21 : f 21 = (.bool true) := g21
    have w25 : f 25 = undef := g25
    rw [w21] at e21
    refine inv_val (G := Kd.ok z (prAK s q bf bt ni n m c 26)) (R := fun x y => Below x.heap.size x y) (wanted_none rfl) (v := (.bool true)) (w2 := x) (by simp only [execOp, e21, e25]; go_simp) hK rfl (Below.refl _ _)
  | 27, _ =>
    obtain rfl : ⟨some 41, Op.move (.tmp 40), 4, "tables.go:42", #[⟨26, .data⟩, ⟨21, .chain⟩], none⟩ = o := Option.some.inj (show prAOps[27]? = some _ from ho)
    obtain ⟨t26, g26⟩ := dep 26 (by kernel_rfl)
    have q26 := t26 40 (by rfl)
    have e26 := eval_at q26
    have w26 : f 26 = (.bool true) := g26
    rw [w26] at e26
    refine inv_val (G := Kd.ok z (prAK s q bf bt ni n m c 27)) (R := fun x y => Below x.heap.size x y) (wanted_none rfl) (v := (.bool true)) (w2 := x) (by simp only [execOp, e26]; go_simp) hK rfl (Below.refl _ _)
  | 28, _ =>
    obtain rfl : ⟨some 42, Op.fieldAddr 37 (.tmp 4) 1, 0, "tables.go:42", #[⟨27, .guard⟩], some (27, false)⟩ = o := Option.some.inj (show prAOps[28]? = some _ from ho)
    obtain ⟨t27, g27⟩ := dep 27 (by kernel_rfl)
    have q27 := t27 41 (by rfl)
    have e27 := eval_at q27
    have v27 : f 27 = .bool true := g27
    have hw := wanted_some (ops := prAOps) (o := ⟨some 42, Op.fieldAddr 37 (.tmp 4) 1, 0, "tables.go:42", #[⟨27, .guard⟩], some (27, false)⟩) (a := a) (j := 27) (s := 41) (b := false) (c := true) rfl (by rfl) (by rw [← v27]; exact q27)
    exact inv_left (G := Kd.ok z (prAK s q bf bt ni n m c 28)) (R := fun x y => Below x.heap.size x y) (hw.trans (by decide)) hK rfl (Below.refl _ _)
  | 29, _ =>
    obtain rfl : ⟨some 43, Op.load 25 (.tmp 42), 25, "tables.go:42", #[⟨28, .data⟩, ⟨27, .guard⟩], some (27, false)⟩ = o := Option.some.inj (show prAOps[29]? = some _ from ho)
    obtain ⟨t27, g27⟩ := dep 27 (by kernel_rfl)
    have q27 := t27 41 (by rfl)
    have e27 := eval_at q27
    have v27 : f 27 = .bool true := g27
    have hw := wanted_some (ops := prAOps) (o := ⟨some 43, Op.load 25 (.tmp 42), 25, "tables.go:42", #[⟨28, .data⟩, ⟨27, .guard⟩], some (27, false)⟩) (a := a) (j := 27) (s := 41) (b := false) (c := true) rfl (by rfl) (by rw [← v27]; exact q27)
    exact inv_left (G := Kd.ok z (prAK s q bf bt ni n m c 29)) (R := fun x y => Below x.heap.size x y) (hw.trans (by decide)) hK rfl (Below.refl _ _)
  | 30, _ =>
    obtain rfl : ⟨some 44, Op.call { callee := Callee.value (.func 116), args := #[.tmp 43], argTypes := #[25] }, 4, "tables.go:42", #[⟨29, .data⟩, ⟨27, .chain⟩, ⟨27, .guard⟩], some (27, false)⟩ = o := Option.some.inj (show prAOps[30]? = some _ from ho)
    obtain ⟨t27, g27⟩ := dep 27 (by kernel_rfl)
    have q27 := t27 41 (by rfl)
    have e27 := eval_at q27
    have v27 : f 27 = .bool true := g27
    have hw := wanted_some (ops := prAOps) (o := ⟨some 44, Op.call { callee := Callee.value (.func 116), args := #[.tmp 43], argTypes := #[25] }, 4, "tables.go:42", #[⟨29, .data⟩, ⟨27, .chain⟩, ⟨27, .guard⟩], some (27, false)⟩) (a := a) (j := 27) (s := 41) (b := false) (c := true) rfl (by rfl) (by rw [← v27]; exact q27)
    exact inv_left (G := Kd.ok z (prAK s q bf bt ni n m c 30)) (R := fun x y => Below x.heap.size x y) (hw.trans (by decide)) hK rfl (Below.refl _ _)
  | 31, _ =>
    obtain rfl : ⟨some 45, Op.unOp UnOp.not 4 (.tmp 44), 4, "tables.go:42", #[⟨30, .data⟩, ⟨27, .guard⟩], some (27, false)⟩ = o := Option.some.inj (show prAOps[31]? = some _ from ho)
    obtain ⟨t27, g27⟩ := dep 27 (by kernel_rfl)
    have q27 := t27 41 (by rfl)
    have e27 := eval_at q27
    have v27 : f 27 = .bool true := g27
    have hw := wanted_some (ops := prAOps) (o := ⟨some 45, Op.unOp UnOp.not 4 (.tmp 44), 4, "tables.go:42", #[⟨30, .data⟩, ⟨27, .guard⟩], some (27, false)⟩) (a := a) (j := 27) (s := 41) (b := false) (c := true) rfl (by rfl) (by rw [← v27]; exact q27)
    exact inv_left (G := Kd.ok z (prAK s q bf bt ni n m c 31)) (R := fun x y => Below x.heap.size x y) (hw.trans (by decide)) hK rfl (Below.refl _ _)
  | 32, _ =>
    obtain rfl : ⟨some 46, Op.pick (.tmp 41) (.const (Value.bool true)) (.tmp 45), 4, "tables.go:42", #[⟨27, .data⟩, ⟨31, .data⟩], none⟩ = o := Option.some.inj (show prAOps[32]? = some _ from ho)
    obtain ⟨t27, g27⟩ := dep 27 (by kernel_rfl)
    have q27 := t27 41 (by rfl)
    have e27 := eval_at q27
    obtain ⟨t31, g31⟩ := dep 31 (by kernel_rfl)
    have q31 := t31 45 (by rfl)
    have e31 := eval_at q31
    have w27 : f 27 = (.bool true) := g27
    have w31 : f 31 = undef := g31
    rw [w27] at e27
    refine inv_val (G := Kd.ok z (prAK s q bf bt ni n m c 32)) (R := fun x y => Below x.heap.size x y) (wanted_none rfl) (v := (.bool true)) (w2 := x) (by simp only [execOp, e27, e31]; go_simp) hK rfl (Below.refl _ _)

def prBOps : Array Oper := #[⟨some 14, Op.fieldAddr 37 (.tmp 4) 0, 0, "tables.go:42", #[], none⟩,
  ⟨some 15, Op.load 9 (.tmp 14), 9, "tables.go:42", #[⟨0, .data⟩], none⟩,
  ⟨some 16, Op.call ⟨.value (.func 115), #[.tmp 15], #[9]⟩, 4, "tables.go:42", #[⟨1, .data⟩], none⟩,
  ⟨some 17, Op.unOp UnOp.not 4 (.tmp 16), 4, "tables.go:42", #[⟨2, .data⟩], none⟩,
  ⟨some 18, Op.move (.tmp 17), 4, "tables.go:42", #[⟨3, .data⟩, ⟨2, .chain⟩], none⟩,
  ⟨some 19, Op.move (.tmp 3), 3, "tables.go:42", #[⟨4, .guard⟩], some (4, false)⟩,
  ⟨some 20, Op.binOp BinOp.gtr 3 (.tmp 19) (.const (.int .i64 0)) 3, 4, "tables.go:42", #[⟨5, .data⟩, ⟨4, .guard⟩], some (4, false)⟩,
  ⟨some 21, Op.move (.tmp 20), 4, "tables.go:42", #[⟨6, .data⟩, ⟨4, .chain⟩, ⟨4, .guard⟩], some (4, false)⟩,
  ⟨some 22, Op.fieldAddr 37 (.tmp 4) 0, 0, "tables.go:42", #[⟨7, .guard⟩], some (7, true)⟩,
  ⟨some 23, Op.load 9 (.tmp 22), 9, "tables.go:42", #[⟨8, .data⟩, ⟨7, .guard⟩], some (7, true)⟩,
  ⟨some 24, Op.fieldAddr 69 (.tmp 1) 0, 0, "tables.go:42", #[⟨7, .guard⟩], some (7, true)⟩,
  ⟨some 25, Op.fieldAddr 30 (.tmp 24) 1, 0, "tables.go:42", #[⟨10, .data⟩, ⟨7, .guard⟩], some (7, true)⟩,
  ⟨some 26, Op.load 28 (.tmp 25), 28, "tables.go:42", #[⟨11, .data⟩, ⟨7, .guard⟩], some (7, true)⟩,
  ⟨some 27, Op.move (.tmp 3), 3, "tables.go:42", #[⟨7, .guard⟩], some (7, true)⟩,
  ⟨some 28, Op.binOp BinOp.sub 3 (.tmp 27) (.const (.int .i64 1)) 3, 3, "tables.go:42", #[⟨13, .data⟩, ⟨7, .guard⟩], some (7, true)⟩,
  ⟨some 29, Op.indexAddr 28 (.tmp 26) (.tmp 28), 0, "tables.go:42", #[⟨12, .data⟩, ⟨14, .data⟩, ⟨7, .guard⟩], some (7, true)⟩,
  ⟨some 30, Op.fieldAddr 37 (.tmp 29) 0, 0, "tables.go:42", #[⟨15, .data⟩, ⟨7, .guard⟩], some (7, true)⟩,
  ⟨some 31, Op.load 9 (.tmp 30), 9, "tables.go:42", #[⟨16, .data⟩, ⟨7, .guard⟩], some (7, true)⟩,
  ⟨some 32, Op.binOp BinOp.leq 9 (.tmp 23) (.tmp 31) 9, 4, "tables.go:42", #[⟨9, .data⟩, ⟨17, .data⟩, ⟨7, .guard⟩], some (7, true)⟩,
  ⟨some 33, Op.pick (.tmp 21) (.tmp 32) (.const (Value.bool false)), 4, "tables.go:42", #[⟨7, .data⟩, ⟨18, .data⟩, ⟨4, .guard⟩], some (4, false)⟩,
  ⟨some 34, Op.pick (.tmp 18) (.const (Value.bool true)) (.tmp 33), 4, "tables.go:42", #[⟨4, .data⟩, ⟨19, .data⟩], none⟩,
  ⟨some 35, Op.move (.tmp 34), 4, "tables.go:42", #[⟨20, .data⟩, ⟨7, .chain⟩], none⟩,
  ⟨some 36, Op.fieldAddr 37 (.tmp 4) 1, 0, "tables.go:42", #[⟨21, .guard⟩], some (21, false)⟩,
  ⟨some 37, Op.load 25 (.tmp 36), 25, "tables.go:42", #[⟨22, .data⟩, ⟨21, .guard⟩], some (21, false)⟩,
  ⟨some 38, Op.call { callee := Callee.builtin Builtin.len, args := #[.tmp 37], argTypes := #[25] }, 3, "tables.go:42", #[⟨23, .data⟩, ⟨21, .guard⟩], some (21, false)⟩,
  ⟨some 39, Op.binOp BinOp.gtr 3 (.tmp 38) (.const (.int .i64 2000)) 3, 4, "tables.go:42", #[⟨24, .data⟩, ⟨21, .guard⟩], some (21, false)⟩,
  ⟨some 40, Op.pick (.tmp 35) (.const (Value.bool true)) (.tmp 39), 4, "tables.go:42", #[⟨21, .data⟩, ⟨25, .data⟩], none⟩,
  ⟨some 41, Op.move (.tmp 40), 4, "tables.go:42", #[⟨26, .data⟩, ⟨21, .chain⟩], none⟩,
  ⟨some 42, Op.fieldAddr 37 (.tmp 4) 1, 0, "tables.go:42", #[⟨27, .guard⟩], some (27, false)⟩,
  ⟨some 43, Op.load 25 (.tmp 42), 25, "tables.go:42", #[⟨28, .data⟩, ⟨27, .guard⟩], some (27, false)⟩,
  ⟨some 44, Op.call { callee := Callee.value (.func 116), args := #[.tmp 43], argTypes := #[25] }, 4, "tables.go:42", #[⟨29, .data⟩, ⟨27, .chain⟩, ⟨27, .guard⟩], some (27, false)⟩,
  ⟨some 45, Op.unOp UnOp.not 4 (.tmp 44), 4, "tables.go:42", #[⟨30, .data⟩, ⟨27, .guard⟩], some (27, false)⟩,
  ⟨some 46, Op.pick (.tmp 41) (.const (Value.bool true)) (.tmp 45), 4, "tables.go:42", #[⟨27, .data⟩, ⟨31, .data⟩], none⟩]
def prBPre : Array Bool := #[true, true, true, true, true, true, true, true, true, true, true, true, true, true, true, true, true, true, true, true, true, true, true, true, true, true, true, true, true, true, true, true, true]
def prBK (s : ByteArray) (q : Option Addr) (bf _bt ni _n m c : Nat) : Nat → Kd
  | 0 => .val (.pointer (some ⟨bf, 0, none⟩))
  | 1 => .val (.string s)
  | 2 => .val (.bool true)
  | 3 => .val (.bool false)
  | 4 => .val (.bool false)
  | 5 => .val (.int .i64 (ni : Nat))
  | 6 => .val (.bool false)
  | 7 => .val (.bool false)
  | 8 => .val undef
  | 9 => .val undef
  | 10 => .val undef
  | 11 => .val undef
  | 12 => .val undef
  | 13 => .val undef
  | 14 => .val undef
  | 15 => .val undef
  | 16 => .val undef
  | 17 => .val undef
  | 18 => .val undef
  | 19 => .val (.bool false)
  | 20 => .val (.bool false)
  | 21 => .val (.bool false)
  | 22 => .val (.pointer (some ⟨bf, 1, none⟩))
  | 23 => .val (.slice q m c)
  | 24 => .val (.int .i64 (m : Nat))
  | 25 => .val (.bool true)
  | 26 => .val (.bool true)
  | 27 => .val (.bool true)
  | 28 => .val undef
  | 29 => .val undef
  | 30 => .val undef
  | 31 => .val undef
  | 32 => .val (.bool true)
  | _ => .val undef
theorem prB_slots (f : Nat → Value) : slotsOf prBOps prBPre f = [(14, f 0), (15, f 1), (16, f 2), (17, f 3), (18, f 4), (19, f 5), (20, f 6), (21, f 7), (22, f 8), (23, f 9), (24, f 10), (25, f 11), (26, f 12), (27, f 13), (28, f 14), (29, f 15), (30, f 16), (31, f 17), (32, f 18), (33, f 19), (34, f 20), (35, f 21), (36, f 22), (37, f 23), (38, f 24), (39, f 25), (40, f 26), (41, f 27), (42, f 28), (43, f 29), (44, f 30), (45, f 31), (46, f 32)] := by kernel_rfl
set_option maxHeartbeats 6400000 in
set_option maxRecDepth 100000 in
theorem prB_wp {Q : Exit → Act → World → Prop} {a0 : Act} {w : World} {z : Nat} (s : ByteArray) (q : Option Addr) (bf bt ni n m c : Nat) (hz : z ≤ w.drew.heap.size) (hsize : a0.tmps.size = 48) (h4 : a0.tmps[4]? = some (.pointer (some ⟨bf, 0, none⟩))) (h3 : a0.tmps[3]? = some (.int .i64 (ni : Nat))) (_h1 : a0.tmps[1]? = some (.pointer (some ⟨bt, 0, none⟩))) (hf0 : w.drew.cell? ⟨bf, 0, none⟩ = some (.string s)) (hf1 : w.drew.cell? ⟨bf, 1, none⟩ = some (.slice q m c)) (_hmI : (m : Int) ≤ 10000000000000) (_hnI : (n : Int) ≤ 10000000000000) (hnm : nameB s.data.toList = true) (hi0 : (ni : Int) ≤ 0) (hbig : 2000 < (m : Int)) 
    (fin : ∀ (f : Nat → Value) (y : World), (∀ j, j < 33 → prBPre.getD j false = true → Kd.ok z (prBK s q bf bt ni n m c j) (f j) y) → Below w.drew.heap.size w.drew y → Q .normal (putL a0 [(14, f 0), (15, f 1), (16, f 2), (17, f 3), (18, f 4), (19, f 5), (20, f 6), (21, f 7), (22, f 8), (23, f 9), (24, f 10), (25, f 11), (26, f 12), (27, f 13), (28, f 14), (29, f 15), (30, f 16), (31, f 17), (32, f 18), (33, f 19), (34, f 20), (35, f 21), (36, f 22), (37, f 23), (38, f 24), (39, f 25), (40, f 26), (41, f 27), (42, f 28), (43, f 29), (44, f 30), (45, f 31), (46, f 32)]) y) (id : Nat) :
    (Code.region id prBOps true).wp Tryz.prog Q a0 w := by
  refine wp_region_inv prBPre (fun j => Kd.ok z (prBK s q bf bt ni n m c j)) (fun x y => Below x.heap.size x y) 33 0 (by kernel_rfl) (by kernel_rfl) (by rw [hsize]; kernel_rfl) (by kernel_rfl) (by kernel_rfl) (Below.refl _ _) (fun _ _ _ h1 h2 => bl_trans h1 h2) (fun _ _ _ _ h1 h2 => Kd.below h1 h2) ?_ (fun f y h1 h2 => by rw [prB_slots]; exact any_end (by kernel_rfl) (fin f y h1 h2) 0)
  intro i o ho hp f a x hR hbase hdeps K hK
  have hi : i < 33 := by
    rcases Nat.lt_or_ge i 33 with h | h
    · exact h
    · have : prBOps.size ≤ i := h
      rw [Array.getElem?_eq_none this] at ho; cases ho
  have hzx : z ≤ x.heap.size := Nat.le_trans hz hR.size
  have dep : ∀ j, (o.after.any fun e => Region.binds .any e && e.on == j) = true → (∀ s, slotOf prBOps j = some s → a.tmps[s]? = some (f j)) ∧ Kd.ok z (prBK s q bf bt ni n m c j) (f j) x := by
    intro j h
    obtain ⟨e, he, h2⟩ := Array.any_eq_true'.1 h
    simp only [Bool.and_eq_true, beq_iff_eq] at h2
    obtain ⟨h3, rfl⟩ := h2
    exact hdeps e he h3
  have bas : ∀ s, ((List.range prBOps.size).all fun j => slotOf prBOps j != some s) = true → a.tmps[s]? = a0.tmps[s]? := by
    intro s h
    refine hbase s fun j hj _ e => ?_
    have h2 := (List.all_eq_true.1 h) j (List.mem_range.2 hj)
    rw [e] at h2; simp at h2
  match i, hi with
  | 0, _ =>
    obtain rfl : ⟨some 14, Op.fieldAddr 37 (.tmp 4) 0, 0, "tables.go:42", #[], none⟩ = o := Option.some.inj (show prBOps[0]? = some _ from ho)
    have qb4 := (bas 4 (by kernel_rfl)).trans h4
    have eb4 := eval_at qb4
    refine inv_val (G := Kd.ok z (prBK s q bf bt ni n m c 0)) (R := fun x y => Below x.heap.size x y) (wanted_none rfl) (v := (.pointer (some ⟨bf, 0, none⟩))) (w2 := x) (by simp only [execOp, eb4]; go_simp) hK rfl (Below.refl _ _)
  | 1, _ =>
    obtain rfl : ⟨some 15, Op.load 9 (.tmp 14), 9, "tables.go:42", #[⟨0, .data⟩], none⟩ = o := Option.some.inj (show prBOps[1]? = some _ from ho)
    obtain ⟨t0, g0⟩ := dep 0 (by kernel_rfl)
    have q0 := t0 14 (by rfl)
    have e0 := eval_at q0
    have w0 : f 0 = (.pointer (some ⟨bf, 0, none⟩)) := g0
    rw [w0] at e0
    have hc := keep_cellP hR hf0
    refine inv_val (G := Kd.ok z (prBK s q bf bt ni n m c 1)) (R := fun x y => Below x.heap.size x y) (wanted_none rfl) (v := (.string s)) (w2 := x) (by simp only [execOp, e0]; go_simp) hK rfl (Below.refl _ _)
  | 2, _ =>
    obtain rfl : ⟨some 16, Op.call ⟨.value (.func 115), #[.tmp 15], #[9]⟩, 4, "tables.go:42", #[⟨1, .data⟩], none⟩ = o := Option.some.inj (show prBOps[2]? = some _ from ho)
    obtain ⟨t1, g1⟩ := dep 1 (by kernel_rfl)
    have q1 := t1 15 (by rfl)
    have e1 := eval_at q1
    refine inv_call (G := Kd.ok z (prBK s q bf bt ni n m c 2)) (R := fun x y => Below x.heap.size x y) (wanted_none rfl) (F := 115) (args := #[f 1]) (by simp [go_sem, q1]) hK ?_
    exact k_named (w := x) g1 hnm hR.size
  | 3, _ =>
    obtain rfl : ⟨some 17, Op.unOp UnOp.not 4 (.tmp 16), 4, "tables.go:42", #[⟨2, .data⟩], none⟩ = o := Option.some.inj (show prBOps[3]? = some _ from ho)
    obtain ⟨t2, g2⟩ := dep 2 (by kernel_rfl)
    have q2 := t2 16 (by rfl)
    have e2 := eval_at q2
    have w2 : f 2 = (.bool true) := g2
    rw [w2] at e2
    refine inv_val (G := Kd.ok z (prBK s q bf bt ni n m c 3)) (R := fun x y => Below x.heap.size x y) (wanted_none rfl) (v := (.bool false)) (w2 := x) (by simp only [execOp, e2]; go_simp) hK rfl (Below.refl _ _)
  | 4, _ =>
    obtain rfl : ⟨some 18, Op.move (.tmp 17), 4, "tables.go:42", #[⟨3, .data⟩, ⟨2, .chain⟩], none⟩ = o := Option.some.inj (show prBOps[4]? = some _ from ho)
    obtain ⟨t3, g3⟩ := dep 3 (by kernel_rfl)
    have q3 := t3 17 (by rfl)
    have e3 := eval_at q3
    have w3 : f 3 = (.bool false) := g3
    rw [w3] at e3
    refine inv_val (G := Kd.ok z (prBK s q bf bt ni n m c 4)) (R := fun x y => Below x.heap.size x y) (wanted_none rfl) (v := (.bool false)) (w2 := x) (by simp only [execOp, e3]; go_simp) hK rfl (Below.refl _ _)
  | 5, _ =>
    obtain rfl : ⟨some 19, Op.move (.tmp 3), 3, "tables.go:42", #[⟨4, .guard⟩], some (4, false)⟩ = o := Option.some.inj (show prBOps[5]? = some _ from ho)
    obtain ⟨t4, g4⟩ := dep 4 (by kernel_rfl)
    have q4 := t4 18 (by rfl)
    have e4 := eval_at q4
    have v4 : f 4 = .bool false := g4
    have hw := wanted_some (ops := prBOps) (o := ⟨some 19, Op.move (.tmp 3), 3, "tables.go:42", #[⟨4, .guard⟩], some (4, false)⟩) (a := a) (j := 4) (s := 18) (b := false) (c := false) rfl (by rfl) (by rw [← v4]; exact q4)
    have qb3 := (bas 3 (by kernel_rfl)).trans h3
    have eb3 := eval_at qb3
    have w4 : f 4 = (.bool false) := g4
    refine inv_val (G := Kd.ok z (prBK s q bf bt ni n m c 5)) (R := fun x y => Below x.heap.size x y) (hw.trans (by decide)) (v := (.int .i64 (ni : Nat))) (w2 := x) (by simp only [execOp, eb3]; go_simp) hK rfl (Below.refl _ _)
  | 6, _ =>
    obtain rfl : ⟨some 20, Op.binOp BinOp.gtr 3 (.tmp 19) (.const (.int .i64 0)) 3, 4, "tables.go:42", #[⟨5, .data⟩, ⟨4, .guard⟩], some (4, false)⟩ = o := Option.some.inj (show prBOps[6]? = some _ from ho)
    obtain ⟨t4, g4⟩ := dep 4 (by kernel_rfl)
    have q4 := t4 18 (by rfl)
    have e4 := eval_at q4
    have v4 : f 4 = .bool false := g4
    have hw := wanted_some (ops := prBOps) (o := ⟨some 20, Op.binOp BinOp.gtr 3 (.tmp 19) (.const (.int .i64 0)) 3, 4, "tables.go:42", #[⟨5, .data⟩, ⟨4, .guard⟩], some (4, false)⟩) (a := a) (j := 4) (s := 18) (b := false) (c := false) rfl (by rfl) (by rw [← v4]; exact q4)
    obtain ⟨t5, g5⟩ := dep 5 (by kernel_rfl)
    have q5 := t5 19 (by rfl)
    have e5 := eval_at q5
    have w4 : f 4 = (.bool false) := g4
    have w5 : f 5 = (.int .i64 (ni : Nat)) := g5
    rw [w5] at e5
    refine inv_val (G := Kd.ok z (prBK s q bf bt ni n m c 6)) (R := fun x y => Below x.heap.size x y) (hw.trans (by decide)) (v := (.bool false)) (w2 := x) (by simp only [execOp, e5]; go_simp <;> omega) hK rfl (Below.refl _ _)
  | 7, _ =>
    obtain rfl : ⟨some 21, Op.move (.tmp 20), 4, "tables.go:42", #[⟨6, .data⟩, ⟨4, .chain⟩, ⟨4, .guard⟩], some (4, false)⟩ = o := Option.some.inj (show prBOps[7]? = some _ from ho)
    obtain ⟨t4, g4⟩ := dep 4 (by kernel_rfl)
    have q4 := t4 18 (by rfl)
    have e4 := eval_at q4
    have v4 : f 4 = .bool false := g4
    have hw := wanted_some (ops := prBOps) (o := ⟨some 21, Op.move (.tmp 20), 4, "tables.go:42", #[⟨6, .data⟩, ⟨4, .chain⟩, ⟨4, .guard⟩], some (4, false)⟩) (a := a) (j := 4) (s := 18) (b := false) (c := false) rfl (by rfl) (by rw [← v4]; exact q4)
    obtain ⟨t6, g6⟩ := dep 6 (by kernel_rfl)
    have q6 := t6 20 (by rfl)
    have e6 := eval_at q6
    have w4 : f 4 = (.bool false) := g4
    have w6 : f 6 = (.bool false) := g6
    rw [w6] at e6
    refine inv_val (G := Kd.ok z (prBK s q bf bt ni n m c 7)) (R := fun x y => Below x.heap.size x y) (hw.trans (by decide)) (v := (.bool false)) (w2 := x) (by simp only [execOp, e6]; go_simp) hK rfl (Below.refl _ _)
  | 8, _ =>
    obtain rfl : ⟨some 22, Op.fieldAddr 37 (.tmp 4) 0, 0, "tables.go:42", #[⟨7, .guard⟩], some (7, true)⟩ = o := Option.some.inj (show prBOps[8]? = some _ from ho)
    obtain ⟨t7, g7⟩ := dep 7 (by kernel_rfl)
    have q7 := t7 21 (by rfl)
    have e7 := eval_at q7
    have v7 : f 7 = .bool false := g7
    have hw := wanted_some (ops := prBOps) (o := ⟨some 22, Op.fieldAddr 37 (.tmp 4) 0, 0, "tables.go:42", #[⟨7, .guard⟩], some (7, true)⟩) (a := a) (j := 7) (s := 21) (b := true) (c := false) rfl (by rfl) (by rw [← v7]; exact q7)
    exact inv_left (G := Kd.ok z (prBK s q bf bt ni n m c 8)) (R := fun x y => Below x.heap.size x y) (hw.trans (by decide)) hK rfl (Below.refl _ _)
  | 9, _ =>
    obtain rfl : ⟨some 23, Op.load 9 (.tmp 22), 9, "tables.go:42", #[⟨8, .data⟩, ⟨7, .guard⟩], some (7, true)⟩ = o := Option.some.inj (show prBOps[9]? = some _ from ho)
    obtain ⟨t7, g7⟩ := dep 7 (by kernel_rfl)
    have q7 := t7 21 (by rfl)
    have e7 := eval_at q7
    have v7 : f 7 = .bool false := g7
    have hw := wanted_some (ops := prBOps) (o := ⟨some 23, Op.load 9 (.tmp 22), 9, "tables.go:42", #[⟨8, .data⟩, ⟨7, .guard⟩], some (7, true)⟩) (a := a) (j := 7) (s := 21) (b := true) (c := false) rfl (by rfl) (by rw [← v7]; exact q7)
    exact inv_left (G := Kd.ok z (prBK s q bf bt ni n m c 9)) (R := fun x y => Below x.heap.size x y) (hw.trans (by decide)) hK rfl (Below.refl _ _)
  | 10, _ =>
    obtain rfl : ⟨some 24, Op.fieldAddr 69 (.tmp 1) 0, 0, "tables.go:42", #[⟨7, .guard⟩], some (7, true)⟩ = o := Option.some.inj (show prBOps[10]? = some _ from ho)
    obtain ⟨t7, g7⟩ := dep 7 (by kernel_rfl)
    have q7 := t7 21 (by rfl)
    have e7 := eval_at q7
    have v7 : f 7 = .bool false := g7
    have hw := wanted_some (ops := prBOps) (o := ⟨some 24, Op.fieldAddr 69 (.tmp 1) 0, 0, "tables.go:42", #[⟨7, .guard⟩], some (7, true)⟩) (a := a) (j := 7) (s := 21) (b := true) (c := false) rfl (by rfl) (by rw [← v7]; exact q7)
    exact inv_left (G := Kd.ok z (prBK s q bf bt ni n m c 10)) (R := fun x y => Below x.heap.size x y) (hw.trans (by decide)) hK rfl (Below.refl _ _)
  | 11, _ =>
    obtain rfl : ⟨some 25, Op.fieldAddr 30 (.tmp 24) 1, 0, "tables.go:42", #[⟨10, .data⟩, ⟨7, .guard⟩], some (7, true)⟩ = o := Option.some.inj (show prBOps[11]? = some _ from ho)
    obtain ⟨t7, g7⟩ := dep 7 (by kernel_rfl)
    have q7 := t7 21 (by rfl)
    have e7 := eval_at q7
    have v7 : f 7 = .bool false := g7
    have hw := wanted_some (ops := prBOps) (o := ⟨some 25, Op.fieldAddr 30 (.tmp 24) 1, 0, "tables.go:42", #[⟨10, .data⟩, ⟨7, .guard⟩], some (7, true)⟩) (a := a) (j := 7) (s := 21) (b := true) (c := false) rfl (by rfl) (by rw [← v7]; exact q7)
    exact inv_left (G := Kd.ok z (prBK s q bf bt ni n m c 11)) (R := fun x y => Below x.heap.size x y) (hw.trans (by decide)) hK rfl (Below.refl _ _)
  | 12, _ =>
    obtain rfl : ⟨some 26, Op.load 28 (.tmp 25), 28, "tables.go:42", #[⟨11, .data⟩, ⟨7, .guard⟩], some (7, true)⟩ = o := Option.some.inj (show prBOps[12]? = some _ from ho)
    obtain ⟨t7, g7⟩ := dep 7 (by kernel_rfl)
    have q7 := t7 21 (by rfl)
    have e7 := eval_at q7
    have v7 : f 7 = .bool false := g7
    have hw := wanted_some (ops := prBOps) (o := ⟨some 26, Op.load 28 (.tmp 25), 28, "tables.go:42", #[⟨11, .data⟩, ⟨7, .guard⟩], some (7, true)⟩) (a := a) (j := 7) (s := 21) (b := true) (c := false) rfl (by rfl) (by rw [← v7]; exact q7)
    exact inv_left (G := Kd.ok z (prBK s q bf bt ni n m c 12)) (R := fun x y => Below x.heap.size x y) (hw.trans (by decide)) hK rfl (Below.refl _ _)
  | 13, _ =>
    obtain rfl : ⟨some 27, Op.move (.tmp 3), 3, "tables.go:42", #[⟨7, .guard⟩], some (7, true)⟩ = o := Option.some.inj (show prBOps[13]? = some _ from ho)
    obtain ⟨t7, g7⟩ := dep 7 (by kernel_rfl)
    have q7 := t7 21 (by rfl)
    have e7 := eval_at q7
    have v7 : f 7 = .bool false := g7
    have hw := wanted_some (ops := prBOps) (o := ⟨some 27, Op.move (.tmp 3), 3, "tables.go:42", #[⟨7, .guard⟩], some (7, true)⟩) (a := a) (j := 7) (s := 21) (b := true) (c := false) rfl (by rfl) (by rw [← v7]; exact q7)
    exact inv_left (G := Kd.ok z (prBK s q bf bt ni n m c 13)) (R := fun x y => Below x.heap.size x y) (hw.trans (by decide)) hK rfl (Below.refl _ _)
  | 14, _ =>
    obtain rfl : ⟨some 28, Op.binOp BinOp.sub 3 (.tmp 27) (.const (.int .i64 1)) 3, 3, "tables.go:42", #[⟨13, .data⟩, ⟨7, .guard⟩], some (7, true)⟩ = o := Option.some.inj (show prBOps[14]? = some _ from ho)
    obtain ⟨t7, g7⟩ := dep 7 (by kernel_rfl)
    have q7 := t7 21 (by rfl)
    have e7 := eval_at q7
    have v7 : f 7 = .bool false := g7
    have hw := wanted_some (ops := prBOps) (o := ⟨some 28, Op.binOp BinOp.sub 3 (.tmp 27) (.const (.int .i64 1)) 3, 3, "tables.go:42", #[⟨13, .data⟩, ⟨7, .guard⟩], some (7, true)⟩) (a := a) (j := 7) (s := 21) (b := true) (c := false) rfl (by rfl) (by rw [← v7]; exact q7)
    exact inv_left (G := Kd.ok z (prBK s q bf bt ni n m c 14)) (R := fun x y => Below x.heap.size x y) (hw.trans (by decide)) hK rfl (Below.refl _ _)
  | 15, _ =>
    obtain rfl : ⟨some 29, Op.indexAddr 28 (.tmp 26) (.tmp 28), 0, "tables.go:42", #[⟨12, .data⟩, ⟨14, .data⟩, ⟨7, .guard⟩], some (7, true)⟩ = o := Option.some.inj (show prBOps[15]? = some _ from ho)
    obtain ⟨t7, g7⟩ := dep 7 (by kernel_rfl)
    have q7 := t7 21 (by rfl)
    have e7 := eval_at q7
    have v7 : f 7 = .bool false := g7
    have hw := wanted_some (ops := prBOps) (o := ⟨some 29, Op.indexAddr 28 (.tmp 26) (.tmp 28), 0, "tables.go:42", #[⟨12, .data⟩, ⟨14, .data⟩, ⟨7, .guard⟩], some (7, true)⟩) (a := a) (j := 7) (s := 21) (b := true) (c := false) rfl (by rfl) (by rw [← v7]; exact q7)
    exact inv_left (G := Kd.ok z (prBK s q bf bt ni n m c 15)) (R := fun x y => Below x.heap.size x y) (hw.trans (by decide)) hK rfl (Below.refl _ _)
  | 16, _ =>
    obtain rfl : ⟨some 30, Op.fieldAddr 37 (.tmp 29) 0, 0, "tables.go:42", #[⟨15, .data⟩, ⟨7, .guard⟩], some (7, true)⟩ = o := Option.some.inj (show prBOps[16]? = some _ from ho)
    obtain ⟨t7, g7⟩ := dep 7 (by kernel_rfl)
    have q7 := t7 21 (by rfl)
    have e7 := eval_at q7
    have v7 : f 7 = .bool false := g7
    have hw := wanted_some (ops := prBOps) (o := ⟨some 30, Op.fieldAddr 37 (.tmp 29) 0, 0, "tables.go:42", #[⟨15, .data⟩, ⟨7, .guard⟩], some (7, true)⟩) (a := a) (j := 7) (s := 21) (b := true) (c := false) rfl (by rfl) (by rw [← v7]; exact q7)
    exact inv_left (G := Kd.ok z (prBK s q bf bt ni n m c 16)) (R := fun x y => Below x.heap.size x y) (hw.trans (by decide)) hK rfl (Below.refl _ _)
  | 17, _ =>
    obtain rfl : ⟨some 31, Op.load 9 (.tmp 30), 9, "tables.go:42", #[⟨16, .data⟩, ⟨7, .guard⟩], some (7, true)⟩ = o := Option.some.inj (show prBOps[17]? = some _ from ho)
    obtain ⟨t7, g7⟩ := dep 7 (by kernel_rfl)
    have q7 := t7 21 (by rfl)
    have e7 := eval_at q7
    have v7 : f 7 = .bool false := g7
    have hw := wanted_some (ops := prBOps) (o := ⟨some 31, Op.load 9 (.tmp 30), 9, "tables.go:42", #[⟨16, .data⟩, ⟨7, .guard⟩], some (7, true)⟩) (a := a) (j := 7) (s := 21) (b := true) (c := false) rfl (by rfl) (by rw [← v7]; exact q7)
    exact inv_left (G := Kd.ok z (prBK s q bf bt ni n m c 17)) (R := fun x y => Below x.heap.size x y) (hw.trans (by decide)) hK rfl (Below.refl _ _)
  | 18, _ =>
    obtain rfl : ⟨some 32, Op.binOp BinOp.leq 9 (.tmp 23) (.tmp 31) 9, 4, "tables.go:42", #[⟨9, .data⟩, ⟨17, .data⟩, ⟨7, .guard⟩], some (7, true)⟩ = o := Option.some.inj (show prBOps[18]? = some _ from ho)
    obtain ⟨t7, g7⟩ := dep 7 (by kernel_rfl)
    have q7 := t7 21 (by rfl)
    have e7 := eval_at q7
    have v7 : f 7 = .bool false := g7
    have hw := wanted_some (ops := prBOps) (o := ⟨some 32, Op.binOp BinOp.leq 9 (.tmp 23) (.tmp 31) 9, 4, "tables.go:42", #[⟨9, .data⟩, ⟨17, .data⟩, ⟨7, .guard⟩], some (7, true)⟩) (a := a) (j := 7) (s := 21) (b := true) (c := false) rfl (by rfl) (by rw [← v7]; exact q7)
    exact inv_left (G := Kd.ok z (prBK s q bf bt ni n m c 18)) (R := fun x y => Below x.heap.size x y) (hw.trans (by decide)) hK rfl (Below.refl _ _)
  | 19, _ =>
    obtain rfl : ⟨some 33, Op.pick (.tmp 21) (.tmp 32) (.const (Value.bool false)), 4, "tables.go:42", #[⟨7, .data⟩, ⟨18, .data⟩, ⟨4, .guard⟩], some (4, false)⟩ = o := Option.some.inj (show prBOps[19]? = some _ from ho)
    obtain ⟨t4, g4⟩ := dep 4 (by kernel_rfl)
    have q4 := t4 18 (by rfl)
    have e4 := eval_at q4
    have v4 : f 4 = .bool false := g4
    have hw := wanted_some (ops := prBOps) (o := ⟨some 33, Op.pick (.tmp 21) (.tmp 32) (.const (Value.bool false)), 4, "tables.go:42", #[⟨7, .data⟩, ⟨18, .data⟩, ⟨4, .guard⟩], some (4, false)⟩) (a := a) (j := 4) (s := 18) (b := false) (c := false) rfl (by rfl) (by rw [← v4]; exact q4)
    obtain ⟨t7, g7⟩ := dep 7 (by kernel_rfl)
    have q7 := t7 21 (by rfl)
    have e7 := eval_at q7
    obtain ⟨t18, g18⟩ := dep 18 (by kernel_rfl)
    have q18 := t18 32 (by rfl)
    have e18 := eval_at q18
    have w4 : f 4 = (.bool false) := g4
    have w7 : f 7 = (.bool false) := g7
    have w18 : f 18 = undef := g18
    rw [w7] at e7
    refine inv_val (G := Kd.ok z (prBK s q bf bt ni n m c 19)) (R := fun x y => Below x.heap.size x y) (hw.trans (by decide)) (v := (.bool false)) (w2 := x) (by simp only [execOp, e7, e18]; go_simp) hK rfl (Below.refl _ _)
  | 20, _ =>
    obtain rfl : ⟨some 34, Op.pick (.tmp 18) (.const (Value.bool true)) (.tmp 33), 4, "tables.go:42", #[⟨4, .data⟩, ⟨19, .data⟩], none⟩ = o := Option.some.inj (show prBOps[20]? = some _ from ho)
    obtain ⟨t4, g4⟩ := dep 4 (by kernel_rfl)
    have q4 := t4 18 (by rfl)
    have e4 := eval_at q4
    obtain ⟨t19, g19⟩ := dep 19 (by kernel_rfl)
    have q19 := t19 33 (by rfl)
    have e19 := eval_at q19
    have w4 : f 4 = (.bool false) := g4
    have w19 : f 19 = (.bool false) := g19
    rw [w4] at e4
    rw [w19] at e19
    refine inv_val (G := Kd.ok z (prBK s q bf bt ni n m c 20)) (R := fun x y => Below x.heap.size x y) (wanted_none rfl) (v := (.bool false)) (w2 := x) (by simp only [execOp, e4, e19]; go_simp) hK rfl (Below.refl _ _)
  | 21, _ =>
    obtain rfl : ⟨some 35, Op.move (.tmp 34), 4, "tables.go:42", #[⟨20, .data⟩, ⟨7, .chain⟩], none⟩ = o := Option.some.inj (show prBOps[21]? = some _ from ho)
    obtain ⟨t20, g20⟩ := dep 20 (by kernel_rfl)
    have q20 := t20 34 (by rfl)
    have e20 := eval_at q20
    have w20 : f 20 = (.bool false) := g20
    rw [w20] at e20
    refine inv_val (G := Kd.ok z (prBK s q bf bt ni n m c 21)) (R := fun x y => Below x.heap.size x y) (wanted_none rfl) (v := (.bool false)) (w2 := x) (by simp only [execOp, e20]; go_simp) hK rfl (Below.refl _ _)
  | 22, _ =>
    obtain rfl : ⟨some 36, Op.fieldAddr 37 (.tmp 4) 1, 0, "tables.go:42", #[⟨21, .guard⟩], some (21, false)⟩ = o := Option.some.inj (show prBOps[22]? = some _ from ho)
    obtain ⟨t21, g21⟩ := dep 21 (by kernel_rfl)
    have q21 := t21 35 (by rfl)
    have e21 := eval_at q21
    have v21 : f 21 = .bool false := g21
    have hw := wanted_some (ops := prBOps) (o := ⟨some 36, Op.fieldAddr 37 (.tmp 4) 1, 0, "tables.go:42", #[⟨21, .guard⟩], some (21, false)⟩) (a := a) (j := 21) (s := 35) (b := false) (c := false) rfl (by rfl) (by rw [← v21]; exact q21)
    have qb4 := (bas 4 (by kernel_rfl)).trans h4
    have eb4 := eval_at qb4
    have w21 : f 21 = (.bool false) := g21
    refine inv_val (G := Kd.ok z (prBK s q bf bt ni n m c 22)) (R := fun x y => Below x.heap.size x y) (hw.trans (by decide)) (v := (.pointer (some ⟨bf, 1, none⟩))) (w2 := x) (by simp only [execOp, eb4]; go_simp) hK rfl (Below.refl _ _)
  | 23, _ =>
    obtain rfl : ⟨some 37, Op.load 25 (.tmp 36), 25, "tables.go:42", #[⟨22, .data⟩, ⟨21, .guard⟩], some (21, false)⟩ = o := Option.some.inj (show prBOps[23]? = some _ from ho)
    obtain ⟨t21, g21⟩ := dep 21 (by kernel_rfl)
    have q21 := t21 35 (by rfl)
    have e21 := eval_at q21
    have v21 : f 21 = .bool false := g21
    have hw := wanted_some (ops := prBOps) (o := ⟨some 37, Op.load 25 (.tmp 36), 25, "tables.go:42", #[⟨22, .data⟩, ⟨21, .guard⟩], some (21, false)⟩) (a := a) (j := 21) (s := 35) (b := false) (c := false) rfl (by rfl) (by rw [← v21]; exact q21)
    obtain ⟨t22, g22⟩ := dep 22 (by kernel_rfl)
    have q22 := t22 36 (by rfl)
    have e22 := eval_at q22
    have w22 : f 22 = (.pointer (some ⟨bf, 1, none⟩)) := g22
    rw [w22] at e22
    have hc := keep_cellP hR hf1
    refine inv_val (G := Kd.ok z (prBK s q bf bt ni n m c 23)) (R := fun x y => Below x.heap.size x y) (hw.trans (by decide)) (v := (.slice q m c)) (w2 := x) (by simp only [execOp, e22]; go_simp) hK rfl (Below.refl _ _)
  | 24, _ =>
    obtain rfl : ⟨some 38, Op.call { callee := Callee.builtin Builtin.len, args := #[.tmp 37], argTypes := #[25] }, 3, "tables.go:42", #[⟨23, .data⟩, ⟨21, .guard⟩], some (21, false)⟩ = o := Option.some.inj (show prBOps[24]? = some _ from ho)
    obtain ⟨t21, g21⟩ := dep 21 (by kernel_rfl)
    have q21 := t21 35 (by rfl)
    have e21 := eval_at q21
    have v21 : f 21 = .bool false := g21
    have hw := wanted_some (ops := prBOps) (o := ⟨some 38, Op.call { callee := Callee.builtin Builtin.len, args := #[.tmp 37], argTypes := #[25] }, 3, "tables.go:42", #[⟨23, .data⟩, ⟨21, .guard⟩], some (21, false)⟩) (a := a) (j := 21) (s := 35) (b := false) (c := false) rfl (by rfl) (by rw [← v21]; exact q21)
    obtain ⟨t23, g23⟩ := dep 23 (by kernel_rfl)
    have q23 := t23 37 (by rfl)
    have e23 := eval_at q23
    have w21 : f 21 = (.bool false) := g21
    have w23 : f 23 = (.slice q m c) := g23
    rw [w23] at e23
    refine inv_val (G := Kd.ok z (prBK s q bf bt ni n m c 24)) (R := fun x y => Below x.heap.size x y) (hw.trans (by decide)) (v := (.int .i64 (m : Nat))) (w2 := x) (by simp only [execOp]; go_simp) hK rfl (Below.refl _ _)
  | 25, _ =>
    obtain rfl : ⟨some 39, Op.binOp BinOp.gtr 3 (.tmp 38) (.const (.int .i64 2000)) 3, 4, "tables.go:42", #[⟨24, .data⟩, ⟨21, .guard⟩], some (21, false)⟩ = o := Option.some.inj (show prBOps[25]? = some _ from ho)
    obtain ⟨t21, g21⟩ := dep 21 (by kernel_rfl)
    have q21 := t21 35 (by rfl)
    have e21 := eval_at q21
    have v21 : f 21 = .bool false := g21
    have hw := wanted_some (ops := prBOps) (o := ⟨some 39, Op.binOp BinOp.gtr 3 (.tmp 38) (.const (.int .i64 2000)) 3, 4, "tables.go:42", #[⟨24, .data⟩, ⟨21, .guard⟩], some (21, false)⟩) (a := a) (j := 21) (s := 35) (b := false) (c := false) rfl (by rfl) (by rw [← v21]; exact q21)
    obtain ⟨t24, g24⟩ := dep 24 (by kernel_rfl)
    have q24 := t24 38 (by rfl)
    have e24 := eval_at q24
    have w21 : f 21 = (.bool false) := g21
    have w24 : f 24 = (.int .i64 (m : Nat)) := g24
    rw [w24] at e24
    refine inv_val (G := Kd.ok z (prBK s q bf bt ni n m c 25)) (R := fun x y => Below x.heap.size x y) (hw.trans (by decide)) (v := (.bool true)) (w2 := x) (by simp only [execOp, e24]; go_simp <;> omega) hK rfl (Below.refl _ _)
  | 26, _ =>
    obtain rfl : ⟨some 40, Op.pick (.tmp 35) (.const (Value.bool true)) (.tmp 39), 4, "tables.go:42", #[⟨21, .data⟩, ⟨25, .data⟩], none⟩ = o := Option.some.inj (show prBOps[26]? = some _ from ho)
    obtain ⟨t21, g21⟩ := dep 21 (by kernel_rfl)
    have q21 := t21 35 (by rfl)
    have e21 := eval_at q21
    obtain ⟨t25, g25⟩ := dep 25 (by kernel_rfl)
    have q25 := t25 39 (by rfl)
    have e25 := eval_at q25
    have w21 : f 21 = (.bool false) := g21
    have w25 : f 25 = (.bool true) := g25
    rw [w21] at e21
    rw [w25] at e25
    refine inv_val (G := Kd.ok z (prBK s q bf bt ni n m c 26)) (R := fun x y => Below x.heap.size x y) (wanted_none rfl) (v := (.bool true)) (w2 := x) (by simp only [execOp, e21, e25]; go_simp) hK rfl (Below.refl _ _)
  | 27, _ =>
    obtain rfl : ⟨some 41, Op.move (.tmp 40), 4, "tables.go:42", #[⟨26, .data⟩, ⟨21, .chain⟩], none⟩ = o := Option.some.inj (show prBOps[27]? = some _ from ho)
    obtain ⟨t26, g26⟩ := dep 26 (by kernel_rfl)
    have q26 := t26 40 (by rfl)
    have e26 := eval_at q26
    have w26 : f 26 = (.bool true) := g26
    rw [w26] at e26
    refine inv_val (G := Kd.ok z (prBK s q bf bt ni n m c 27)) (R := fun x y => Below x.heap.size x y) (wanted_none rfl) (v := (.bool true)) (w2 := x) (by simp only [execOp, e26]; go_simp) hK rfl (Below.refl _ _)
  | 28, _ =>
    obtain rfl : ⟨some 42, Op.fieldAddr 37 (.tmp 4) 1, 0, "tables.go:42", #[⟨27, .guard⟩], some (27, false)⟩ = o := Option.some.inj (show prBOps[28]? = some _ from ho)
    obtain ⟨t27, g27⟩ := dep 27 (by kernel_rfl)
    have q27 := t27 41 (by rfl)
    have e27 := eval_at q27
    have v27 : f 27 = .bool true := g27
    have hw := wanted_some (ops := prBOps) (o := ⟨some 42, Op.fieldAddr 37 (.tmp 4) 1, 0, "tables.go:42", #[⟨27, .guard⟩], some (27, false)⟩) (a := a) (j := 27) (s := 41) (b := false) (c := true) rfl (by rfl) (by rw [← v27]; exact q27)
    exact inv_left (G := Kd.ok z (prBK s q bf bt ni n m c 28)) (R := fun x y => Below x.heap.size x y) (hw.trans (by decide)) hK rfl (Below.refl _ _)
  | 29, _ =>
    obtain rfl : ⟨some 43, Op.load 25 (.tmp 42), 25, "tables.go:42", #[⟨28, .data⟩, ⟨27, .guard⟩], some (27, false)⟩ = o := Option.some.inj (show prBOps[29]? = some _ from ho)
    obtain ⟨t27, g27⟩ := dep 27 (by kernel_rfl)
    have q27 := t27 41 (by rfl)
    have e27 := eval_at q27
    have v27 : f 27 = .bool true := g27
    have hw := wanted_some (ops := prBOps) (o := ⟨some 43, Op.load 25 (.tmp 42), 25, "tables.go:42", #[⟨28, .data⟩, ⟨27, .guard⟩], some (27, false)⟩) (a := a) (j := 27) (s := 41) (b := false) (c := true) rfl (by rfl) (by rw [← v27]; exact q27)
    exact inv_left (G := Kd.ok z (prBK s q bf bt ni n m c 29)) (R := fun x y => Below x.heap.size x y) (hw.trans (by decide)) hK rfl (Below.refl _ _)
  | 30, _ =>
    obtain rfl : ⟨some 44, Op.call { callee := Callee.value (.func 116), args := #[.tmp 43], argTypes := #[25] }, 4, "tables.go:42", #[⟨29, .data⟩, ⟨27, .chain⟩, ⟨27, .guard⟩], some (27, false)⟩ = o := Option.some.inj (show prBOps[30]? = some _ from ho)
    obtain ⟨t27, g27⟩ := dep 27 (by kernel_rfl)
    have q27 := t27 41 (by rfl)
    have e27 := eval_at q27
    have v27 : f 27 = .bool true := g27
    have hw := wanted_some (ops := prBOps) (o := ⟨some 44, Op.call { callee := Callee.value (.func 116), args := #[.tmp 43], argTypes := #[25] }, 4, "tables.go:42", #[⟨29, .data⟩, ⟨27, .chain⟩, ⟨27, .guard⟩], some (27, false)⟩) (a := a) (j := 27) (s := 41) (b := false) (c := true) rfl (by rfl) (by rw [← v27]; exact q27)
    exact inv_left (G := Kd.ok z (prBK s q bf bt ni n m c 30)) (R := fun x y => Below x.heap.size x y) (hw.trans (by decide)) hK rfl (Below.refl _ _)
  | 31, _ =>
    obtain rfl : ⟨some 45, Op.unOp UnOp.not 4 (.tmp 44), 4, "tables.go:42", #[⟨30, .data⟩, ⟨27, .guard⟩], some (27, false)⟩ = o := Option.some.inj (show prBOps[31]? = some _ from ho)
    obtain ⟨t27, g27⟩ := dep 27 (by kernel_rfl)
    have q27 := t27 41 (by rfl)
    have e27 := eval_at q27
    have v27 : f 27 = .bool true := g27
    have hw := wanted_some (ops := prBOps) (o := ⟨some 45, Op.unOp UnOp.not 4 (.tmp 44), 4, "tables.go:42", #[⟨30, .data⟩, ⟨27, .guard⟩], some (27, false)⟩) (a := a) (j := 27) (s := 41) (b := false) (c := true) rfl (by rfl) (by rw [← v27]; exact q27)
    exact inv_left (G := Kd.ok z (prBK s q bf bt ni n m c 31)) (R := fun x y => Below x.heap.size x y) (hw.trans (by decide)) hK rfl (Below.refl _ _)
  | 32, _ =>
    obtain rfl : ⟨some 46, Op.pick (.tmp 41) (.const (Value.bool true)) (.tmp 45), 4, "tables.go:42", #[⟨27, .data⟩, ⟨31, .data⟩], none⟩ = o := Option.some.inj (show prBOps[32]? = some _ from ho)
    obtain ⟨t27, g27⟩ := dep 27 (by kernel_rfl)
    have q27 := t27 41 (by rfl)
    have e27 := eval_at q27
    obtain ⟨t31, g31⟩ := dep 31 (by kernel_rfl)
    have q31 := t31 45 (by rfl)
    have e31 := eval_at q31
    have w27 : f 27 = (.bool true) := g27
    have w31 : f 31 = undef := g31
    rw [w27] at e27
    refine inv_val (G := Kd.ok z (prBK s q bf bt ni n m c 32)) (R := fun x y => Below x.heap.size x y) (wanted_none rfl) (v := (.bool true)) (w2 := x) (by simp only [execOp, e27, e31]; go_simp) hK rfl (Below.refl _ _)

def prCOps : Array Oper := #[⟨some 14, Op.fieldAddr 37 (.tmp 4) 0, 0, "tables.go:42", #[], none⟩,
  ⟨some 15, Op.load 9 (.tmp 14), 9, "tables.go:42", #[⟨0, .data⟩], none⟩,
  ⟨some 16, Op.call ⟨.value (.func 115), #[.tmp 15], #[9]⟩, 4, "tables.go:42", #[⟨1, .data⟩], none⟩,
  ⟨some 17, Op.unOp UnOp.not 4 (.tmp 16), 4, "tables.go:42", #[⟨2, .data⟩], none⟩,
  ⟨some 18, Op.move (.tmp 17), 4, "tables.go:42", #[⟨3, .data⟩, ⟨2, .chain⟩], none⟩,
  ⟨some 19, Op.move (.tmp 3), 3, "tables.go:42", #[⟨4, .guard⟩], some (4, false)⟩,
  ⟨some 20, Op.binOp BinOp.gtr 3 (.tmp 19) (.const (.int .i64 0)) 3, 4, "tables.go:42", #[⟨5, .data⟩, ⟨4, .guard⟩], some (4, false)⟩,
  ⟨some 21, Op.move (.tmp 20), 4, "tables.go:42", #[⟨6, .data⟩, ⟨4, .chain⟩, ⟨4, .guard⟩], some (4, false)⟩,
  ⟨some 22, Op.fieldAddr 37 (.tmp 4) 0, 0, "tables.go:42", #[⟨7, .guard⟩], some (7, true)⟩,
  ⟨some 23, Op.load 9 (.tmp 22), 9, "tables.go:42", #[⟨8, .data⟩, ⟨7, .guard⟩], some (7, true)⟩,
  ⟨some 24, Op.fieldAddr 69 (.tmp 1) 0, 0, "tables.go:42", #[⟨7, .guard⟩], some (7, true)⟩,
  ⟨some 25, Op.fieldAddr 30 (.tmp 24) 1, 0, "tables.go:42", #[⟨10, .data⟩, ⟨7, .guard⟩], some (7, true)⟩,
  ⟨some 26, Op.load 28 (.tmp 25), 28, "tables.go:42", #[⟨11, .data⟩, ⟨7, .guard⟩], some (7, true)⟩,
  ⟨some 27, Op.move (.tmp 3), 3, "tables.go:42", #[⟨7, .guard⟩], some (7, true)⟩,
  ⟨some 28, Op.binOp BinOp.sub 3 (.tmp 27) (.const (.int .i64 1)) 3, 3, "tables.go:42", #[⟨13, .data⟩, ⟨7, .guard⟩], some (7, true)⟩,
  ⟨some 29, Op.indexAddr 28 (.tmp 26) (.tmp 28), 0, "tables.go:42", #[⟨12, .data⟩, ⟨14, .data⟩, ⟨7, .guard⟩], some (7, true)⟩,
  ⟨some 30, Op.fieldAddr 37 (.tmp 29) 0, 0, "tables.go:42", #[⟨15, .data⟩, ⟨7, .guard⟩], some (7, true)⟩,
  ⟨some 31, Op.load 9 (.tmp 30), 9, "tables.go:42", #[⟨16, .data⟩, ⟨7, .guard⟩], some (7, true)⟩,
  ⟨some 32, Op.binOp BinOp.leq 9 (.tmp 23) (.tmp 31) 9, 4, "tables.go:42", #[⟨9, .data⟩, ⟨17, .data⟩, ⟨7, .guard⟩], some (7, true)⟩,
  ⟨some 33, Op.pick (.tmp 21) (.tmp 32) (.const (Value.bool false)), 4, "tables.go:42", #[⟨7, .data⟩, ⟨18, .data⟩, ⟨4, .guard⟩], some (4, false)⟩,
  ⟨some 34, Op.pick (.tmp 18) (.const (Value.bool true)) (.tmp 33), 4, "tables.go:42", #[⟨4, .data⟩, ⟨19, .data⟩], none⟩,
  ⟨some 35, Op.move (.tmp 34), 4, "tables.go:42", #[⟨20, .data⟩, ⟨7, .chain⟩], none⟩,
  ⟨some 36, Op.fieldAddr 37 (.tmp 4) 1, 0, "tables.go:42", #[⟨21, .guard⟩], some (21, false)⟩,
  ⟨some 37, Op.load 25 (.tmp 36), 25, "tables.go:42", #[⟨22, .data⟩, ⟨21, .guard⟩], some (21, false)⟩,
  ⟨some 38, Op.call { callee := Callee.builtin Builtin.len, args := #[.tmp 37], argTypes := #[25] }, 3, "tables.go:42", #[⟨23, .data⟩, ⟨21, .guard⟩], some (21, false)⟩,
  ⟨some 39, Op.binOp BinOp.gtr 3 (.tmp 38) (.const (.int .i64 2000)) 3, 4, "tables.go:42", #[⟨24, .data⟩, ⟨21, .guard⟩], some (21, false)⟩,
  ⟨some 40, Op.pick (.tmp 35) (.const (Value.bool true)) (.tmp 39), 4, "tables.go:42", #[⟨21, .data⟩, ⟨25, .data⟩], none⟩,
  ⟨some 41, Op.move (.tmp 40), 4, "tables.go:42", #[⟨26, .data⟩, ⟨21, .chain⟩], none⟩,
  ⟨some 42, Op.fieldAddr 37 (.tmp 4) 1, 0, "tables.go:42", #[⟨27, .guard⟩], some (27, false)⟩,
  ⟨some 43, Op.load 25 (.tmp 42), 25, "tables.go:42", #[⟨28, .data⟩, ⟨27, .guard⟩], some (27, false)⟩,
  ⟨some 44, Op.call { callee := Callee.value (.func 116), args := #[.tmp 43], argTypes := #[25] }, 4, "tables.go:42", #[⟨29, .data⟩, ⟨27, .chain⟩, ⟨27, .guard⟩], some (27, false)⟩,
  ⟨some 45, Op.unOp UnOp.not 4 (.tmp 44), 4, "tables.go:42", #[⟨30, .data⟩, ⟨27, .guard⟩], some (27, false)⟩,
  ⟨some 46, Op.pick (.tmp 41) (.const (Value.bool true)) (.tmp 45), 4, "tables.go:42", #[⟨27, .data⟩, ⟨31, .data⟩], none⟩]
def prCPre : Array Bool := #[true, true, true, true, true, true, true, true, true, true, true, true, true, true, true, true, true, true, true, true, true, true, true, true, true, true, true, true, true, true, true, true, true]
def prCK (s : ByteArray) (q : Option Addr) (bf _bt ni _n m c : Nat) (r : Bool) : Nat → Kd
  | 0 => .val (.pointer (some ⟨bf, 0, none⟩))
  | 1 => .val (.string s)
  | 2 => .val (.bool true)
  | 3 => .val (.bool false)
  | 4 => .val (.bool false)
  | 5 => .val (.int .i64 (ni : Nat))
  | 6 => .val (.bool false)
  | 7 => .val (.bool false)
  | 8 => .val undef
  | 9 => .val undef
  | 10 => .val undef
  | 11 => .val undef
  | 12 => .val undef
  | 13 => .val undef
  | 14 => .val undef
  | 15 => .val undef
  | 16 => .val undef
  | 17 => .val undef
  | 18 => .val undef
  | 19 => .val (.bool false)
  | 20 => .val (.bool false)
  | 21 => .val (.bool false)
  | 22 => .val (.pointer (some ⟨bf, 1, none⟩))
  | 23 => .val (.slice q m c)
  | 24 => .val (.int .i64 (m : Nat))
  | 25 => .val (.bool false)
  | 26 => .val (.bool false)
  | 27 => .val (.bool false)
  | 28 => .val (.pointer (some ⟨bf, 1, none⟩))
  | 29 => .val (.slice q m c)
  | 30 => .val (.bool r)
  | 31 => .val (.bool (!r))
  | 32 => .val (.bool (!r))
  | _ => .val undef
theorem prC_slots (f : Nat → Value) : slotsOf prCOps prCPre f = [(14, f 0), (15, f 1), (16, f 2), (17, f 3), (18, f 4), (19, f 5), (20, f 6), (21, f 7), (22, f 8), (23, f 9), (24, f 10), (25, f 11), (26, f 12), (27, f 13), (28, f 14), (29, f 15), (30, f 16), (31, f 17), (32, f 18), (33, f 19), (34, f 20), (35, f 21), (36, f 22), (37, f 23), (38, f 24), (39, f 25), (40, f 26), (41, f 27), (42, f 28), (43, f 29), (44, f 30), (45, f 31), (46, f 32)] := by kernel_rfl
set_option maxHeartbeats 6400000 in
set_option maxRecDepth 100000 in
theorem prC_wp {Q : Exit → Act → World → Prop} {a0 : Act} {w : World} {z : Nat} (s : ByteArray) (q : Option Addr) (bf bt ni n m c : Nat) (r : Bool) (hz : z ≤ w.drew.heap.size) (hsize : a0.tmps.size = 48) (h4 : a0.tmps[4]? = some (.pointer (some ⟨bf, 0, none⟩))) (h3 : a0.tmps[3]? = some (.int .i64 (ni : Nat))) (_h1 : a0.tmps[1]? = some (.pointer (some ⟨bt, 0, none⟩))) (hf0 : w.drew.cell? ⟨bf, 0, none⟩ = some (.string s)) (hf1 : w.drew.cell? ⟨bf, 1, none⟩ = some (.slice q m c)) (_hmI : (m : Int) ≤ 10000000000000) (_hnI : (n : Int) ≤ 10000000000000) (hnm : nameB s.data.toList = true) (hi0 : (ni : Int) ≤ 0) (hbig : (m : Int) ≤ 2000) (hrt : ∀ W, Below w.drew.heap.size w.drew W → Calls Tryz.prog 116 #[.slice q m c] W fun e w' => e = .returned (.bool r) ∧ Below W.heap.size W w') 
    (fin : ∀ (f : Nat → Value) (y : World), (∀ j, j < 33 → prCPre.getD j false = true → Kd.ok z (prCK s q bf bt ni n m c r j) (f j) y) → Below w.drew.heap.size w.drew y → Q .normal (putL a0 [(14, f 0), (15, f 1), (16, f 2), (17, f 3), (18, f 4), (19, f 5), (20, f 6), (21, f 7), (22, f 8), (23, f 9), (24, f 10), (25, f 11), (26, f 12), (27, f 13), (28, f 14), (29, f 15), (30, f 16), (31, f 17), (32, f 18), (33, f 19), (34, f 20), (35, f 21), (36, f 22), (37, f 23), (38, f 24), (39, f 25), (40, f 26), (41, f 27), (42, f 28), (43, f 29), (44, f 30), (45, f 31), (46, f 32)]) y) (id : Nat) :
    (Code.region id prCOps true).wp Tryz.prog Q a0 w := by
  refine wp_region_inv prCPre (fun j => Kd.ok z (prCK s q bf bt ni n m c r j)) (fun x y => Below x.heap.size x y) 33 0 (by kernel_rfl) (by kernel_rfl) (by rw [hsize]; kernel_rfl) (by kernel_rfl) (by kernel_rfl) (Below.refl _ _) (fun _ _ _ h1 h2 => bl_trans h1 h2) (fun _ _ _ _ h1 h2 => Kd.below h1 h2) ?_ (fun f y h1 h2 => by rw [prC_slots]; exact any_end (by kernel_rfl) (fin f y h1 h2) 0)
  intro i o ho hp f a x hR hbase hdeps K hK
  have hi : i < 33 := by
    rcases Nat.lt_or_ge i 33 with h | h
    · exact h
    · have : prCOps.size ≤ i := h
      rw [Array.getElem?_eq_none this] at ho; cases ho
  have hzx : z ≤ x.heap.size := Nat.le_trans hz hR.size
  have dep : ∀ j, (o.after.any fun e => Region.binds .any e && e.on == j) = true → (∀ s, slotOf prCOps j = some s → a.tmps[s]? = some (f j)) ∧ Kd.ok z (prCK s q bf bt ni n m c r j) (f j) x := by
    intro j h
    obtain ⟨e, he, h2⟩ := Array.any_eq_true'.1 h
    simp only [Bool.and_eq_true, beq_iff_eq] at h2
    obtain ⟨h3, rfl⟩ := h2
    exact hdeps e he h3
  have bas : ∀ s, ((List.range prCOps.size).all fun j => slotOf prCOps j != some s) = true → a.tmps[s]? = a0.tmps[s]? := by
    intro s h
    refine hbase s fun j hj _ e => ?_
    have h2 := (List.all_eq_true.1 h) j (List.mem_range.2 hj)
    rw [e] at h2; simp at h2
  match i, hi with
  | 0, _ =>
    obtain rfl : ⟨some 14, Op.fieldAddr 37 (.tmp 4) 0, 0, "tables.go:42", #[], none⟩ = o := Option.some.inj (show prCOps[0]? = some _ from ho)
    have qb4 := (bas 4 (by kernel_rfl)).trans h4
    have eb4 := eval_at qb4
    refine inv_val (G := Kd.ok z (prCK s q bf bt ni n m c r 0)) (R := fun x y => Below x.heap.size x y) (wanted_none rfl) (v := (.pointer (some ⟨bf, 0, none⟩))) (w2 := x) (by simp only [execOp, eb4]; go_simp) hK rfl (Below.refl _ _)
  | 1, _ =>
    obtain rfl : ⟨some 15, Op.load 9 (.tmp 14), 9, "tables.go:42", #[⟨0, .data⟩], none⟩ = o := Option.some.inj (show prCOps[1]? = some _ from ho)
    obtain ⟨t0, g0⟩ := dep 0 (by kernel_rfl)
    have q0 := t0 14 (by rfl)
    have e0 := eval_at q0
    have w0 : f 0 = (.pointer (some ⟨bf, 0, none⟩)) := g0
    rw [w0] at e0
    have hc := keep_cellP hR hf0
    refine inv_val (G := Kd.ok z (prCK s q bf bt ni n m c r 1)) (R := fun x y => Below x.heap.size x y) (wanted_none rfl) (v := (.string s)) (w2 := x) (by simp only [execOp, e0]; go_simp) hK rfl (Below.refl _ _)
  | 2, _ =>
    obtain rfl : ⟨some 16, Op.call ⟨.value (.func 115), #[.tmp 15], #[9]⟩, 4, "tables.go:42", #[⟨1, .data⟩], none⟩ = o := Option.some.inj (show prCOps[2]? = some _ from ho)
    obtain ⟨t1, g1⟩ := dep 1 (by kernel_rfl)
    have q1 := t1 15 (by rfl)
    have e1 := eval_at q1
    refine inv_call (G := Kd.ok z (prCK s q bf bt ni n m c r 2)) (R := fun x y => Below x.heap.size x y) (wanted_none rfl) (F := 115) (args := #[f 1]) (by simp [go_sem, q1]) hK ?_
    exact k_named (w := x) g1 hnm hR.size
  | 3, _ =>
    obtain rfl : ⟨some 17, Op.unOp UnOp.not 4 (.tmp 16), 4, "tables.go:42", #[⟨2, .data⟩], none⟩ = o := Option.some.inj (show prCOps[3]? = some _ from ho)
    obtain ⟨t2, g2⟩ := dep 2 (by kernel_rfl)
    have q2 := t2 16 (by rfl)
    have e2 := eval_at q2
    have w2 : f 2 = (.bool true) := g2
    rw [w2] at e2
    refine inv_val (G := Kd.ok z (prCK s q bf bt ni n m c r 3)) (R := fun x y => Below x.heap.size x y) (wanted_none rfl) (v := (.bool false)) (w2 := x) (by simp only [execOp, e2]; go_simp) hK rfl (Below.refl _ _)
  | 4, _ =>
    obtain rfl : ⟨some 18, Op.move (.tmp 17), 4, "tables.go:42", #[⟨3, .data⟩, ⟨2, .chain⟩], none⟩ = o := Option.some.inj (show prCOps[4]? = some _ from ho)
    obtain ⟨t3, g3⟩ := dep 3 (by kernel_rfl)
    have q3 := t3 17 (by rfl)
    have e3 := eval_at q3
    have w3 : f 3 = (.bool false) := g3
    rw [w3] at e3
    refine inv_val (G := Kd.ok z (prCK s q bf bt ni n m c r 4)) (R := fun x y => Below x.heap.size x y) (wanted_none rfl) (v := (.bool false)) (w2 := x) (by simp only [execOp, e3]; go_simp) hK rfl (Below.refl _ _)
  | 5, _ =>
    obtain rfl : ⟨some 19, Op.move (.tmp 3), 3, "tables.go:42", #[⟨4, .guard⟩], some (4, false)⟩ = o := Option.some.inj (show prCOps[5]? = some _ from ho)
    obtain ⟨t4, g4⟩ := dep 4 (by kernel_rfl)
    have q4 := t4 18 (by rfl)
    have e4 := eval_at q4
    have v4 : f 4 = .bool false := g4
    have hw := wanted_some (ops := prCOps) (o := ⟨some 19, Op.move (.tmp 3), 3, "tables.go:42", #[⟨4, .guard⟩], some (4, false)⟩) (a := a) (j := 4) (s := 18) (b := false) (c := false) rfl (by rfl) (by rw [← v4]; exact q4)
    have qb3 := (bas 3 (by kernel_rfl)).trans h3
    have eb3 := eval_at qb3
    have w4 : f 4 = (.bool false) := g4
    refine inv_val (G := Kd.ok z (prCK s q bf bt ni n m c r 5)) (R := fun x y => Below x.heap.size x y) (hw.trans (by decide)) (v := (.int .i64 (ni : Nat))) (w2 := x) (by simp only [execOp, eb3]; go_simp) hK rfl (Below.refl _ _)
  | 6, _ =>
    obtain rfl : ⟨some 20, Op.binOp BinOp.gtr 3 (.tmp 19) (.const (.int .i64 0)) 3, 4, "tables.go:42", #[⟨5, .data⟩, ⟨4, .guard⟩], some (4, false)⟩ = o := Option.some.inj (show prCOps[6]? = some _ from ho)
    obtain ⟨t4, g4⟩ := dep 4 (by kernel_rfl)
    have q4 := t4 18 (by rfl)
    have e4 := eval_at q4
    have v4 : f 4 = .bool false := g4
    have hw := wanted_some (ops := prCOps) (o := ⟨some 20, Op.binOp BinOp.gtr 3 (.tmp 19) (.const (.int .i64 0)) 3, 4, "tables.go:42", #[⟨5, .data⟩, ⟨4, .guard⟩], some (4, false)⟩) (a := a) (j := 4) (s := 18) (b := false) (c := false) rfl (by rfl) (by rw [← v4]; exact q4)
    obtain ⟨t5, g5⟩ := dep 5 (by kernel_rfl)
    have q5 := t5 19 (by rfl)
    have e5 := eval_at q5
    have w4 : f 4 = (.bool false) := g4
    have w5 : f 5 = (.int .i64 (ni : Nat)) := g5
    rw [w5] at e5
    refine inv_val (G := Kd.ok z (prCK s q bf bt ni n m c r 6)) (R := fun x y => Below x.heap.size x y) (hw.trans (by decide)) (v := (.bool false)) (w2 := x) (by simp only [execOp, e5]; go_simp <;> omega) hK rfl (Below.refl _ _)
  | 7, _ =>
    obtain rfl : ⟨some 21, Op.move (.tmp 20), 4, "tables.go:42", #[⟨6, .data⟩, ⟨4, .chain⟩, ⟨4, .guard⟩], some (4, false)⟩ = o := Option.some.inj (show prCOps[7]? = some _ from ho)
    obtain ⟨t4, g4⟩ := dep 4 (by kernel_rfl)
    have q4 := t4 18 (by rfl)
    have e4 := eval_at q4
    have v4 : f 4 = .bool false := g4
    have hw := wanted_some (ops := prCOps) (o := ⟨some 21, Op.move (.tmp 20), 4, "tables.go:42", #[⟨6, .data⟩, ⟨4, .chain⟩, ⟨4, .guard⟩], some (4, false)⟩) (a := a) (j := 4) (s := 18) (b := false) (c := false) rfl (by rfl) (by rw [← v4]; exact q4)
    obtain ⟨t6, g6⟩ := dep 6 (by kernel_rfl)
    have q6 := t6 20 (by rfl)
    have e6 := eval_at q6
    have w4 : f 4 = (.bool false) := g4
    have w6 : f 6 = (.bool false) := g6
    rw [w6] at e6
    refine inv_val (G := Kd.ok z (prCK s q bf bt ni n m c r 7)) (R := fun x y => Below x.heap.size x y) (hw.trans (by decide)) (v := (.bool false)) (w2 := x) (by simp only [execOp, e6]; go_simp) hK rfl (Below.refl _ _)
  | 8, _ =>
    obtain rfl : ⟨some 22, Op.fieldAddr 37 (.tmp 4) 0, 0, "tables.go:42", #[⟨7, .guard⟩], some (7, true)⟩ = o := Option.some.inj (show prCOps[8]? = some _ from ho)
    obtain ⟨t7, g7⟩ := dep 7 (by kernel_rfl)
    have q7 := t7 21 (by rfl)
    have e7 := eval_at q7
    have v7 : f 7 = .bool false := g7
    have hw := wanted_some (ops := prCOps) (o := ⟨some 22, Op.fieldAddr 37 (.tmp 4) 0, 0, "tables.go:42", #[⟨7, .guard⟩], some (7, true)⟩) (a := a) (j := 7) (s := 21) (b := true) (c := false) rfl (by rfl) (by rw [← v7]; exact q7)
    exact inv_left (G := Kd.ok z (prCK s q bf bt ni n m c r 8)) (R := fun x y => Below x.heap.size x y) (hw.trans (by decide)) hK rfl (Below.refl _ _)
  | 9, _ =>
    obtain rfl : ⟨some 23, Op.load 9 (.tmp 22), 9, "tables.go:42", #[⟨8, .data⟩, ⟨7, .guard⟩], some (7, true)⟩ = o := Option.some.inj (show prCOps[9]? = some _ from ho)
    obtain ⟨t7, g7⟩ := dep 7 (by kernel_rfl)
    have q7 := t7 21 (by rfl)
    have e7 := eval_at q7
    have v7 : f 7 = .bool false := g7
    have hw := wanted_some (ops := prCOps) (o := ⟨some 23, Op.load 9 (.tmp 22), 9, "tables.go:42", #[⟨8, .data⟩, ⟨7, .guard⟩], some (7, true)⟩) (a := a) (j := 7) (s := 21) (b := true) (c := false) rfl (by rfl) (by rw [← v7]; exact q7)
    exact inv_left (G := Kd.ok z (prCK s q bf bt ni n m c r 9)) (R := fun x y => Below x.heap.size x y) (hw.trans (by decide)) hK rfl (Below.refl _ _)
  | 10, _ =>
    obtain rfl : ⟨some 24, Op.fieldAddr 69 (.tmp 1) 0, 0, "tables.go:42", #[⟨7, .guard⟩], some (7, true)⟩ = o := Option.some.inj (show prCOps[10]? = some _ from ho)
    obtain ⟨t7, g7⟩ := dep 7 (by kernel_rfl)
    have q7 := t7 21 (by rfl)
    have e7 := eval_at q7
    have v7 : f 7 = .bool false := g7
    have hw := wanted_some (ops := prCOps) (o := ⟨some 24, Op.fieldAddr 69 (.tmp 1) 0, 0, "tables.go:42", #[⟨7, .guard⟩], some (7, true)⟩) (a := a) (j := 7) (s := 21) (b := true) (c := false) rfl (by rfl) (by rw [← v7]; exact q7)
    exact inv_left (G := Kd.ok z (prCK s q bf bt ni n m c r 10)) (R := fun x y => Below x.heap.size x y) (hw.trans (by decide)) hK rfl (Below.refl _ _)
  | 11, _ =>
    obtain rfl : ⟨some 25, Op.fieldAddr 30 (.tmp 24) 1, 0, "tables.go:42", #[⟨10, .data⟩, ⟨7, .guard⟩], some (7, true)⟩ = o := Option.some.inj (show prCOps[11]? = some _ from ho)
    obtain ⟨t7, g7⟩ := dep 7 (by kernel_rfl)
    have q7 := t7 21 (by rfl)
    have e7 := eval_at q7
    have v7 : f 7 = .bool false := g7
    have hw := wanted_some (ops := prCOps) (o := ⟨some 25, Op.fieldAddr 30 (.tmp 24) 1, 0, "tables.go:42", #[⟨10, .data⟩, ⟨7, .guard⟩], some (7, true)⟩) (a := a) (j := 7) (s := 21) (b := true) (c := false) rfl (by rfl) (by rw [← v7]; exact q7)
    exact inv_left (G := Kd.ok z (prCK s q bf bt ni n m c r 11)) (R := fun x y => Below x.heap.size x y) (hw.trans (by decide)) hK rfl (Below.refl _ _)
  | 12, _ =>
    obtain rfl : ⟨some 26, Op.load 28 (.tmp 25), 28, "tables.go:42", #[⟨11, .data⟩, ⟨7, .guard⟩], some (7, true)⟩ = o := Option.some.inj (show prCOps[12]? = some _ from ho)
    obtain ⟨t7, g7⟩ := dep 7 (by kernel_rfl)
    have q7 := t7 21 (by rfl)
    have e7 := eval_at q7
    have v7 : f 7 = .bool false := g7
    have hw := wanted_some (ops := prCOps) (o := ⟨some 26, Op.load 28 (.tmp 25), 28, "tables.go:42", #[⟨11, .data⟩, ⟨7, .guard⟩], some (7, true)⟩) (a := a) (j := 7) (s := 21) (b := true) (c := false) rfl (by rfl) (by rw [← v7]; exact q7)
    exact inv_left (G := Kd.ok z (prCK s q bf bt ni n m c r 12)) (R := fun x y => Below x.heap.size x y) (hw.trans (by decide)) hK rfl (Below.refl _ _)
  | 13, _ =>
    obtain rfl : ⟨some 27, Op.move (.tmp 3), 3, "tables.go:42", #[⟨7, .guard⟩], some (7, true)⟩ = o := Option.some.inj (show prCOps[13]? = some _ from ho)
    obtain ⟨t7, g7⟩ := dep 7 (by kernel_rfl)
    have q7 := t7 21 (by rfl)
    have e7 := eval_at q7
    have v7 : f 7 = .bool false := g7
    have hw := wanted_some (ops := prCOps) (o := ⟨some 27, Op.move (.tmp 3), 3, "tables.go:42", #[⟨7, .guard⟩], some (7, true)⟩) (a := a) (j := 7) (s := 21) (b := true) (c := false) rfl (by rfl) (by rw [← v7]; exact q7)
    exact inv_left (G := Kd.ok z (prCK s q bf bt ni n m c r 13)) (R := fun x y => Below x.heap.size x y) (hw.trans (by decide)) hK rfl (Below.refl _ _)
  | 14, _ =>
    obtain rfl : ⟨some 28, Op.binOp BinOp.sub 3 (.tmp 27) (.const (.int .i64 1)) 3, 3, "tables.go:42", #[⟨13, .data⟩, ⟨7, .guard⟩], some (7, true)⟩ = o := Option.some.inj (show prCOps[14]? = some _ from ho)
    obtain ⟨t7, g7⟩ := dep 7 (by kernel_rfl)
    have q7 := t7 21 (by rfl)
    have e7 := eval_at q7
    have v7 : f 7 = .bool false := g7
    have hw := wanted_some (ops := prCOps) (o := ⟨some 28, Op.binOp BinOp.sub 3 (.tmp 27) (.const (.int .i64 1)) 3, 3, "tables.go:42", #[⟨13, .data⟩, ⟨7, .guard⟩], some (7, true)⟩) (a := a) (j := 7) (s := 21) (b := true) (c := false) rfl (by rfl) (by rw [← v7]; exact q7)
    exact inv_left (G := Kd.ok z (prCK s q bf bt ni n m c r 14)) (R := fun x y => Below x.heap.size x y) (hw.trans (by decide)) hK rfl (Below.refl _ _)
  | 15, _ =>
    obtain rfl : ⟨some 29, Op.indexAddr 28 (.tmp 26) (.tmp 28), 0, "tables.go:42", #[⟨12, .data⟩, ⟨14, .data⟩, ⟨7, .guard⟩], some (7, true)⟩ = o := Option.some.inj (show prCOps[15]? = some _ from ho)
    obtain ⟨t7, g7⟩ := dep 7 (by kernel_rfl)
    have q7 := t7 21 (by rfl)
    have e7 := eval_at q7
    have v7 : f 7 = .bool false := g7
    have hw := wanted_some (ops := prCOps) (o := ⟨some 29, Op.indexAddr 28 (.tmp 26) (.tmp 28), 0, "tables.go:42", #[⟨12, .data⟩, ⟨14, .data⟩, ⟨7, .guard⟩], some (7, true)⟩) (a := a) (j := 7) (s := 21) (b := true) (c := false) rfl (by rfl) (by rw [← v7]; exact q7)
    exact inv_left (G := Kd.ok z (prCK s q bf bt ni n m c r 15)) (R := fun x y => Below x.heap.size x y) (hw.trans (by decide)) hK rfl (Below.refl _ _)
  | 16, _ =>
    obtain rfl : ⟨some 30, Op.fieldAddr 37 (.tmp 29) 0, 0, "tables.go:42", #[⟨15, .data⟩, ⟨7, .guard⟩], some (7, true)⟩ = o := Option.some.inj (show prCOps[16]? = some _ from ho)
    obtain ⟨t7, g7⟩ := dep 7 (by kernel_rfl)
    have q7 := t7 21 (by rfl)
    have e7 := eval_at q7
    have v7 : f 7 = .bool false := g7
    have hw := wanted_some (ops := prCOps) (o := ⟨some 30, Op.fieldAddr 37 (.tmp 29) 0, 0, "tables.go:42", #[⟨15, .data⟩, ⟨7, .guard⟩], some (7, true)⟩) (a := a) (j := 7) (s := 21) (b := true) (c := false) rfl (by rfl) (by rw [← v7]; exact q7)
    exact inv_left (G := Kd.ok z (prCK s q bf bt ni n m c r 16)) (R := fun x y => Below x.heap.size x y) (hw.trans (by decide)) hK rfl (Below.refl _ _)
  | 17, _ =>
    obtain rfl : ⟨some 31, Op.load 9 (.tmp 30), 9, "tables.go:42", #[⟨16, .data⟩, ⟨7, .guard⟩], some (7, true)⟩ = o := Option.some.inj (show prCOps[17]? = some _ from ho)
    obtain ⟨t7, g7⟩ := dep 7 (by kernel_rfl)
    have q7 := t7 21 (by rfl)
    have e7 := eval_at q7
    have v7 : f 7 = .bool false := g7
    have hw := wanted_some (ops := prCOps) (o := ⟨some 31, Op.load 9 (.tmp 30), 9, "tables.go:42", #[⟨16, .data⟩, ⟨7, .guard⟩], some (7, true)⟩) (a := a) (j := 7) (s := 21) (b := true) (c := false) rfl (by rfl) (by rw [← v7]; exact q7)
    exact inv_left (G := Kd.ok z (prCK s q bf bt ni n m c r 17)) (R := fun x y => Below x.heap.size x y) (hw.trans (by decide)) hK rfl (Below.refl _ _)
  | 18, _ =>
    obtain rfl : ⟨some 32, Op.binOp BinOp.leq 9 (.tmp 23) (.tmp 31) 9, 4, "tables.go:42", #[⟨9, .data⟩, ⟨17, .data⟩, ⟨7, .guard⟩], some (7, true)⟩ = o := Option.some.inj (show prCOps[18]? = some _ from ho)
    obtain ⟨t7, g7⟩ := dep 7 (by kernel_rfl)
    have q7 := t7 21 (by rfl)
    have e7 := eval_at q7
    have v7 : f 7 = .bool false := g7
    have hw := wanted_some (ops := prCOps) (o := ⟨some 32, Op.binOp BinOp.leq 9 (.tmp 23) (.tmp 31) 9, 4, "tables.go:42", #[⟨9, .data⟩, ⟨17, .data⟩, ⟨7, .guard⟩], some (7, true)⟩) (a := a) (j := 7) (s := 21) (b := true) (c := false) rfl (by rfl) (by rw [← v7]; exact q7)
    exact inv_left (G := Kd.ok z (prCK s q bf bt ni n m c r 18)) (R := fun x y => Below x.heap.size x y) (hw.trans (by decide)) hK rfl (Below.refl _ _)
  | 19, _ =>
    obtain rfl : ⟨some 33, Op.pick (.tmp 21) (.tmp 32) (.const (Value.bool false)), 4, "tables.go:42", #[⟨7, .data⟩, ⟨18, .data⟩, ⟨4, .guard⟩], some (4, false)⟩ = o := Option.some.inj (show prCOps[19]? = some _ from ho)
    obtain ⟨t4, g4⟩ := dep 4 (by kernel_rfl)
    have q4 := t4 18 (by rfl)
    have e4 := eval_at q4
    have v4 : f 4 = .bool false := g4
    have hw := wanted_some (ops := prCOps) (o := ⟨some 33, Op.pick (.tmp 21) (.tmp 32) (.const (Value.bool false)), 4, "tables.go:42", #[⟨7, .data⟩, ⟨18, .data⟩, ⟨4, .guard⟩], some (4, false)⟩) (a := a) (j := 4) (s := 18) (b := false) (c := false) rfl (by rfl) (by rw [← v4]; exact q4)
    obtain ⟨t7, g7⟩ := dep 7 (by kernel_rfl)
    have q7 := t7 21 (by rfl)
    have e7 := eval_at q7
    obtain ⟨t18, g18⟩ := dep 18 (by kernel_rfl)
    have q18 := t18 32 (by rfl)
    have e18 := eval_at q18
    have w4 : f 4 = (.bool false) := g4
    have w7 : f 7 = (.bool false) := g7
    have w18 : f 18 = undef := g18
    rw [w7] at e7
    refine inv_val (G := Kd.ok z (prCK s q bf bt ni n m c r 19)) (R := fun x y => Below x.heap.size x y) (hw.trans (by decide)) (v := (.bool false)) (w2 := x) (by simp only [execOp, e7, e18]; go_simp) hK rfl (Below.refl _ _)
  | 20, _ =>
    obtain rfl : ⟨some 34, Op.pick (.tmp 18) (.const (Value.bool true)) (.tmp 33), 4, "tables.go:42", #[⟨4, .data⟩, ⟨19, .data⟩], none⟩ = o := Option.some.inj (show prCOps[20]? = some _ from ho)
    obtain ⟨t4, g4⟩ := dep 4 (by kernel_rfl)
    have q4 := t4 18 (by rfl)
    have e4 := eval_at q4
    obtain ⟨t19, g19⟩ := dep 19 (by kernel_rfl)
    have q19 := t19 33 (by rfl)
    have e19 := eval_at q19
    have w4 : f 4 = (.bool false) := g4
    have w19 : f 19 = (.bool false) := g19
    rw [w4] at e4
    rw [w19] at e19
    refine inv_val (G := Kd.ok z (prCK s q bf bt ni n m c r 20)) (R := fun x y => Below x.heap.size x y) (wanted_none rfl) (v := (.bool false)) (w2 := x) (by simp only [execOp, e4, e19]; go_simp) hK rfl (Below.refl _ _)
  | 21, _ =>
    obtain rfl : ⟨some 35, Op.move (.tmp 34), 4, "tables.go:42", #[⟨20, .data⟩, ⟨7, .chain⟩], none⟩ = o := Option.some.inj (show prCOps[21]? = some _ from ho)
    obtain ⟨t20, g20⟩ := dep 20 (by kernel_rfl)
    have q20 := t20 34 (by rfl)
    have e20 := eval_at q20
    have w20 : f 20 = (.bool false) := g20
    rw [w20] at e20
    refine inv_val (G := Kd.ok z (prCK s q bf bt ni n m c r 21)) (R := fun x y => Below x.heap.size x y) (wanted_none rfl) (v := (.bool false)) (w2 := x) (by simp only [execOp, e20]; go_simp) hK rfl (Below.refl _ _)
  | 22, _ =>
    obtain rfl : ⟨some 36, Op.fieldAddr 37 (.tmp 4) 1, 0, "tables.go:42", #[⟨21, .guard⟩], some (21, false)⟩ = o := Option.some.inj (show prCOps[22]? = some _ from ho)
    obtain ⟨t21, g21⟩ := dep 21 (by kernel_rfl)
    have q21 := t21 35 (by rfl)
    have e21 := eval_at q21
    have v21 : f 21 = .bool false := g21
    have hw := wanted_some (ops := prCOps) (o := ⟨some 36, Op.fieldAddr 37 (.tmp 4) 1, 0, "tables.go:42", #[⟨21, .guard⟩], some (21, false)⟩) (a := a) (j := 21) (s := 35) (b := false) (c := false) rfl (by rfl) (by rw [← v21]; exact q21)
    have qb4 := (bas 4 (by kernel_rfl)).trans h4
    have eb4 := eval_at qb4
    have w21 : f 21 = (.bool false) := g21
    refine inv_val (G := Kd.ok z (prCK s q bf bt ni n m c r 22)) (R := fun x y => Below x.heap.size x y) (hw.trans (by decide)) (v := (.pointer (some ⟨bf, 1, none⟩))) (w2 := x) (by simp only [execOp, eb4]; go_simp) hK rfl (Below.refl _ _)
  | 23, _ =>
    obtain rfl : ⟨some 37, Op.load 25 (.tmp 36), 25, "tables.go:42", #[⟨22, .data⟩, ⟨21, .guard⟩], some (21, false)⟩ = o := Option.some.inj (show prCOps[23]? = some _ from ho)
    obtain ⟨t21, g21⟩ := dep 21 (by kernel_rfl)
    have q21 := t21 35 (by rfl)
    have e21 := eval_at q21
    have v21 : f 21 = .bool false := g21
    have hw := wanted_some (ops := prCOps) (o := ⟨some 37, Op.load 25 (.tmp 36), 25, "tables.go:42", #[⟨22, .data⟩, ⟨21, .guard⟩], some (21, false)⟩) (a := a) (j := 21) (s := 35) (b := false) (c := false) rfl (by rfl) (by rw [← v21]; exact q21)
    obtain ⟨t22, g22⟩ := dep 22 (by kernel_rfl)
    have q22 := t22 36 (by rfl)
    have e22 := eval_at q22
    have w22 : f 22 = (.pointer (some ⟨bf, 1, none⟩)) := g22
    rw [w22] at e22
    have hc := keep_cellP hR hf1
    refine inv_val (G := Kd.ok z (prCK s q bf bt ni n m c r 23)) (R := fun x y => Below x.heap.size x y) (hw.trans (by decide)) (v := (.slice q m c)) (w2 := x) (by simp only [execOp, e22]; go_simp) hK rfl (Below.refl _ _)
  | 24, _ =>
    obtain rfl : ⟨some 38, Op.call { callee := Callee.builtin Builtin.len, args := #[.tmp 37], argTypes := #[25] }, 3, "tables.go:42", #[⟨23, .data⟩, ⟨21, .guard⟩], some (21, false)⟩ = o := Option.some.inj (show prCOps[24]? = some _ from ho)
    obtain ⟨t21, g21⟩ := dep 21 (by kernel_rfl)
    have q21 := t21 35 (by rfl)
    have e21 := eval_at q21
    have v21 : f 21 = .bool false := g21
    have hw := wanted_some (ops := prCOps) (o := ⟨some 38, Op.call { callee := Callee.builtin Builtin.len, args := #[.tmp 37], argTypes := #[25] }, 3, "tables.go:42", #[⟨23, .data⟩, ⟨21, .guard⟩], some (21, false)⟩) (a := a) (j := 21) (s := 35) (b := false) (c := false) rfl (by rfl) (by rw [← v21]; exact q21)
    obtain ⟨t23, g23⟩ := dep 23 (by kernel_rfl)
    have q23 := t23 37 (by rfl)
    have e23 := eval_at q23
    have w21 : f 21 = (.bool false) := g21
    have w23 : f 23 = (.slice q m c) := g23
    rw [w23] at e23
    refine inv_val (G := Kd.ok z (prCK s q bf bt ni n m c r 24)) (R := fun x y => Below x.heap.size x y) (hw.trans (by decide)) (v := (.int .i64 (m : Nat))) (w2 := x) (by simp only [execOp]; go_simp) hK rfl (Below.refl _ _)
  | 25, _ =>
    obtain rfl : ⟨some 39, Op.binOp BinOp.gtr 3 (.tmp 38) (.const (.int .i64 2000)) 3, 4, "tables.go:42", #[⟨24, .data⟩, ⟨21, .guard⟩], some (21, false)⟩ = o := Option.some.inj (show prCOps[25]? = some _ from ho)
    obtain ⟨t21, g21⟩ := dep 21 (by kernel_rfl)
    have q21 := t21 35 (by rfl)
    have e21 := eval_at q21
    have v21 : f 21 = .bool false := g21
    have hw := wanted_some (ops := prCOps) (o := ⟨some 39, Op.binOp BinOp.gtr 3 (.tmp 38) (.const (.int .i64 2000)) 3, 4, "tables.go:42", #[⟨24, .data⟩, ⟨21, .guard⟩], some (21, false)⟩) (a := a) (j := 21) (s := 35) (b := false) (c := false) rfl (by rfl) (by rw [← v21]; exact q21)
    obtain ⟨t24, g24⟩ := dep 24 (by kernel_rfl)
    have q24 := t24 38 (by rfl)
    have e24 := eval_at q24
    have w21 : f 21 = (.bool false) := g21
    have w24 : f 24 = (.int .i64 (m : Nat)) := g24
    rw [w24] at e24
    refine inv_val (G := Kd.ok z (prCK s q bf bt ni n m c r 25)) (R := fun x y => Below x.heap.size x y) (hw.trans (by decide)) (v := (.bool false)) (w2 := x) (by simp only [execOp, e24]; go_simp <;> omega) hK rfl (Below.refl _ _)
  | 26, _ =>
    obtain rfl : ⟨some 40, Op.pick (.tmp 35) (.const (Value.bool true)) (.tmp 39), 4, "tables.go:42", #[⟨21, .data⟩, ⟨25, .data⟩], none⟩ = o := Option.some.inj (show prCOps[26]? = some _ from ho)
    obtain ⟨t21, g21⟩ := dep 21 (by kernel_rfl)
    have q21 := t21 35 (by rfl)
    have e21 := eval_at q21
    obtain ⟨t25, g25⟩ := dep 25 (by kernel_rfl)
    have q25 := t25 39 (by rfl)
    have e25 := eval_at q25
    have w21 : f 21 = (.bool false) := g21
    have w25 : f 25 = (.bool false) := g25
    rw [w21] at e21
    rw [w25] at e25
    refine inv_val (G := Kd.ok z (prCK s q bf bt ni n m c r 26)) (R := fun x y => Below x.heap.size x y) (wanted_none rfl) (v := (.bool false)) (w2 := x) (by simp only [execOp, e21, e25]; go_simp) hK rfl (Below.refl _ _)
  | 27, _ =>
    obtain rfl : ⟨some 41, Op.move (.tmp 40), 4, "tables.go:42", #[⟨26, .data⟩, ⟨21, .chain⟩], none⟩ = o := Option.some.inj (show prCOps[27]? = some _ from ho)
    obtain ⟨t26, g26⟩ := dep 26 (by kernel_rfl)
    have q26 := t26 40 (by rfl)
    have e26 := eval_at q26
    have w26 : f 26 = (.bool false) := g26
    rw [w26] at e26
    refine inv_val (G := Kd.ok z (prCK s q bf bt ni n m c r 27)) (R := fun x y => Below x.heap.size x y) (wanted_none rfl) (v := (.bool false)) (w2 := x) (by simp only [execOp, e26]; go_simp) hK rfl (Below.refl _ _)
  | 28, _ =>
    obtain rfl : ⟨some 42, Op.fieldAddr 37 (.tmp 4) 1, 0, "tables.go:42", #[⟨27, .guard⟩], some (27, false)⟩ = o := Option.some.inj (show prCOps[28]? = some _ from ho)
    obtain ⟨t27, g27⟩ := dep 27 (by kernel_rfl)
    have q27 := t27 41 (by rfl)
    have e27 := eval_at q27
    have v27 : f 27 = .bool false := g27
    have hw := wanted_some (ops := prCOps) (o := ⟨some 42, Op.fieldAddr 37 (.tmp 4) 1, 0, "tables.go:42", #[⟨27, .guard⟩], some (27, false)⟩) (a := a) (j := 27) (s := 41) (b := false) (c := false) rfl (by rfl) (by rw [← v27]; exact q27)
    have qb4 := (bas 4 (by kernel_rfl)).trans h4
    have eb4 := eval_at qb4
    have w27 : f 27 = (.bool false) := g27
    refine inv_val (G := Kd.ok z (prCK s q bf bt ni n m c r 28)) (R := fun x y => Below x.heap.size x y) (hw.trans (by decide)) (v := (.pointer (some ⟨bf, 1, none⟩))) (w2 := x) (by simp only [execOp, eb4]; go_simp) hK rfl (Below.refl _ _)
  | 29, _ =>
    obtain rfl : ⟨some 43, Op.load 25 (.tmp 42), 25, "tables.go:42", #[⟨28, .data⟩, ⟨27, .guard⟩], some (27, false)⟩ = o := Option.some.inj (show prCOps[29]? = some _ from ho)
    obtain ⟨t27, g27⟩ := dep 27 (by kernel_rfl)
    have q27 := t27 41 (by rfl)
    have e27 := eval_at q27
    have v27 : f 27 = .bool false := g27
    have hw := wanted_some (ops := prCOps) (o := ⟨some 43, Op.load 25 (.tmp 42), 25, "tables.go:42", #[⟨28, .data⟩, ⟨27, .guard⟩], some (27, false)⟩) (a := a) (j := 27) (s := 41) (b := false) (c := false) rfl (by rfl) (by rw [← v27]; exact q27)
    obtain ⟨t28, g28⟩ := dep 28 (by kernel_rfl)
    have q28 := t28 42 (by rfl)
    have e28 := eval_at q28
    have w28 : f 28 = (.pointer (some ⟨bf, 1, none⟩)) := g28
    rw [w28] at e28
    have hc := keep_cellP hR hf1
    refine inv_val (G := Kd.ok z (prCK s q bf bt ni n m c r 29)) (R := fun x y => Below x.heap.size x y) (hw.trans (by decide)) (v := (.slice q m c)) (w2 := x) (by simp only [execOp, e28]; go_simp) hK rfl (Below.refl _ _)
  | 30, _ =>
    obtain rfl : ⟨some 44, Op.call { callee := Callee.value (.func 116), args := #[.tmp 43], argTypes := #[25] }, 4, "tables.go:42", #[⟨29, .data⟩, ⟨27, .chain⟩, ⟨27, .guard⟩], some (27, false)⟩ = o := Option.some.inj (show prCOps[30]? = some _ from ho)
    obtain ⟨t27, g27⟩ := dep 27 (by kernel_rfl)
    have q27 := t27 41 (by rfl)
    have e27 := eval_at q27
    have v27 : f 27 = .bool false := g27
    have hw := wanted_some (ops := prCOps) (o := ⟨some 44, Op.call { callee := Callee.value (.func 116), args := #[.tmp 43], argTypes := #[25] }, 4, "tables.go:42", #[⟨29, .data⟩, ⟨27, .chain⟩, ⟨27, .guard⟩], some (27, false)⟩) (a := a) (j := 27) (s := 41) (b := false) (c := false) rfl (by rfl) (by rw [← v27]; exact q27)
    obtain ⟨t29, g29⟩ := dep 29 (by kernel_rfl)
    have q29 := t29 43 (by rfl)
    have e29 := eval_at q29
    refine inv_call (G := Kd.ok z (prCK s q bf bt ni n m c r 30)) (R := fun x y => Below x.heap.size x y) (hw.trans (by decide)) (F := 116) (args := #[f 29]) (by simp [go_sem, q29]) hK ?_
    exact k_rt g29 (hrt x hR)
  | 31, _ =>
    obtain rfl : ⟨some 45, Op.unOp UnOp.not 4 (.tmp 44), 4, "tables.go:42", #[⟨30, .data⟩, ⟨27, .guard⟩], some (27, false)⟩ = o := Option.some.inj (show prCOps[31]? = some _ from ho)
    obtain ⟨t27, g27⟩ := dep 27 (by kernel_rfl)
    have q27 := t27 41 (by rfl)
    have e27 := eval_at q27
    have v27 : f 27 = .bool false := g27
    have hw := wanted_some (ops := prCOps) (o := ⟨some 45, Op.unOp UnOp.not 4 (.tmp 44), 4, "tables.go:42", #[⟨30, .data⟩, ⟨27, .guard⟩], some (27, false)⟩) (a := a) (j := 27) (s := 41) (b := false) (c := false) rfl (by rfl) (by rw [← v27]; exact q27)
    obtain ⟨t30, g30⟩ := dep 30 (by kernel_rfl)
    have q30 := t30 44 (by rfl)
    have e30 := eval_at q30
    have w27 : f 27 = (.bool false) := g27
    have w30 : f 30 = (.bool r) := g30
    rw [w30] at e30
    refine inv_val (G := Kd.ok z (prCK s q bf bt ni n m c r 31)) (R := fun x y => Below x.heap.size x y) (hw.trans (by decide)) (v := (.bool (!r))) (w2 := x) (by simp only [execOp, e30]; go_simp) hK rfl (Below.refl _ _)
  | 32, _ =>
    obtain rfl : ⟨some 46, Op.pick (.tmp 41) (.const (Value.bool true)) (.tmp 45), 4, "tables.go:42", #[⟨27, .data⟩, ⟨31, .data⟩], none⟩ = o := Option.some.inj (show prCOps[32]? = some _ from ho)
    obtain ⟨t27, g27⟩ := dep 27 (by kernel_rfl)
    have q27 := t27 41 (by rfl)
    have e27 := eval_at q27
    obtain ⟨t31, g31⟩ := dep 31 (by kernel_rfl)
    have q31 := t31 45 (by rfl)
    have e31 := eval_at q31
    have w27 : f 27 = (.bool false) := g27
    have w31 : f 31 = (.bool (!r)) := g31
    rw [w27] at e27
    rw [w31] at e31
    refine inv_val (G := Kd.ok z (prCK s q bf bt ni n m c r 32)) (R := fun x y => Below x.heap.size x y) (wanted_none rfl) (v := (.bool (!r))) (w2 := x) (by simp only [execOp, e27, e31]; go_simp) hK rfl (Below.refl _ _)

def prDOps : Array Oper := #[⟨some 14, Op.fieldAddr 37 (.tmp 4) 0, 0, "tables.go:42", #[], none⟩,
  ⟨some 15, Op.load 9 (.tmp 14), 9, "tables.go:42", #[⟨0, .data⟩], none⟩,
  ⟨some 16, Op.call ⟨.value (.func 115), #[.tmp 15], #[9]⟩, 4, "tables.go:42", #[⟨1, .data⟩], none⟩,
  ⟨some 17, Op.unOp UnOp.not 4 (.tmp 16), 4, "tables.go:42", #[⟨2, .data⟩], none⟩,
  ⟨some 18, Op.move (.tmp 17), 4, "tables.go:42", #[⟨3, .data⟩, ⟨2, .chain⟩], none⟩,
  ⟨some 19, Op.move (.tmp 3), 3, "tables.go:42", #[⟨4, .guard⟩], some (4, false)⟩,
  ⟨some 20, Op.binOp BinOp.gtr 3 (.tmp 19) (.const (.int .i64 0)) 3, 4, "tables.go:42", #[⟨5, .data⟩, ⟨4, .guard⟩], some (4, false)⟩,
  ⟨some 21, Op.move (.tmp 20), 4, "tables.go:42", #[⟨6, .data⟩, ⟨4, .chain⟩, ⟨4, .guard⟩], some (4, false)⟩,
  ⟨some 22, Op.fieldAddr 37 (.tmp 4) 0, 0, "tables.go:42", #[⟨7, .guard⟩], some (7, true)⟩,
  ⟨some 23, Op.load 9 (.tmp 22), 9, "tables.go:42", #[⟨8, .data⟩, ⟨7, .guard⟩], some (7, true)⟩,
  ⟨some 24, Op.fieldAddr 69 (.tmp 1) 0, 0, "tables.go:42", #[⟨7, .guard⟩], some (7, true)⟩,
  ⟨some 25, Op.fieldAddr 30 (.tmp 24) 1, 0, "tables.go:42", #[⟨10, .data⟩, ⟨7, .guard⟩], some (7, true)⟩,
  ⟨some 26, Op.load 28 (.tmp 25), 28, "tables.go:42", #[⟨11, .data⟩, ⟨7, .guard⟩], some (7, true)⟩,
  ⟨some 27, Op.move (.tmp 3), 3, "tables.go:42", #[⟨7, .guard⟩], some (7, true)⟩,
  ⟨some 28, Op.binOp BinOp.sub 3 (.tmp 27) (.const (.int .i64 1)) 3, 3, "tables.go:42", #[⟨13, .data⟩, ⟨7, .guard⟩], some (7, true)⟩,
  ⟨some 29, Op.indexAddr 28 (.tmp 26) (.tmp 28), 0, "tables.go:42", #[⟨12, .data⟩, ⟨14, .data⟩, ⟨7, .guard⟩], some (7, true)⟩,
  ⟨some 30, Op.fieldAddr 37 (.tmp 29) 0, 0, "tables.go:42", #[⟨15, .data⟩, ⟨7, .guard⟩], some (7, true)⟩,
  ⟨some 31, Op.load 9 (.tmp 30), 9, "tables.go:42", #[⟨16, .data⟩, ⟨7, .guard⟩], some (7, true)⟩,
  ⟨some 32, Op.binOp BinOp.leq 9 (.tmp 23) (.tmp 31) 9, 4, "tables.go:42", #[⟨9, .data⟩, ⟨17, .data⟩, ⟨7, .guard⟩], some (7, true)⟩,
  ⟨some 33, Op.pick (.tmp 21) (.tmp 32) (.const (Value.bool false)), 4, "tables.go:42", #[⟨7, .data⟩, ⟨18, .data⟩, ⟨4, .guard⟩], some (4, false)⟩,
  ⟨some 34, Op.pick (.tmp 18) (.const (Value.bool true)) (.tmp 33), 4, "tables.go:42", #[⟨4, .data⟩, ⟨19, .data⟩], none⟩,
  ⟨some 35, Op.move (.tmp 34), 4, "tables.go:42", #[⟨20, .data⟩, ⟨7, .chain⟩], none⟩,
  ⟨some 36, Op.fieldAddr 37 (.tmp 4) 1, 0, "tables.go:42", #[⟨21, .guard⟩], some (21, false)⟩,
  ⟨some 37, Op.load 25 (.tmp 36), 25, "tables.go:42", #[⟨22, .data⟩, ⟨21, .guard⟩], some (21, false)⟩,
  ⟨some 38, Op.call { callee := Callee.builtin Builtin.len, args := #[.tmp 37], argTypes := #[25] }, 3, "tables.go:42", #[⟨23, .data⟩, ⟨21, .guard⟩], some (21, false)⟩,
  ⟨some 39, Op.binOp BinOp.gtr 3 (.tmp 38) (.const (.int .i64 2000)) 3, 4, "tables.go:42", #[⟨24, .data⟩, ⟨21, .guard⟩], some (21, false)⟩,
  ⟨some 40, Op.pick (.tmp 35) (.const (Value.bool true)) (.tmp 39), 4, "tables.go:42", #[⟨21, .data⟩, ⟨25, .data⟩], none⟩,
  ⟨some 41, Op.move (.tmp 40), 4, "tables.go:42", #[⟨26, .data⟩, ⟨21, .chain⟩], none⟩,
  ⟨some 42, Op.fieldAddr 37 (.tmp 4) 1, 0, "tables.go:42", #[⟨27, .guard⟩], some (27, false)⟩,
  ⟨some 43, Op.load 25 (.tmp 42), 25, "tables.go:42", #[⟨28, .data⟩, ⟨27, .guard⟩], some (27, false)⟩,
  ⟨some 44, Op.call { callee := Callee.value (.func 116), args := #[.tmp 43], argTypes := #[25] }, 4, "tables.go:42", #[⟨29, .data⟩, ⟨27, .chain⟩, ⟨27, .guard⟩], some (27, false)⟩,
  ⟨some 45, Op.unOp UnOp.not 4 (.tmp 44), 4, "tables.go:42", #[⟨30, .data⟩, ⟨27, .guard⟩], some (27, false)⟩,
  ⟨some 46, Op.pick (.tmp 41) (.const (Value.bool true)) (.tmp 45), 4, "tables.go:42", #[⟨27, .data⟩, ⟨31, .data⟩], none⟩]
def prDPre : Array Bool := #[true, true, true, true, true, true, true, true, true, true, true, true, true, true, true, true, true, true, true, true, true, true, true, true, true, true, true, true, true, true, true, true, true]
def prDK (s : ByteArray) (_q : Option Addr) (bf bt ni n _m _c : Nat) (s0 : ByteArray) (bb ob cp : Nat) : Nat → Kd
  | 0 => .val (.pointer (some ⟨bf, 0, none⟩))
  | 1 => .val (.string s)
  | 2 => .val (.bool true)
  | 3 => .val (.bool false)
  | 4 => .val (.bool false)
  | 5 => .val (.int .i64 (ni : Nat))
  | 6 => .val (.bool true)
  | 7 => .val (.bool true)
  | 8 => .val (.pointer (some ⟨bf, 0, none⟩))
  | 9 => .val (.string s)
  | 10 => .val (.pointer (some ⟨bt, 0, none⟩))
  | 11 => .val (.pointer (some ⟨bt, 1, none⟩))
  | 12 => .val (.slice (some ⟨bb, ob, none⟩) n cp)
  | 13 => .val (.int .i64 (ni : Nat))
  | 14 => .val (.int .i64 ((ni : Int) - 1))
  | 15 => .val (.pointer (some ⟨bb, ob + (ni - 1) * 2, none⟩))
  | 16 => .val (.pointer (some ⟨bb, ob + (ni - 1) * 2, none⟩))
  | 17 => .val (.string s0)
  | 18 => .val (.bool true)
  | 19 => .val (.bool true)
  | 20 => .val (.bool true)
  | 21 => .val (.bool true)
  | 22 => .val undef
  | 23 => .val undef
  | 24 => .val undef
  | 25 => .val undef
  | 26 => .val (.bool true)
  | 27 => .val (.bool true)
  | 28 => .val undef
  | 29 => .val undef
  | 30 => .val undef
  | 31 => .val undef
  | 32 => .val (.bool true)
  | _ => .val undef
theorem prD_slots (f : Nat → Value) : slotsOf prDOps prDPre f = [(14, f 0), (15, f 1), (16, f 2), (17, f 3), (18, f 4), (19, f 5), (20, f 6), (21, f 7), (22, f 8), (23, f 9), (24, f 10), (25, f 11), (26, f 12), (27, f 13), (28, f 14), (29, f 15), (30, f 16), (31, f 17), (32, f 18), (33, f 19), (34, f 20), (35, f 21), (36, f 22), (37, f 23), (38, f 24), (39, f 25), (40, f 26), (41, f 27), (42, f 28), (43, f 29), (44, f 30), (45, f 31), (46, f 32)] := by kernel_rfl
set_option maxHeartbeats 6400000 in
set_option maxRecDepth 100000 in
theorem prD_wp {Q : Exit → Act → World → Prop} {a0 : Act} {w : World} {z : Nat} (s : ByteArray) (q : Option Addr) (bf bt ni n m c : Nat) (s0 : ByteArray) (bb ob cp : Nat) (hz : z ≤ w.drew.heap.size) (hsize : a0.tmps.size = 48) (h4 : a0.tmps[4]? = some (.pointer (some ⟨bf, 0, none⟩))) (h3 : a0.tmps[3]? = some (.int .i64 (ni : Nat))) (h1 : a0.tmps[1]? = some (.pointer (some ⟨bt, 0, none⟩))) (hf0 : w.drew.cell? ⟨bf, 0, none⟩ = some (.string s)) (_hf1 : w.drew.cell? ⟨bf, 1, none⟩ = some (.slice q m c)) (_hmI : (m : Int) ≤ 10000000000000) (_hnI : (n : Int) ≤ 10000000000000) (hnm : nameB s.data.toList = true) (hi0 : 0 < (ni : Int)) (hiI : (ni : Int) < n) (hnt : ((ni : Int) - 1).toNat = ni - 1) (hw1 : IntKind.i64.wrap ((ni : Int) - 1) = (ni : Int) - 1) (he1 : w.drew.cell? ⟨bt, 1, none⟩ = some (.slice (some ⟨bb, ob, none⟩) n cp)) (he2 : w.drew.cell? ⟨bb, ob + (ni - 1) * 2, none⟩ = some (.string s0)) (hle : leB s s0 = true) 
    (fin : ∀ (f : Nat → Value) (y : World), (∀ j, j < 33 → prDPre.getD j false = true → Kd.ok z (prDK s q bf bt ni n m c s0 bb ob cp j) (f j) y) → Below w.drew.heap.size w.drew y → Q .normal (putL a0 [(14, f 0), (15, f 1), (16, f 2), (17, f 3), (18, f 4), (19, f 5), (20, f 6), (21, f 7), (22, f 8), (23, f 9), (24, f 10), (25, f 11), (26, f 12), (27, f 13), (28, f 14), (29, f 15), (30, f 16), (31, f 17), (32, f 18), (33, f 19), (34, f 20), (35, f 21), (36, f 22), (37, f 23), (38, f 24), (39, f 25), (40, f 26), (41, f 27), (42, f 28), (43, f 29), (44, f 30), (45, f 31), (46, f 32)]) y) (id : Nat) :
    (Code.region id prDOps true).wp Tryz.prog Q a0 w := by
  refine wp_region_inv prDPre (fun j => Kd.ok z (prDK s q bf bt ni n m c s0 bb ob cp j)) (fun x y => Below x.heap.size x y) 33 0 (by kernel_rfl) (by kernel_rfl) (by rw [hsize]; kernel_rfl) (by kernel_rfl) (by kernel_rfl) (Below.refl _ _) (fun _ _ _ h1 h2 => bl_trans h1 h2) (fun _ _ _ _ h1 h2 => Kd.below h1 h2) ?_ (fun f y h1 h2 => by rw [prD_slots]; exact any_end (by kernel_rfl) (fin f y h1 h2) 0)
  intro i o ho hp f a x hR hbase hdeps K hK
  have hi : i < 33 := by
    rcases Nat.lt_or_ge i 33 with h | h
    · exact h
    · have : prDOps.size ≤ i := h
      rw [Array.getElem?_eq_none this] at ho; cases ho
  have hzx : z ≤ x.heap.size := Nat.le_trans hz hR.size
  have dep : ∀ j, (o.after.any fun e => Region.binds .any e && e.on == j) = true → (∀ s, slotOf prDOps j = some s → a.tmps[s]? = some (f j)) ∧ Kd.ok z (prDK s q bf bt ni n m c s0 bb ob cp j) (f j) x := by
    intro j h
    obtain ⟨e, he, h2⟩ := Array.any_eq_true'.1 h
    simp only [Bool.and_eq_true, beq_iff_eq] at h2
    obtain ⟨h3, rfl⟩ := h2
    exact hdeps e he h3
  have bas : ∀ s, ((List.range prDOps.size).all fun j => slotOf prDOps j != some s) = true → a.tmps[s]? = a0.tmps[s]? := by
    intro s h
    refine hbase s fun j hj _ e => ?_
    have h2 := (List.all_eq_true.1 h) j (List.mem_range.2 hj)
    rw [e] at h2; simp at h2
  match i, hi with
  | 0, _ =>
    obtain rfl : ⟨some 14, Op.fieldAddr 37 (.tmp 4) 0, 0, "tables.go:42", #[], none⟩ = o := Option.some.inj (show prDOps[0]? = some _ from ho)
    have qb4 := (bas 4 (by kernel_rfl)).trans h4
    have eb4 := eval_at qb4
    refine inv_val (G := Kd.ok z (prDK s q bf bt ni n m c s0 bb ob cp 0)) (R := fun x y => Below x.heap.size x y) (wanted_none rfl) (v := (.pointer (some ⟨bf, 0, none⟩))) (w2 := x) (by simp only [execOp, eb4]; go_simp) hK rfl (Below.refl _ _)
  | 1, _ =>
    obtain rfl : ⟨some 15, Op.load 9 (.tmp 14), 9, "tables.go:42", #[⟨0, .data⟩], none⟩ = o := Option.some.inj (show prDOps[1]? = some _ from ho)
    obtain ⟨t0, g0⟩ := dep 0 (by kernel_rfl)
    have q0 := t0 14 (by rfl)
    have e0 := eval_at q0
    have w0 : f 0 = (.pointer (some ⟨bf, 0, none⟩)) := g0
    rw [w0] at e0
    have hc := keep_cellP hR hf0
    refine inv_val (G := Kd.ok z (prDK s q bf bt ni n m c s0 bb ob cp 1)) (R := fun x y => Below x.heap.size x y) (wanted_none rfl) (v := (.string s)) (w2 := x) (by simp only [execOp, e0]; go_simp) hK rfl (Below.refl _ _)
  | 2, _ =>
    obtain rfl : ⟨some 16, Op.call ⟨.value (.func 115), #[.tmp 15], #[9]⟩, 4, "tables.go:42", #[⟨1, .data⟩], none⟩ = o := Option.some.inj (show prDOps[2]? = some _ from ho)
    obtain ⟨t1, g1⟩ := dep 1 (by kernel_rfl)
    have q1 := t1 15 (by rfl)
    have e1 := eval_at q1
    refine inv_call (G := Kd.ok z (prDK s q bf bt ni n m c s0 bb ob cp 2)) (R := fun x y => Below x.heap.size x y) (wanted_none rfl) (F := 115) (args := #[f 1]) (by simp [go_sem, q1]) hK ?_
    exact k_named (w := x) g1 hnm hR.size
  | 3, _ =>
    obtain rfl : ⟨some 17, Op.unOp UnOp.not 4 (.tmp 16), 4, "tables.go:42", #[⟨2, .data⟩], none⟩ = o := Option.some.inj (show prDOps[3]? = some _ from ho)
    obtain ⟨t2, g2⟩ := dep 2 (by kernel_rfl)
    have q2 := t2 16 (by rfl)
    have e2 := eval_at q2
    have w2 : f 2 = (.bool true) := g2
    rw [w2] at e2
    refine inv_val (G := Kd.ok z (prDK s q bf bt ni n m c s0 bb ob cp 3)) (R := fun x y => Below x.heap.size x y) (wanted_none rfl) (v := (.bool false)) (w2 := x) (by simp only [execOp, e2]; go_simp) hK rfl (Below.refl _ _)
  | 4, _ =>
    obtain rfl : ⟨some 18, Op.move (.tmp 17), 4, "tables.go:42", #[⟨3, .data⟩, ⟨2, .chain⟩], none⟩ = o := Option.some.inj (show prDOps[4]? = some _ from ho)
    obtain ⟨t3, g3⟩ := dep 3 (by kernel_rfl)
    have q3 := t3 17 (by rfl)
    have e3 := eval_at q3
    have w3 : f 3 = (.bool false) := g3
    rw [w3] at e3
    refine inv_val (G := Kd.ok z (prDK s q bf bt ni n m c s0 bb ob cp 4)) (R := fun x y => Below x.heap.size x y) (wanted_none rfl) (v := (.bool false)) (w2 := x) (by simp only [execOp, e3]; go_simp) hK rfl (Below.refl _ _)
  | 5, _ =>
    obtain rfl : ⟨some 19, Op.move (.tmp 3), 3, "tables.go:42", #[⟨4, .guard⟩], some (4, false)⟩ = o := Option.some.inj (show prDOps[5]? = some _ from ho)
    obtain ⟨t4, g4⟩ := dep 4 (by kernel_rfl)
    have q4 := t4 18 (by rfl)
    have e4 := eval_at q4
    have v4 : f 4 = .bool false := g4
    have hw := wanted_some (ops := prDOps) (o := ⟨some 19, Op.move (.tmp 3), 3, "tables.go:42", #[⟨4, .guard⟩], some (4, false)⟩) (a := a) (j := 4) (s := 18) (b := false) (c := false) rfl (by rfl) (by rw [← v4]; exact q4)
    have qb3 := (bas 3 (by kernel_rfl)).trans h3
    have eb3 := eval_at qb3
    have w4 : f 4 = (.bool false) := g4
    refine inv_val (G := Kd.ok z (prDK s q bf bt ni n m c s0 bb ob cp 5)) (R := fun x y => Below x.heap.size x y) (hw.trans (by decide)) (v := (.int .i64 (ni : Nat))) (w2 := x) (by simp only [execOp, eb3]; go_simp) hK rfl (Below.refl _ _)
  | 6, _ =>
    obtain rfl : ⟨some 20, Op.binOp BinOp.gtr 3 (.tmp 19) (.const (.int .i64 0)) 3, 4, "tables.go:42", #[⟨5, .data⟩, ⟨4, .guard⟩], some (4, false)⟩ = o := Option.some.inj (show prDOps[6]? = some _ from ho)
    obtain ⟨t4, g4⟩ := dep 4 (by kernel_rfl)
    have q4 := t4 18 (by rfl)
    have e4 := eval_at q4
    have v4 : f 4 = .bool false := g4
    have hw := wanted_some (ops := prDOps) (o := ⟨some 20, Op.binOp BinOp.gtr 3 (.tmp 19) (.const (.int .i64 0)) 3, 4, "tables.go:42", #[⟨5, .data⟩, ⟨4, .guard⟩], some (4, false)⟩) (a := a) (j := 4) (s := 18) (b := false) (c := false) rfl (by rfl) (by rw [← v4]; exact q4)
    obtain ⟨t5, g5⟩ := dep 5 (by kernel_rfl)
    have q5 := t5 19 (by rfl)
    have e5 := eval_at q5
    have w4 : f 4 = (.bool false) := g4
    have w5 : f 5 = (.int .i64 (ni : Nat)) := g5
    rw [w5] at e5
    refine inv_val (G := Kd.ok z (prDK s q bf bt ni n m c s0 bb ob cp 6)) (R := fun x y => Below x.heap.size x y) (hw.trans (by decide)) (v := (.bool true)) (w2 := x) (by simp only [execOp, e5]; go_simp <;> omega) hK rfl (Below.refl _ _)
  | 7, _ =>
    obtain rfl : ⟨some 21, Op.move (.tmp 20), 4, "tables.go:42", #[⟨6, .data⟩, ⟨4, .chain⟩, ⟨4, .guard⟩], some (4, false)⟩ = o := Option.some.inj (show prDOps[7]? = some _ from ho)
    obtain ⟨t4, g4⟩ := dep 4 (by kernel_rfl)
    have q4 := t4 18 (by rfl)
    have e4 := eval_at q4
    have v4 : f 4 = .bool false := g4
    have hw := wanted_some (ops := prDOps) (o := ⟨some 21, Op.move (.tmp 20), 4, "tables.go:42", #[⟨6, .data⟩, ⟨4, .chain⟩, ⟨4, .guard⟩], some (4, false)⟩) (a := a) (j := 4) (s := 18) (b := false) (c := false) rfl (by rfl) (by rw [← v4]; exact q4)
    obtain ⟨t6, g6⟩ := dep 6 (by kernel_rfl)
    have q6 := t6 20 (by rfl)
    have e6 := eval_at q6
    have w4 : f 4 = (.bool false) := g4
    have w6 : f 6 = (.bool true) := g6
    rw [w6] at e6
    refine inv_val (G := Kd.ok z (prDK s q bf bt ni n m c s0 bb ob cp 7)) (R := fun x y => Below x.heap.size x y) (hw.trans (by decide)) (v := (.bool true)) (w2 := x) (by simp only [execOp, e6]; go_simp) hK rfl (Below.refl _ _)
  | 8, _ =>
    obtain rfl : ⟨some 22, Op.fieldAddr 37 (.tmp 4) 0, 0, "tables.go:42", #[⟨7, .guard⟩], some (7, true)⟩ = o := Option.some.inj (show prDOps[8]? = some _ from ho)
    obtain ⟨t7, g7⟩ := dep 7 (by kernel_rfl)
    have q7 := t7 21 (by rfl)
    have e7 := eval_at q7
    have v7 : f 7 = .bool true := g7
    have hw := wanted_some (ops := prDOps) (o := ⟨some 22, Op.fieldAddr 37 (.tmp 4) 0, 0, "tables.go:42", #[⟨7, .guard⟩], some (7, true)⟩) (a := a) (j := 7) (s := 21) (b := true) (c := true) rfl (by rfl) (by rw [← v7]; exact q7)
    have qb4 := (bas 4 (by kernel_rfl)).trans h4
    have eb4 := eval_at qb4
    have w7 : f 7 = (.bool true) := g7
    refine inv_val (G := Kd.ok z (prDK s q bf bt ni n m c s0 bb ob cp 8)) (R := fun x y => Below x.heap.size x y) (hw.trans (by decide)) (v := (.pointer (some ⟨bf, 0, none⟩))) (w2 := x) (by simp only [execOp, eb4]; go_simp) hK rfl (Below.refl _ _)
  | 9, _ =>
    obtain rfl : ⟨some 23, Op.load 9 (.tmp 22), 9, "tables.go:42", #[⟨8, .data⟩, ⟨7, .guard⟩], some (7, true)⟩ = o := Option.some.inj (show prDOps[9]? = some _ from ho)
    obtain ⟨t7, g7⟩ := dep 7 (by kernel_rfl)
    have q7 := t7 21 (by rfl)
    have e7 := eval_at q7
    have v7 : f 7 = .bool true := g7
    have hw := wanted_some (ops := prDOps) (o := ⟨some 23, Op.load 9 (.tmp 22), 9, "tables.go:42", #[⟨8, .data⟩, ⟨7, .guard⟩], some (7, true)⟩) (a := a) (j := 7) (s := 21) (b := true) (c := true) rfl (by rfl) (by rw [← v7]; exact q7)
    obtain ⟨t8, g8⟩ := dep 8 (by kernel_rfl)
    have q8 := t8 22 (by rfl)
    have e8 := eval_at q8
    have w8 : f 8 = (.pointer (some ⟨bf, 0, none⟩)) := g8
    rw [w8] at e8
    have hc := keep_cellP hR hf0
    refine inv_val (G := Kd.ok z (prDK s q bf bt ni n m c s0 bb ob cp 9)) (R := fun x y => Below x.heap.size x y) (hw.trans (by decide)) (v := (.string s)) (w2 := x) (by simp only [execOp, e8]; go_simp) hK rfl (Below.refl _ _)
  | 10, _ =>
    obtain rfl : ⟨some 24, Op.fieldAddr 69 (.tmp 1) 0, 0, "tables.go:42", #[⟨7, .guard⟩], some (7, true)⟩ = o := Option.some.inj (show prDOps[10]? = some _ from ho)
    obtain ⟨t7, g7⟩ := dep 7 (by kernel_rfl)
    have q7 := t7 21 (by rfl)
    have e7 := eval_at q7
    have v7 : f 7 = .bool true := g7
    have hw := wanted_some (ops := prDOps) (o := ⟨some 24, Op.fieldAddr 69 (.tmp 1) 0, 0, "tables.go:42", #[⟨7, .guard⟩], some (7, true)⟩) (a := a) (j := 7) (s := 21) (b := true) (c := true) rfl (by rfl) (by rw [← v7]; exact q7)
    have qb1 := (bas 1 (by kernel_rfl)).trans h1
    have eb1 := eval_at qb1
    have w7 : f 7 = (.bool true) := g7
    refine inv_val (G := Kd.ok z (prDK s q bf bt ni n m c s0 bb ob cp 10)) (R := fun x y => Below x.heap.size x y) (hw.trans (by decide)) (v := (.pointer (some ⟨bt, 0, none⟩))) (w2 := x) (by simp only [execOp, eb1]; go_simp) hK rfl (Below.refl _ _)
  | 11, _ =>
    obtain rfl : ⟨some 25, Op.fieldAddr 30 (.tmp 24) 1, 0, "tables.go:42", #[⟨10, .data⟩, ⟨7, .guard⟩], some (7, true)⟩ = o := Option.some.inj (show prDOps[11]? = some _ from ho)
    obtain ⟨t7, g7⟩ := dep 7 (by kernel_rfl)
    have q7 := t7 21 (by rfl)
    have e7 := eval_at q7
    have v7 : f 7 = .bool true := g7
    have hw := wanted_some (ops := prDOps) (o := ⟨some 25, Op.fieldAddr 30 (.tmp 24) 1, 0, "tables.go:42", #[⟨10, .data⟩, ⟨7, .guard⟩], some (7, true)⟩) (a := a) (j := 7) (s := 21) (b := true) (c := true) rfl (by rfl) (by rw [← v7]; exact q7)
    obtain ⟨t10, g10⟩ := dep 10 (by kernel_rfl)
    have q10 := t10 24 (by rfl)
    have e10 := eval_at q10
    have w7 : f 7 = (.bool true) := g7
    have w10 : f 10 = (.pointer (some ⟨bt, 0, none⟩)) := g10
    rw [w10] at e10
    refine inv_val (G := Kd.ok z (prDK s q bf bt ni n m c s0 bb ob cp 11)) (R := fun x y => Below x.heap.size x y) (hw.trans (by decide)) (v := (.pointer (some ⟨bt, 1, none⟩))) (w2 := x) (by simp only [execOp, e10]; go_simp) hK rfl (Below.refl _ _)
  | 12, _ =>
    obtain rfl : ⟨some 26, Op.load 28 (.tmp 25), 28, "tables.go:42", #[⟨11, .data⟩, ⟨7, .guard⟩], some (7, true)⟩ = o := Option.some.inj (show prDOps[12]? = some _ from ho)
    obtain ⟨t7, g7⟩ := dep 7 (by kernel_rfl)
    have q7 := t7 21 (by rfl)
    have e7 := eval_at q7
    have v7 : f 7 = .bool true := g7
    have hw := wanted_some (ops := prDOps) (o := ⟨some 26, Op.load 28 (.tmp 25), 28, "tables.go:42", #[⟨11, .data⟩, ⟨7, .guard⟩], some (7, true)⟩) (a := a) (j := 7) (s := 21) (b := true) (c := true) rfl (by rfl) (by rw [← v7]; exact q7)
    obtain ⟨t11, g11⟩ := dep 11 (by kernel_rfl)
    have q11 := t11 25 (by rfl)
    have e11 := eval_at q11
    have w11 : f 11 = (.pointer (some ⟨bt, 1, none⟩)) := g11
    rw [w11] at e11
    have hc := keep_cellP hR he1
    refine inv_val (G := Kd.ok z (prDK s q bf bt ni n m c s0 bb ob cp 12)) (R := fun x y => Below x.heap.size x y) (hw.trans (by decide)) (v := (.slice (some ⟨bb, ob, none⟩) n cp)) (w2 := x) (by simp only [execOp, e11]; go_simp) hK rfl (Below.refl _ _)
  | 13, _ =>
    obtain rfl : ⟨some 27, Op.move (.tmp 3), 3, "tables.go:42", #[⟨7, .guard⟩], some (7, true)⟩ = o := Option.some.inj (show prDOps[13]? = some _ from ho)
    obtain ⟨t7, g7⟩ := dep 7 (by kernel_rfl)
    have q7 := t7 21 (by rfl)
    have e7 := eval_at q7
    have v7 : f 7 = .bool true := g7
    have hw := wanted_some (ops := prDOps) (o := ⟨some 27, Op.move (.tmp 3), 3, "tables.go:42", #[⟨7, .guard⟩], some (7, true)⟩) (a := a) (j := 7) (s := 21) (b := true) (c := true) rfl (by rfl) (by rw [← v7]; exact q7)
    have qb3 := (bas 3 (by kernel_rfl)).trans h3
    have eb3 := eval_at qb3
    have w7 : f 7 = (.bool true) := g7
    refine inv_val (G := Kd.ok z (prDK s q bf bt ni n m c s0 bb ob cp 13)) (R := fun x y => Below x.heap.size x y) (hw.trans (by decide)) (v := (.int .i64 (ni : Nat))) (w2 := x) (by simp only [execOp, eb3]; go_simp) hK rfl (Below.refl _ _)
  | 14, _ =>
    obtain rfl : ⟨some 28, Op.binOp BinOp.sub 3 (.tmp 27) (.const (.int .i64 1)) 3, 3, "tables.go:42", #[⟨13, .data⟩, ⟨7, .guard⟩], some (7, true)⟩ = o := Option.some.inj (show prDOps[14]? = some _ from ho)
    obtain ⟨t7, g7⟩ := dep 7 (by kernel_rfl)
    have q7 := t7 21 (by rfl)
    have e7 := eval_at q7
    have v7 : f 7 = .bool true := g7
    have hw := wanted_some (ops := prDOps) (o := ⟨some 28, Op.binOp BinOp.sub 3 (.tmp 27) (.const (.int .i64 1)) 3, 3, "tables.go:42", #[⟨13, .data⟩, ⟨7, .guard⟩], some (7, true)⟩) (a := a) (j := 7) (s := 21) (b := true) (c := true) rfl (by rfl) (by rw [← v7]; exact q7)
    obtain ⟨t13, g13⟩ := dep 13 (by kernel_rfl)
    have q13 := t13 27 (by rfl)
    have e13 := eval_at q13
    have w7 : f 7 = (.bool true) := g7
    have w13 : f 13 = (.int .i64 (ni : Nat)) := g13
    rw [w13] at e13
    refine inv_val (G := Kd.ok z (prDK s q bf bt ni n m c s0 bb ob cp 14)) (R := fun x y => Below x.heap.size x y) (hw.trans (by decide)) (v := (.int .i64 ((ni : Int) - 1))) (w2 := x) (by simp only [execOp, e13]; go_simp) hK rfl (Below.refl _ _)
  | 15, _ =>
    obtain rfl : ⟨some 29, Op.indexAddr 28 (.tmp 26) (.tmp 28), 0, "tables.go:42", #[⟨12, .data⟩, ⟨14, .data⟩, ⟨7, .guard⟩], some (7, true)⟩ = o := Option.some.inj (show prDOps[15]? = some _ from ho)
    obtain ⟨t7, g7⟩ := dep 7 (by kernel_rfl)
    have q7 := t7 21 (by rfl)
    have e7 := eval_at q7
    have v7 : f 7 = .bool true := g7
    have hw := wanted_some (ops := prDOps) (o := ⟨some 29, Op.indexAddr 28 (.tmp 26) (.tmp 28), 0, "tables.go:42", #[⟨12, .data⟩, ⟨14, .data⟩, ⟨7, .guard⟩], some (7, true)⟩) (a := a) (j := 7) (s := 21) (b := true) (c := true) rfl (by rfl) (by rw [← v7]; exact q7)
    obtain ⟨t12, g12⟩ := dep 12 (by kernel_rfl)
    have q12 := t12 26 (by rfl)
    have e12 := eval_at q12
    obtain ⟨t14, g14⟩ := dep 14 (by kernel_rfl)
    have q14 := t14 28 (by rfl)
    have e14 := eval_at q14
    have w7 : f 7 = (.bool true) := g7
    have w12 : f 12 = (.slice (some ⟨bb, ob, none⟩) n cp) := g12
    have w14 : f 14 = (.int .i64 ((ni : Int) - 1)) := g14
    rw [w12] at e12
    rw [w14] at e14
    refine inv_val (G := Kd.ok z (prDK s q bf bt ni n m c s0 bb ob cp 15)) (R := fun x y => Below x.heap.size x y) (hw.trans (by decide)) (v := (.pointer (some ⟨bb, ob + (ni - 1) * 2, none⟩))) (w2 := x) (by simp only [execOp, e12, e14]; go_simp; intro h; exact absurd (h (by omega)) (by omega)) hK rfl (Below.refl _ _)
  | 16, _ =>
    obtain rfl : ⟨some 30, Op.fieldAddr 37 (.tmp 29) 0, 0, "tables.go:42", #[⟨15, .data⟩, ⟨7, .guard⟩], some (7, true)⟩ = o := Option.some.inj (show prDOps[16]? = some _ from ho)
    obtain ⟨t7, g7⟩ := dep 7 (by kernel_rfl)
    have q7 := t7 21 (by rfl)
    have e7 := eval_at q7
    have v7 : f 7 = .bool true := g7
    have hw := wanted_some (ops := prDOps) (o := ⟨some 30, Op.fieldAddr 37 (.tmp 29) 0, 0, "tables.go:42", #[⟨15, .data⟩, ⟨7, .guard⟩], some (7, true)⟩) (a := a) (j := 7) (s := 21) (b := true) (c := true) rfl (by rfl) (by rw [← v7]; exact q7)
    obtain ⟨t15, g15⟩ := dep 15 (by kernel_rfl)
    have q15 := t15 29 (by rfl)
    have e15 := eval_at q15
    have w7 : f 7 = (.bool true) := g7
    have w15 : f 15 = (.pointer (some ⟨bb, ob + (ni - 1) * 2, none⟩)) := g15
    rw [w15] at e15
    refine inv_val (G := Kd.ok z (prDK s q bf bt ni n m c s0 bb ob cp 16)) (R := fun x y => Below x.heap.size x y) (hw.trans (by decide)) (v := (.pointer (some ⟨bb, ob + (ni - 1) * 2, none⟩))) (w2 := x) (by simp only [execOp, e15]; go_simp) hK rfl (Below.refl _ _)
  | 17, _ =>
    obtain rfl : ⟨some 31, Op.load 9 (.tmp 30), 9, "tables.go:42", #[⟨16, .data⟩, ⟨7, .guard⟩], some (7, true)⟩ = o := Option.some.inj (show prDOps[17]? = some _ from ho)
    obtain ⟨t7, g7⟩ := dep 7 (by kernel_rfl)
    have q7 := t7 21 (by rfl)
    have e7 := eval_at q7
    have v7 : f 7 = .bool true := g7
    have hw := wanted_some (ops := prDOps) (o := ⟨some 31, Op.load 9 (.tmp 30), 9, "tables.go:42", #[⟨16, .data⟩, ⟨7, .guard⟩], some (7, true)⟩) (a := a) (j := 7) (s := 21) (b := true) (c := true) rfl (by rfl) (by rw [← v7]; exact q7)
    obtain ⟨t16, g16⟩ := dep 16 (by kernel_rfl)
    have q16 := t16 30 (by rfl)
    have e16 := eval_at q16
    have w16 : f 16 = (.pointer (some ⟨bb, ob + (ni - 1) * 2, none⟩)) := g16
    rw [w16] at e16
    have hc := keep_cellP hR he2
    refine inv_val (G := Kd.ok z (prDK s q bf bt ni n m c s0 bb ob cp 17)) (R := fun x y => Below x.heap.size x y) (hw.trans (by decide)) (v := (.string s0)) (w2 := x) (by simp only [execOp, e16]; go_simp) hK rfl (Below.refl _ _)
  | 18, _ =>
    obtain rfl : ⟨some 32, Op.binOp BinOp.leq 9 (.tmp 23) (.tmp 31) 9, 4, "tables.go:42", #[⟨9, .data⟩, ⟨17, .data⟩, ⟨7, .guard⟩], some (7, true)⟩ = o := Option.some.inj (show prDOps[18]? = some _ from ho)
    obtain ⟨t7, g7⟩ := dep 7 (by kernel_rfl)
    have q7 := t7 21 (by rfl)
    have e7 := eval_at q7
    have v7 : f 7 = .bool true := g7
    have hw := wanted_some (ops := prDOps) (o := ⟨some 32, Op.binOp BinOp.leq 9 (.tmp 23) (.tmp 31) 9, 4, "tables.go:42", #[⟨9, .data⟩, ⟨17, .data⟩, ⟨7, .guard⟩], some (7, true)⟩) (a := a) (j := 7) (s := 21) (b := true) (c := true) rfl (by rfl) (by rw [← v7]; exact q7)
    obtain ⟨t9, g9⟩ := dep 9 (by kernel_rfl)
    have q9 := t9 23 (by rfl)
    have e9 := eval_at q9
    obtain ⟨t17, g17⟩ := dep 17 (by kernel_rfl)
    have q17 := t17 31 (by rfl)
    have e17 := eval_at q17
    have w7 : f 7 = (.bool true) := g7
    have w9 : f 9 = (.string s) := g9
    have w17 : f 17 = (.string s0) := g17
    rw [w9] at e9
    rw [w17] at e17
    refine inv_val (G := Kd.ok z (prDK s q bf bt ni n m c s0 bb ob cp 18)) (R := fun x y => Below x.heap.size x y) (hw.trans (by decide)) (v := (.bool true)) (w2 := x) (by simp only [execOp, e9, e17]; go_simp; first | exact hle | simpa [leB] using hle) hK rfl (Below.refl _ _)
  | 19, _ =>
    obtain rfl : ⟨some 33, Op.pick (.tmp 21) (.tmp 32) (.const (Value.bool false)), 4, "tables.go:42", #[⟨7, .data⟩, ⟨18, .data⟩, ⟨4, .guard⟩], some (4, false)⟩ = o := Option.some.inj (show prDOps[19]? = some _ from ho)
    obtain ⟨t4, g4⟩ := dep 4 (by kernel_rfl)
    have q4 := t4 18 (by rfl)
    have e4 := eval_at q4
    have v4 : f 4 = .bool false := g4
    have hw := wanted_some (ops := prDOps) (o := ⟨some 33, Op.pick (.tmp 21) (.tmp 32) (.const (Value.bool false)), 4, "tables.go:42", #[⟨7, .data⟩, ⟨18, .data⟩, ⟨4, .guard⟩], some (4, false)⟩) (a := a) (j := 4) (s := 18) (b := false) (c := false) rfl (by rfl) (by rw [← v4]; exact q4)
    obtain ⟨t7, g7⟩ := dep 7 (by kernel_rfl)
    have q7 := t7 21 (by rfl)
    have e7 := eval_at q7
    obtain ⟨t18, g18⟩ := dep 18 (by kernel_rfl)
    have q18 := t18 32 (by rfl)
    have e18 := eval_at q18
    have w4 : f 4 = (.bool false) := g4
    have w7 : f 7 = (.bool true) := g7
    have w18 : f 18 = (.bool true) := g18
    rw [w7] at e7
    rw [w18] at e18
    refine inv_val (G := Kd.ok z (prDK s q bf bt ni n m c s0 bb ob cp 19)) (R := fun x y => Below x.heap.size x y) (hw.trans (by decide)) (v := (.bool true)) (w2 := x) (by simp only [execOp, e7, e18]; go_simp) hK rfl (Below.refl _ _)
  | 20, _ =>
    obtain rfl : ⟨some 34, Op.pick (.tmp 18) (.const (Value.bool true)) (.tmp 33), 4, "tables.go:42", #[⟨4, .data⟩, ⟨19, .data⟩], none⟩ = o := Option.some.inj (show prDOps[20]? = some _ from ho)
    obtain ⟨t4, g4⟩ := dep 4 (by kernel_rfl)
    have q4 := t4 18 (by rfl)
    have e4 := eval_at q4
    obtain ⟨t19, g19⟩ := dep 19 (by kernel_rfl)
    have q19 := t19 33 (by rfl)
    have e19 := eval_at q19
    have w4 : f 4 = (.bool false) := g4
    have w19 : f 19 = (.bool true) := g19
    rw [w4] at e4
    rw [w19] at e19
    refine inv_val (G := Kd.ok z (prDK s q bf bt ni n m c s0 bb ob cp 20)) (R := fun x y => Below x.heap.size x y) (wanted_none rfl) (v := (.bool true)) (w2 := x) (by simp only [execOp, e4, e19]; go_simp) hK rfl (Below.refl _ _)
  | 21, _ =>
    obtain rfl : ⟨some 35, Op.move (.tmp 34), 4, "tables.go:42", #[⟨20, .data⟩, ⟨7, .chain⟩], none⟩ = o := Option.some.inj (show prDOps[21]? = some _ from ho)
    obtain ⟨t20, g20⟩ := dep 20 (by kernel_rfl)
    have q20 := t20 34 (by rfl)
    have e20 := eval_at q20
    have w20 : f 20 = (.bool true) := g20
    rw [w20] at e20
    refine inv_val (G := Kd.ok z (prDK s q bf bt ni n m c s0 bb ob cp 21)) (R := fun x y => Below x.heap.size x y) (wanted_none rfl) (v := (.bool true)) (w2 := x) (by simp only [execOp, e20]; go_simp) hK rfl (Below.refl _ _)
  | 22, _ =>
    obtain rfl : ⟨some 36, Op.fieldAddr 37 (.tmp 4) 1, 0, "tables.go:42", #[⟨21, .guard⟩], some (21, false)⟩ = o := Option.some.inj (show prDOps[22]? = some _ from ho)
    obtain ⟨t21, g21⟩ := dep 21 (by kernel_rfl)
    have q21 := t21 35 (by rfl)
    have e21 := eval_at q21
    have v21 : f 21 = .bool true := g21
    have hw := wanted_some (ops := prDOps) (o := ⟨some 36, Op.fieldAddr 37 (.tmp 4) 1, 0, "tables.go:42", #[⟨21, .guard⟩], some (21, false)⟩) (a := a) (j := 21) (s := 35) (b := false) (c := true) rfl (by rfl) (by rw [← v21]; exact q21)
    exact inv_left (G := Kd.ok z (prDK s q bf bt ni n m c s0 bb ob cp 22)) (R := fun x y => Below x.heap.size x y) (hw.trans (by decide)) hK rfl (Below.refl _ _)
  | 23, _ =>
    obtain rfl : ⟨some 37, Op.load 25 (.tmp 36), 25, "tables.go:42", #[⟨22, .data⟩, ⟨21, .guard⟩], some (21, false)⟩ = o := Option.some.inj (show prDOps[23]? = some _ from ho)
    obtain ⟨t21, g21⟩ := dep 21 (by kernel_rfl)
    have q21 := t21 35 (by rfl)
    have e21 := eval_at q21
    have v21 : f 21 = .bool true := g21
    have hw := wanted_some (ops := prDOps) (o := ⟨some 37, Op.load 25 (.tmp 36), 25, "tables.go:42", #[⟨22, .data⟩, ⟨21, .guard⟩], some (21, false)⟩) (a := a) (j := 21) (s := 35) (b := false) (c := true) rfl (by rfl) (by rw [← v21]; exact q21)
    exact inv_left (G := Kd.ok z (prDK s q bf bt ni n m c s0 bb ob cp 23)) (R := fun x y => Below x.heap.size x y) (hw.trans (by decide)) hK rfl (Below.refl _ _)
  | 24, _ =>
    obtain rfl : ⟨some 38, Op.call { callee := Callee.builtin Builtin.len, args := #[.tmp 37], argTypes := #[25] }, 3, "tables.go:42", #[⟨23, .data⟩, ⟨21, .guard⟩], some (21, false)⟩ = o := Option.some.inj (show prDOps[24]? = some _ from ho)
    obtain ⟨t21, g21⟩ := dep 21 (by kernel_rfl)
    have q21 := t21 35 (by rfl)
    have e21 := eval_at q21
    have v21 : f 21 = .bool true := g21
    have hw := wanted_some (ops := prDOps) (o := ⟨some 38, Op.call { callee := Callee.builtin Builtin.len, args := #[.tmp 37], argTypes := #[25] }, 3, "tables.go:42", #[⟨23, .data⟩, ⟨21, .guard⟩], some (21, false)⟩) (a := a) (j := 21) (s := 35) (b := false) (c := true) rfl (by rfl) (by rw [← v21]; exact q21)
    exact inv_left (G := Kd.ok z (prDK s q bf bt ni n m c s0 bb ob cp 24)) (R := fun x y => Below x.heap.size x y) (hw.trans (by decide)) hK rfl (Below.refl _ _)
  | 25, _ =>
    obtain rfl : ⟨some 39, Op.binOp BinOp.gtr 3 (.tmp 38) (.const (.int .i64 2000)) 3, 4, "tables.go:42", #[⟨24, .data⟩, ⟨21, .guard⟩], some (21, false)⟩ = o := Option.some.inj (show prDOps[25]? = some _ from ho)
    obtain ⟨t21, g21⟩ := dep 21 (by kernel_rfl)
    have q21 := t21 35 (by rfl)
    have e21 := eval_at q21
    have v21 : f 21 = .bool true := g21
    have hw := wanted_some (ops := prDOps) (o := ⟨some 39, Op.binOp BinOp.gtr 3 (.tmp 38) (.const (.int .i64 2000)) 3, 4, "tables.go:42", #[⟨24, .data⟩, ⟨21, .guard⟩], some (21, false)⟩) (a := a) (j := 21) (s := 35) (b := false) (c := true) rfl (by rfl) (by rw [← v21]; exact q21)
    exact inv_left (G := Kd.ok z (prDK s q bf bt ni n m c s0 bb ob cp 25)) (R := fun x y => Below x.heap.size x y) (hw.trans (by decide)) hK rfl (Below.refl _ _)
  | 26, _ =>
    obtain rfl : ⟨some 40, Op.pick (.tmp 35) (.const (Value.bool true)) (.tmp 39), 4, "tables.go:42", #[⟨21, .data⟩, ⟨25, .data⟩], none⟩ = o := Option.some.inj (show prDOps[26]? = some _ from ho)
    obtain ⟨t21, g21⟩ := dep 21 (by kernel_rfl)
    have q21 := t21 35 (by rfl)
    have e21 := eval_at q21
    obtain ⟨t25, g25⟩ := dep 25 (by kernel_rfl)
    have q25 := t25 39 (by rfl)
    have e25 := eval_at q25
    have w21 : f 21 = (.bool true) := g21
    have w25 : f 25 = undef := g25
    rw [w21] at e21
    refine inv_val (G := Kd.ok z (prDK s q bf bt ni n m c s0 bb ob cp 26)) (R := fun x y => Below x.heap.size x y) (wanted_none rfl) (v := (.bool true)) (w2 := x) (by simp only [execOp, e21, e25]; go_simp) hK rfl (Below.refl _ _)
  | 27, _ =>
    obtain rfl : ⟨some 41, Op.move (.tmp 40), 4, "tables.go:42", #[⟨26, .data⟩, ⟨21, .chain⟩], none⟩ = o := Option.some.inj (show prDOps[27]? = some _ from ho)
    obtain ⟨t26, g26⟩ := dep 26 (by kernel_rfl)
    have q26 := t26 40 (by rfl)
    have e26 := eval_at q26
    have w26 : f 26 = (.bool true) := g26
    rw [w26] at e26
    refine inv_val (G := Kd.ok z (prDK s q bf bt ni n m c s0 bb ob cp 27)) (R := fun x y => Below x.heap.size x y) (wanted_none rfl) (v := (.bool true)) (w2 := x) (by simp only [execOp, e26]; go_simp) hK rfl (Below.refl _ _)
  | 28, _ =>
    obtain rfl : ⟨some 42, Op.fieldAddr 37 (.tmp 4) 1, 0, "tables.go:42", #[⟨27, .guard⟩], some (27, false)⟩ = o := Option.some.inj (show prDOps[28]? = some _ from ho)
    obtain ⟨t27, g27⟩ := dep 27 (by kernel_rfl)
    have q27 := t27 41 (by rfl)
    have e27 := eval_at q27
    have v27 : f 27 = .bool true := g27
    have hw := wanted_some (ops := prDOps) (o := ⟨some 42, Op.fieldAddr 37 (.tmp 4) 1, 0, "tables.go:42", #[⟨27, .guard⟩], some (27, false)⟩) (a := a) (j := 27) (s := 41) (b := false) (c := true) rfl (by rfl) (by rw [← v27]; exact q27)
    exact inv_left (G := Kd.ok z (prDK s q bf bt ni n m c s0 bb ob cp 28)) (R := fun x y => Below x.heap.size x y) (hw.trans (by decide)) hK rfl (Below.refl _ _)
  | 29, _ =>
    obtain rfl : ⟨some 43, Op.load 25 (.tmp 42), 25, "tables.go:42", #[⟨28, .data⟩, ⟨27, .guard⟩], some (27, false)⟩ = o := Option.some.inj (show prDOps[29]? = some _ from ho)
    obtain ⟨t27, g27⟩ := dep 27 (by kernel_rfl)
    have q27 := t27 41 (by rfl)
    have e27 := eval_at q27
    have v27 : f 27 = .bool true := g27
    have hw := wanted_some (ops := prDOps) (o := ⟨some 43, Op.load 25 (.tmp 42), 25, "tables.go:42", #[⟨28, .data⟩, ⟨27, .guard⟩], some (27, false)⟩) (a := a) (j := 27) (s := 41) (b := false) (c := true) rfl (by rfl) (by rw [← v27]; exact q27)
    exact inv_left (G := Kd.ok z (prDK s q bf bt ni n m c s0 bb ob cp 29)) (R := fun x y => Below x.heap.size x y) (hw.trans (by decide)) hK rfl (Below.refl _ _)
  | 30, _ =>
    obtain rfl : ⟨some 44, Op.call { callee := Callee.value (.func 116), args := #[.tmp 43], argTypes := #[25] }, 4, "tables.go:42", #[⟨29, .data⟩, ⟨27, .chain⟩, ⟨27, .guard⟩], some (27, false)⟩ = o := Option.some.inj (show prDOps[30]? = some _ from ho)
    obtain ⟨t27, g27⟩ := dep 27 (by kernel_rfl)
    have q27 := t27 41 (by rfl)
    have e27 := eval_at q27
    have v27 : f 27 = .bool true := g27
    have hw := wanted_some (ops := prDOps) (o := ⟨some 44, Op.call { callee := Callee.value (.func 116), args := #[.tmp 43], argTypes := #[25] }, 4, "tables.go:42", #[⟨29, .data⟩, ⟨27, .chain⟩, ⟨27, .guard⟩], some (27, false)⟩) (a := a) (j := 27) (s := 41) (b := false) (c := true) rfl (by rfl) (by rw [← v27]; exact q27)
    exact inv_left (G := Kd.ok z (prDK s q bf bt ni n m c s0 bb ob cp 30)) (R := fun x y => Below x.heap.size x y) (hw.trans (by decide)) hK rfl (Below.refl _ _)
  | 31, _ =>
    obtain rfl : ⟨some 45, Op.unOp UnOp.not 4 (.tmp 44), 4, "tables.go:42", #[⟨30, .data⟩, ⟨27, .guard⟩], some (27, false)⟩ = o := Option.some.inj (show prDOps[31]? = some _ from ho)
    obtain ⟨t27, g27⟩ := dep 27 (by kernel_rfl)
    have q27 := t27 41 (by rfl)
    have e27 := eval_at q27
    have v27 : f 27 = .bool true := g27
    have hw := wanted_some (ops := prDOps) (o := ⟨some 45, Op.unOp UnOp.not 4 (.tmp 44), 4, "tables.go:42", #[⟨30, .data⟩, ⟨27, .guard⟩], some (27, false)⟩) (a := a) (j := 27) (s := 41) (b := false) (c := true) rfl (by rfl) (by rw [← v27]; exact q27)
    exact inv_left (G := Kd.ok z (prDK s q bf bt ni n m c s0 bb ob cp 31)) (R := fun x y => Below x.heap.size x y) (hw.trans (by decide)) hK rfl (Below.refl _ _)
  | 32, _ =>
    obtain rfl : ⟨some 46, Op.pick (.tmp 41) (.const (Value.bool true)) (.tmp 45), 4, "tables.go:42", #[⟨27, .data⟩, ⟨31, .data⟩], none⟩ = o := Option.some.inj (show prDOps[32]? = some _ from ho)
    obtain ⟨t27, g27⟩ := dep 27 (by kernel_rfl)
    have q27 := t27 41 (by rfl)
    have e27 := eval_at q27
    obtain ⟨t31, g31⟩ := dep 31 (by kernel_rfl)
    have q31 := t31 45 (by rfl)
    have e31 := eval_at q31
    have w27 : f 27 = (.bool true) := g27
    have w31 : f 31 = undef := g31
    rw [w27] at e27
    refine inv_val (G := Kd.ok z (prDK s q bf bt ni n m c s0 bb ob cp 32)) (R := fun x y => Below x.heap.size x y) (wanted_none rfl) (v := (.bool true)) (w2 := x) (by simp only [execOp, e27, e31]; go_simp) hK rfl (Below.refl _ _)

def prEOps : Array Oper := #[⟨some 14, Op.fieldAddr 37 (.tmp 4) 0, 0, "tables.go:42", #[], none⟩,
  ⟨some 15, Op.load 9 (.tmp 14), 9, "tables.go:42", #[⟨0, .data⟩], none⟩,
  ⟨some 16, Op.call ⟨.value (.func 115), #[.tmp 15], #[9]⟩, 4, "tables.go:42", #[⟨1, .data⟩], none⟩,
  ⟨some 17, Op.unOp UnOp.not 4 (.tmp 16), 4, "tables.go:42", #[⟨2, .data⟩], none⟩,
  ⟨some 18, Op.move (.tmp 17), 4, "tables.go:42", #[⟨3, .data⟩, ⟨2, .chain⟩], none⟩,
  ⟨some 19, Op.move (.tmp 3), 3, "tables.go:42", #[⟨4, .guard⟩], some (4, false)⟩,
  ⟨some 20, Op.binOp BinOp.gtr 3 (.tmp 19) (.const (.int .i64 0)) 3, 4, "tables.go:42", #[⟨5, .data⟩, ⟨4, .guard⟩], some (4, false)⟩,
  ⟨some 21, Op.move (.tmp 20), 4, "tables.go:42", #[⟨6, .data⟩, ⟨4, .chain⟩, ⟨4, .guard⟩], some (4, false)⟩,
  ⟨some 22, Op.fieldAddr 37 (.tmp 4) 0, 0, "tables.go:42", #[⟨7, .guard⟩], some (7, true)⟩,
  ⟨some 23, Op.load 9 (.tmp 22), 9, "tables.go:42", #[⟨8, .data⟩, ⟨7, .guard⟩], some (7, true)⟩,
  ⟨some 24, Op.fieldAddr 69 (.tmp 1) 0, 0, "tables.go:42", #[⟨7, .guard⟩], some (7, true)⟩,
  ⟨some 25, Op.fieldAddr 30 (.tmp 24) 1, 0, "tables.go:42", #[⟨10, .data⟩, ⟨7, .guard⟩], some (7, true)⟩,
  ⟨some 26, Op.load 28 (.tmp 25), 28, "tables.go:42", #[⟨11, .data⟩, ⟨7, .guard⟩], some (7, true)⟩,
  ⟨some 27, Op.move (.tmp 3), 3, "tables.go:42", #[⟨7, .guard⟩], some (7, true)⟩,
  ⟨some 28, Op.binOp BinOp.sub 3 (.tmp 27) (.const (.int .i64 1)) 3, 3, "tables.go:42", #[⟨13, .data⟩, ⟨7, .guard⟩], some (7, true)⟩,
  ⟨some 29, Op.indexAddr 28 (.tmp 26) (.tmp 28), 0, "tables.go:42", #[⟨12, .data⟩, ⟨14, .data⟩, ⟨7, .guard⟩], some (7, true)⟩,
  ⟨some 30, Op.fieldAddr 37 (.tmp 29) 0, 0, "tables.go:42", #[⟨15, .data⟩, ⟨7, .guard⟩], some (7, true)⟩,
  ⟨some 31, Op.load 9 (.tmp 30), 9, "tables.go:42", #[⟨16, .data⟩, ⟨7, .guard⟩], some (7, true)⟩,
  ⟨some 32, Op.binOp BinOp.leq 9 (.tmp 23) (.tmp 31) 9, 4, "tables.go:42", #[⟨9, .data⟩, ⟨17, .data⟩, ⟨7, .guard⟩], some (7, true)⟩,
  ⟨some 33, Op.pick (.tmp 21) (.tmp 32) (.const (Value.bool false)), 4, "tables.go:42", #[⟨7, .data⟩, ⟨18, .data⟩, ⟨4, .guard⟩], some (4, false)⟩,
  ⟨some 34, Op.pick (.tmp 18) (.const (Value.bool true)) (.tmp 33), 4, "tables.go:42", #[⟨4, .data⟩, ⟨19, .data⟩], none⟩,
  ⟨some 35, Op.move (.tmp 34), 4, "tables.go:42", #[⟨20, .data⟩, ⟨7, .chain⟩], none⟩,
  ⟨some 36, Op.fieldAddr 37 (.tmp 4) 1, 0, "tables.go:42", #[⟨21, .guard⟩], some (21, false)⟩,
  ⟨some 37, Op.load 25 (.tmp 36), 25, "tables.go:42", #[⟨22, .data⟩, ⟨21, .guard⟩], some (21, false)⟩,
  ⟨some 38, Op.call { callee := Callee.builtin Builtin.len, args := #[.tmp 37], argTypes := #[25] }, 3, "tables.go:42", #[⟨23, .data⟩, ⟨21, .guard⟩], some (21, false)⟩,
  ⟨some 39, Op.binOp BinOp.gtr 3 (.tmp 38) (.const (.int .i64 2000)) 3, 4, "tables.go:42", #[⟨24, .data⟩, ⟨21, .guard⟩], some (21, false)⟩,
  ⟨some 40, Op.pick (.tmp 35) (.const (Value.bool true)) (.tmp 39), 4, "tables.go:42", #[⟨21, .data⟩, ⟨25, .data⟩], none⟩,
  ⟨some 41, Op.move (.tmp 40), 4, "tables.go:42", #[⟨26, .data⟩, ⟨21, .chain⟩], none⟩,
  ⟨some 42, Op.fieldAddr 37 (.tmp 4) 1, 0, "tables.go:42", #[⟨27, .guard⟩], some (27, false)⟩,
  ⟨some 43, Op.load 25 (.tmp 42), 25, "tables.go:42", #[⟨28, .data⟩, ⟨27, .guard⟩], some (27, false)⟩,
  ⟨some 44, Op.call { callee := Callee.value (.func 116), args := #[.tmp 43], argTypes := #[25] }, 4, "tables.go:42", #[⟨29, .data⟩, ⟨27, .chain⟩, ⟨27, .guard⟩], some (27, false)⟩,
  ⟨some 45, Op.unOp UnOp.not 4 (.tmp 44), 4, "tables.go:42", #[⟨30, .data⟩, ⟨27, .guard⟩], some (27, false)⟩,
  ⟨some 46, Op.pick (.tmp 41) (.const (Value.bool true)) (.tmp 45), 4, "tables.go:42", #[⟨27, .data⟩, ⟨31, .data⟩], none⟩]
def prEPre : Array Bool := #[true, true, true, true, true, true, true, true, true, true, true, true, true, true, true, true, true, true, true, true, true, true, true, true, true, true, true, true, true, true, true, true, true]
def prEK (s : ByteArray) (q : Option Addr) (bf bt ni n m c : Nat) (s0 : ByteArray) (bb ob cp : Nat) : Nat → Kd
  | 0 => .val (.pointer (some ⟨bf, 0, none⟩))
  | 1 => .val (.string s)
  | 2 => .val (.bool true)
  | 3 => .val (.bool false)
  | 4 => .val (.bool false)
  | 5 => .val (.int .i64 (ni : Nat))
  | 6 => .val (.bool true)
  | 7 => .val (.bool true)
  | 8 => .val (.pointer (some ⟨bf, 0, none⟩))
  | 9 => .val (.string s)
  | 10 => .val (.pointer (some ⟨bt, 0, none⟩))
  | 11 => .val (.pointer (some ⟨bt, 1, none⟩))
  | 12 => .val (.slice (some ⟨bb, ob, none⟩) n cp)
  | 13 => .val (.int .i64 (ni : Nat))
  | 14 => .val (.int .i64 ((ni : Int) - 1))
  | 15 => .val (.pointer (some ⟨bb, ob + (ni - 1) * 2, none⟩))
  | 16 => .val (.pointer (some ⟨bb, ob + (ni - 1) * 2, none⟩))
  | 17 => .val (.string s0)
  | 18 => .val (.bool false)
  | 19 => .val (.bool false)
  | 20 => .val (.bool false)
  | 21 => .val (.bool false)
  | 22 => .val (.pointer (some ⟨bf, 1, none⟩))
  | 23 => .val (.slice q m c)
  | 24 => .val (.int .i64 (m : Nat))
  | 25 => .val (.bool true)
  | 26 => .val (.bool true)
  | 27 => .val (.bool true)
  | 28 => .val undef
  | 29 => .val undef
  | 30 => .val undef
  | 31 => .val undef
  | 32 => .val (.bool true)
  | _ => .val undef
theorem prE_slots (f : Nat → Value) : slotsOf prEOps prEPre f = [(14, f 0), (15, f 1), (16, f 2), (17, f 3), (18, f 4), (19, f 5), (20, f 6), (21, f 7), (22, f 8), (23, f 9), (24, f 10), (25, f 11), (26, f 12), (27, f 13), (28, f 14), (29, f 15), (30, f 16), (31, f 17), (32, f 18), (33, f 19), (34, f 20), (35, f 21), (36, f 22), (37, f 23), (38, f 24), (39, f 25), (40, f 26), (41, f 27), (42, f 28), (43, f 29), (44, f 30), (45, f 31), (46, f 32)] := by kernel_rfl
set_option maxHeartbeats 6400000 in
set_option maxRecDepth 100000 in
theorem prE_wp {Q : Exit → Act → World → Prop} {a0 : Act} {w : World} {z : Nat} (s : ByteArray) (q : Option Addr) (bf bt ni n m c : Nat) (s0 : ByteArray) (bb ob cp : Nat) (hz : z ≤ w.drew.heap.size) (hsize : a0.tmps.size = 48) (h4 : a0.tmps[4]? = some (.pointer (some ⟨bf, 0, none⟩))) (h3 : a0.tmps[3]? = some (.int .i64 (ni : Nat))) (h1 : a0.tmps[1]? = some (.pointer (some ⟨bt, 0, none⟩))) (hf0 : w.drew.cell? ⟨bf, 0, none⟩ = some (.string s)) (hf1 : w.drew.cell? ⟨bf, 1, none⟩ = some (.slice q m c)) (_hmI : (m : Int) ≤ 10000000000000) (_hnI : (n : Int) ≤ 10000000000000) (hnm : nameB s.data.toList = true) (hi0 : 0 < (ni : Int)) (hiI : (ni : Int) < n) (hnt : ((ni : Int) - 1).toNat = ni - 1) (hw1 : IntKind.i64.wrap ((ni : Int) - 1) = (ni : Int) - 1) (he1 : w.drew.cell? ⟨bt, 1, none⟩ = some (.slice (some ⟨bb, ob, none⟩) n cp)) (he2 : w.drew.cell? ⟨bb, ob + (ni - 1) * 2, none⟩ = some (.string s0)) (hle : leB s s0 = false) (hbig : 2000 < (m : Int)) 
    (fin : ∀ (f : Nat → Value) (y : World), (∀ j, j < 33 → prEPre.getD j false = true → Kd.ok z (prEK s q bf bt ni n m c s0 bb ob cp j) (f j) y) → Below w.drew.heap.size w.drew y → Q .normal (putL a0 [(14, f 0), (15, f 1), (16, f 2), (17, f 3), (18, f 4), (19, f 5), (20, f 6), (21, f 7), (22, f 8), (23, f 9), (24, f 10), (25, f 11), (26, f 12), (27, f 13), (28, f 14), (29, f 15), (30, f 16), (31, f 17), (32, f 18), (33, f 19), (34, f 20), (35, f 21), (36, f 22), (37, f 23), (38, f 24), (39, f 25), (40, f 26), (41, f 27), (42, f 28), (43, f 29), (44, f 30), (45, f 31), (46, f 32)]) y) (id : Nat) :
    (Code.region id prEOps true).wp Tryz.prog Q a0 w := by
  refine wp_region_inv prEPre (fun j => Kd.ok z (prEK s q bf bt ni n m c s0 bb ob cp j)) (fun x y => Below x.heap.size x y) 33 0 (by kernel_rfl) (by kernel_rfl) (by rw [hsize]; kernel_rfl) (by kernel_rfl) (by kernel_rfl) (Below.refl _ _) (fun _ _ _ h1 h2 => bl_trans h1 h2) (fun _ _ _ _ h1 h2 => Kd.below h1 h2) ?_ (fun f y h1 h2 => by rw [prE_slots]; exact any_end (by kernel_rfl) (fin f y h1 h2) 0)
  intro i o ho hp f a x hR hbase hdeps K hK
  have hi : i < 33 := by
    rcases Nat.lt_or_ge i 33 with h | h
    · exact h
    · have : prEOps.size ≤ i := h
      rw [Array.getElem?_eq_none this] at ho; cases ho
  have hzx : z ≤ x.heap.size := Nat.le_trans hz hR.size
  have dep : ∀ j, (o.after.any fun e => Region.binds .any e && e.on == j) = true → (∀ s, slotOf prEOps j = some s → a.tmps[s]? = some (f j)) ∧ Kd.ok z (prEK s q bf bt ni n m c s0 bb ob cp j) (f j) x := by
    intro j h
    obtain ⟨e, he, h2⟩ := Array.any_eq_true'.1 h
    simp only [Bool.and_eq_true, beq_iff_eq] at h2
    obtain ⟨h3, rfl⟩ := h2
    exact hdeps e he h3
  have bas : ∀ s, ((List.range prEOps.size).all fun j => slotOf prEOps j != some s) = true → a.tmps[s]? = a0.tmps[s]? := by
    intro s h
    refine hbase s fun j hj _ e => ?_
    have h2 := (List.all_eq_true.1 h) j (List.mem_range.2 hj)
    rw [e] at h2; simp at h2
  match i, hi with
  | 0, _ =>
    obtain rfl : ⟨some 14, Op.fieldAddr 37 (.tmp 4) 0, 0, "tables.go:42", #[], none⟩ = o := Option.some.inj (show prEOps[0]? = some _ from ho)
    have qb4 := (bas 4 (by kernel_rfl)).trans h4
    have eb4 := eval_at qb4
    refine inv_val (G := Kd.ok z (prEK s q bf bt ni n m c s0 bb ob cp 0)) (R := fun x y => Below x.heap.size x y) (wanted_none rfl) (v := (.pointer (some ⟨bf, 0, none⟩))) (w2 := x) (by simp only [execOp, eb4]; go_simp) hK rfl (Below.refl _ _)
  | 1, _ =>
    obtain rfl : ⟨some 15, Op.load 9 (.tmp 14), 9, "tables.go:42", #[⟨0, .data⟩], none⟩ = o := Option.some.inj (show prEOps[1]? = some _ from ho)
    obtain ⟨t0, g0⟩ := dep 0 (by kernel_rfl)
    have q0 := t0 14 (by rfl)
    have e0 := eval_at q0
    have w0 : f 0 = (.pointer (some ⟨bf, 0, none⟩)) := g0
    rw [w0] at e0
    have hc := keep_cellP hR hf0
    refine inv_val (G := Kd.ok z (prEK s q bf bt ni n m c s0 bb ob cp 1)) (R := fun x y => Below x.heap.size x y) (wanted_none rfl) (v := (.string s)) (w2 := x) (by simp only [execOp, e0]; go_simp) hK rfl (Below.refl _ _)
  | 2, _ =>
    obtain rfl : ⟨some 16, Op.call ⟨.value (.func 115), #[.tmp 15], #[9]⟩, 4, "tables.go:42", #[⟨1, .data⟩], none⟩ = o := Option.some.inj (show prEOps[2]? = some _ from ho)
    obtain ⟨t1, g1⟩ := dep 1 (by kernel_rfl)
    have q1 := t1 15 (by rfl)
    have e1 := eval_at q1
    refine inv_call (G := Kd.ok z (prEK s q bf bt ni n m c s0 bb ob cp 2)) (R := fun x y => Below x.heap.size x y) (wanted_none rfl) (F := 115) (args := #[f 1]) (by simp [go_sem, q1]) hK ?_
    exact k_named (w := x) g1 hnm hR.size
  | 3, _ =>
    obtain rfl : ⟨some 17, Op.unOp UnOp.not 4 (.tmp 16), 4, "tables.go:42", #[⟨2, .data⟩], none⟩ = o := Option.some.inj (show prEOps[3]? = some _ from ho)
    obtain ⟨t2, g2⟩ := dep 2 (by kernel_rfl)
    have q2 := t2 16 (by rfl)
    have e2 := eval_at q2
    have w2 : f 2 = (.bool true) := g2
    rw [w2] at e2
    refine inv_val (G := Kd.ok z (prEK s q bf bt ni n m c s0 bb ob cp 3)) (R := fun x y => Below x.heap.size x y) (wanted_none rfl) (v := (.bool false)) (w2 := x) (by simp only [execOp, e2]; go_simp) hK rfl (Below.refl _ _)
  | 4, _ =>
    obtain rfl : ⟨some 18, Op.move (.tmp 17), 4, "tables.go:42", #[⟨3, .data⟩, ⟨2, .chain⟩], none⟩ = o := Option.some.inj (show prEOps[4]? = some _ from ho)
    obtain ⟨t3, g3⟩ := dep 3 (by kernel_rfl)
    have q3 := t3 17 (by rfl)
    have e3 := eval_at q3
    have w3 : f 3 = (.bool false) := g3
    rw [w3] at e3
    refine inv_val (G := Kd.ok z (prEK s q bf bt ni n m c s0 bb ob cp 4)) (R := fun x y => Below x.heap.size x y) (wanted_none rfl) (v := (.bool false)) (w2 := x) (by simp only [execOp, e3]; go_simp) hK rfl (Below.refl _ _)
  | 5, _ =>
    obtain rfl : ⟨some 19, Op.move (.tmp 3), 3, "tables.go:42", #[⟨4, .guard⟩], some (4, false)⟩ = o := Option.some.inj (show prEOps[5]? = some _ from ho)
    obtain ⟨t4, g4⟩ := dep 4 (by kernel_rfl)
    have q4 := t4 18 (by rfl)
    have e4 := eval_at q4
    have v4 : f 4 = .bool false := g4
    have hw := wanted_some (ops := prEOps) (o := ⟨some 19, Op.move (.tmp 3), 3, "tables.go:42", #[⟨4, .guard⟩], some (4, false)⟩) (a := a) (j := 4) (s := 18) (b := false) (c := false) rfl (by rfl) (by rw [← v4]; exact q4)
    have qb3 := (bas 3 (by kernel_rfl)).trans h3
    have eb3 := eval_at qb3
    have w4 : f 4 = (.bool false) := g4
    refine inv_val (G := Kd.ok z (prEK s q bf bt ni n m c s0 bb ob cp 5)) (R := fun x y => Below x.heap.size x y) (hw.trans (by decide)) (v := (.int .i64 (ni : Nat))) (w2 := x) (by simp only [execOp, eb3]; go_simp) hK rfl (Below.refl _ _)
  | 6, _ =>
    obtain rfl : ⟨some 20, Op.binOp BinOp.gtr 3 (.tmp 19) (.const (.int .i64 0)) 3, 4, "tables.go:42", #[⟨5, .data⟩, ⟨4, .guard⟩], some (4, false)⟩ = o := Option.some.inj (show prEOps[6]? = some _ from ho)
    obtain ⟨t4, g4⟩ := dep 4 (by kernel_rfl)
    have q4 := t4 18 (by rfl)
    have e4 := eval_at q4
    have v4 : f 4 = .bool false := g4
    have hw := wanted_some (ops := prEOps) (o := ⟨some 20, Op.binOp BinOp.gtr 3 (.tmp 19) (.const (.int .i64 0)) 3, 4, "tables.go:42", #[⟨5, .data⟩, ⟨4, .guard⟩], some (4, false)⟩) (a := a) (j := 4) (s := 18) (b := false) (c := false) rfl (by rfl) (by rw [← v4]; exact q4)
    obtain ⟨t5, g5⟩ := dep 5 (by kernel_rfl)
    have q5 := t5 19 (by rfl)
    have e5 := eval_at q5
    have w4 : f 4 = (.bool false) := g4
    have w5 : f 5 = (.int .i64 (ni : Nat)) := g5
    rw [w5] at e5
    refine inv_val (G := Kd.ok z (prEK s q bf bt ni n m c s0 bb ob cp 6)) (R := fun x y => Below x.heap.size x y) (hw.trans (by decide)) (v := (.bool true)) (w2 := x) (by simp only [execOp, e5]; go_simp <;> omega) hK rfl (Below.refl _ _)
  | 7, _ =>
    obtain rfl : ⟨some 21, Op.move (.tmp 20), 4, "tables.go:42", #[⟨6, .data⟩, ⟨4, .chain⟩, ⟨4, .guard⟩], some (4, false)⟩ = o := Option.some.inj (show prEOps[7]? = some _ from ho)
    obtain ⟨t4, g4⟩ := dep 4 (by kernel_rfl)
    have q4 := t4 18 (by rfl)
    have e4 := eval_at q4
    have v4 : f 4 = .bool false := g4
    have hw := wanted_some (ops := prEOps) (o := ⟨some 21, Op.move (.tmp 20), 4, "tables.go:42", #[⟨6, .data⟩, ⟨4, .chain⟩, ⟨4, .guard⟩], some (4, false)⟩) (a := a) (j := 4) (s := 18) (b := false) (c := false) rfl (by rfl) (by rw [← v4]; exact q4)
    obtain ⟨t6, g6⟩ := dep 6 (by kernel_rfl)
    have q6 := t6 20 (by rfl)
    have e6 := eval_at q6
    have w4 : f 4 = (.bool false) := g4
    have w6 : f 6 = (.bool true) := g6
    rw [w6] at e6
    refine inv_val (G := Kd.ok z (prEK s q bf bt ni n m c s0 bb ob cp 7)) (R := fun x y => Below x.heap.size x y) (hw.trans (by decide)) (v := (.bool true)) (w2 := x) (by simp only [execOp, e6]; go_simp) hK rfl (Below.refl _ _)
  | 8, _ =>
    obtain rfl : ⟨some 22, Op.fieldAddr 37 (.tmp 4) 0, 0, "tables.go:42", #[⟨7, .guard⟩], some (7, true)⟩ = o := Option.some.inj (show prEOps[8]? = some _ from ho)
    obtain ⟨t7, g7⟩ := dep 7 (by kernel_rfl)
    have q7 := t7 21 (by rfl)
    have e7 := eval_at q7
    have v7 : f 7 = .bool true := g7
    have hw := wanted_some (ops := prEOps) (o := ⟨some 22, Op.fieldAddr 37 (.tmp 4) 0, 0, "tables.go:42", #[⟨7, .guard⟩], some (7, true)⟩) (a := a) (j := 7) (s := 21) (b := true) (c := true) rfl (by rfl) (by rw [← v7]; exact q7)
    have qb4 := (bas 4 (by kernel_rfl)).trans h4
    have eb4 := eval_at qb4
    have w7 : f 7 = (.bool true) := g7
    refine inv_val (G := Kd.ok z (prEK s q bf bt ni n m c s0 bb ob cp 8)) (R := fun x y => Below x.heap.size x y) (hw.trans (by decide)) (v := (.pointer (some ⟨bf, 0, none⟩))) (w2 := x) (by simp only [execOp, eb4]; go_simp) hK rfl (Below.refl _ _)
  | 9, _ =>
    obtain rfl : ⟨some 23, Op.load 9 (.tmp 22), 9, "tables.go:42", #[⟨8, .data⟩, ⟨7, .guard⟩], some (7, true)⟩ = o := Option.some.inj (show prEOps[9]? = some _ from ho)
    obtain ⟨t7, g7⟩ := dep 7 (by kernel_rfl)
    have q7 := t7 21 (by rfl)
    have e7 := eval_at q7
    have v7 : f 7 = .bool true := g7
    have hw := wanted_some (ops := prEOps) (o := ⟨some 23, Op.load 9 (.tmp 22), 9, "tables.go:42", #[⟨8, .data⟩, ⟨7, .guard⟩], some (7, true)⟩) (a := a) (j := 7) (s := 21) (b := true) (c := true) rfl (by rfl) (by rw [← v7]; exact q7)
    obtain ⟨t8, g8⟩ := dep 8 (by kernel_rfl)
    have q8 := t8 22 (by rfl)
    have e8 := eval_at q8
    have w8 : f 8 = (.pointer (some ⟨bf, 0, none⟩)) := g8
    rw [w8] at e8
    have hc := keep_cellP hR hf0
    refine inv_val (G := Kd.ok z (prEK s q bf bt ni n m c s0 bb ob cp 9)) (R := fun x y => Below x.heap.size x y) (hw.trans (by decide)) (v := (.string s)) (w2 := x) (by simp only [execOp, e8]; go_simp) hK rfl (Below.refl _ _)
  | 10, _ =>
    obtain rfl : ⟨some 24, Op.fieldAddr 69 (.tmp 1) 0, 0, "tables.go:42", #[⟨7, .guard⟩], some (7, true)⟩ = o := Option.some.inj (show prEOps[10]? = some _ from ho)
    obtain ⟨t7, g7⟩ := dep 7 (by kernel_rfl)
    have q7 := t7 21 (by rfl)
    have e7 := eval_at q7
    have v7 : f 7 = .bool true := g7
    have hw := wanted_some (ops := prEOps) (o := ⟨some 24, Op.fieldAddr 69 (.tmp 1) 0, 0, "tables.go:42", #[⟨7, .guard⟩], some (7, true)⟩) (a := a) (j := 7) (s := 21) (b := true) (c := true) rfl (by rfl) (by rw [← v7]; exact q7)
    have qb1 := (bas 1 (by kernel_rfl)).trans h1
    have eb1 := eval_at qb1
    have w7 : f 7 = (.bool true) := g7
    refine inv_val (G := Kd.ok z (prEK s q bf bt ni n m c s0 bb ob cp 10)) (R := fun x y => Below x.heap.size x y) (hw.trans (by decide)) (v := (.pointer (some ⟨bt, 0, none⟩))) (w2 := x) (by simp only [execOp, eb1]; go_simp) hK rfl (Below.refl _ _)
  | 11, _ =>
    obtain rfl : ⟨some 25, Op.fieldAddr 30 (.tmp 24) 1, 0, "tables.go:42", #[⟨10, .data⟩, ⟨7, .guard⟩], some (7, true)⟩ = o := Option.some.inj (show prEOps[11]? = some _ from ho)
    obtain ⟨t7, g7⟩ := dep 7 (by kernel_rfl)
    have q7 := t7 21 (by rfl)
    have e7 := eval_at q7
    have v7 : f 7 = .bool true := g7
    have hw := wanted_some (ops := prEOps) (o := ⟨some 25, Op.fieldAddr 30 (.tmp 24) 1, 0, "tables.go:42", #[⟨10, .data⟩, ⟨7, .guard⟩], some (7, true)⟩) (a := a) (j := 7) (s := 21) (b := true) (c := true) rfl (by rfl) (by rw [← v7]; exact q7)
    obtain ⟨t10, g10⟩ := dep 10 (by kernel_rfl)
    have q10 := t10 24 (by rfl)
    have e10 := eval_at q10
    have w7 : f 7 = (.bool true) := g7
    have w10 : f 10 = (.pointer (some ⟨bt, 0, none⟩)) := g10
    rw [w10] at e10
    refine inv_val (G := Kd.ok z (prEK s q bf bt ni n m c s0 bb ob cp 11)) (R := fun x y => Below x.heap.size x y) (hw.trans (by decide)) (v := (.pointer (some ⟨bt, 1, none⟩))) (w2 := x) (by simp only [execOp, e10]; go_simp) hK rfl (Below.refl _ _)
  | 12, _ =>
    obtain rfl : ⟨some 26, Op.load 28 (.tmp 25), 28, "tables.go:42", #[⟨11, .data⟩, ⟨7, .guard⟩], some (7, true)⟩ = o := Option.some.inj (show prEOps[12]? = some _ from ho)
    obtain ⟨t7, g7⟩ := dep 7 (by kernel_rfl)
    have q7 := t7 21 (by rfl)
    have e7 := eval_at q7
    have v7 : f 7 = .bool true := g7
    have hw := wanted_some (ops := prEOps) (o := ⟨some 26, Op.load 28 (.tmp 25), 28, "tables.go:42", #[⟨11, .data⟩, ⟨7, .guard⟩], some (7, true)⟩) (a := a) (j := 7) (s := 21) (b := true) (c := true) rfl (by rfl) (by rw [← v7]; exact q7)
    obtain ⟨t11, g11⟩ := dep 11 (by kernel_rfl)
    have q11 := t11 25 (by rfl)
    have e11 := eval_at q11
    have w11 : f 11 = (.pointer (some ⟨bt, 1, none⟩)) := g11
    rw [w11] at e11
    have hc := keep_cellP hR he1
    refine inv_val (G := Kd.ok z (prEK s q bf bt ni n m c s0 bb ob cp 12)) (R := fun x y => Below x.heap.size x y) (hw.trans (by decide)) (v := (.slice (some ⟨bb, ob, none⟩) n cp)) (w2 := x) (by simp only [execOp, e11]; go_simp) hK rfl (Below.refl _ _)
  | 13, _ =>
    obtain rfl : ⟨some 27, Op.move (.tmp 3), 3, "tables.go:42", #[⟨7, .guard⟩], some (7, true)⟩ = o := Option.some.inj (show prEOps[13]? = some _ from ho)
    obtain ⟨t7, g7⟩ := dep 7 (by kernel_rfl)
    have q7 := t7 21 (by rfl)
    have e7 := eval_at q7
    have v7 : f 7 = .bool true := g7
    have hw := wanted_some (ops := prEOps) (o := ⟨some 27, Op.move (.tmp 3), 3, "tables.go:42", #[⟨7, .guard⟩], some (7, true)⟩) (a := a) (j := 7) (s := 21) (b := true) (c := true) rfl (by rfl) (by rw [← v7]; exact q7)
    have qb3 := (bas 3 (by kernel_rfl)).trans h3
    have eb3 := eval_at qb3
    have w7 : f 7 = (.bool true) := g7
    refine inv_val (G := Kd.ok z (prEK s q bf bt ni n m c s0 bb ob cp 13)) (R := fun x y => Below x.heap.size x y) (hw.trans (by decide)) (v := (.int .i64 (ni : Nat))) (w2 := x) (by simp only [execOp, eb3]; go_simp) hK rfl (Below.refl _ _)
  | 14, _ =>
    obtain rfl : ⟨some 28, Op.binOp BinOp.sub 3 (.tmp 27) (.const (.int .i64 1)) 3, 3, "tables.go:42", #[⟨13, .data⟩, ⟨7, .guard⟩], some (7, true)⟩ = o := Option.some.inj (show prEOps[14]? = some _ from ho)
    obtain ⟨t7, g7⟩ := dep 7 (by kernel_rfl)
    have q7 := t7 21 (by rfl)
    have e7 := eval_at q7
    have v7 : f 7 = .bool true := g7
    have hw := wanted_some (ops := prEOps) (o := ⟨some 28, Op.binOp BinOp.sub 3 (.tmp 27) (.const (.int .i64 1)) 3, 3, "tables.go:42", #[⟨13, .data⟩, ⟨7, .guard⟩], some (7, true)⟩) (a := a) (j := 7) (s := 21) (b := true) (c := true) rfl (by rfl) (by rw [← v7]; exact q7)
    obtain ⟨t13, g13⟩ := dep 13 (by kernel_rfl)
    have q13 := t13 27 (by rfl)
    have e13 := eval_at q13
    have w7 : f 7 = (.bool true) := g7
    have w13 : f 13 = (.int .i64 (ni : Nat)) := g13
    rw [w13] at e13
    refine inv_val (G := Kd.ok z (prEK s q bf bt ni n m c s0 bb ob cp 14)) (R := fun x y => Below x.heap.size x y) (hw.trans (by decide)) (v := (.int .i64 ((ni : Int) - 1))) (w2 := x) (by simp only [execOp, e13]; go_simp) hK rfl (Below.refl _ _)
  | 15, _ =>
    obtain rfl : ⟨some 29, Op.indexAddr 28 (.tmp 26) (.tmp 28), 0, "tables.go:42", #[⟨12, .data⟩, ⟨14, .data⟩, ⟨7, .guard⟩], some (7, true)⟩ = o := Option.some.inj (show prEOps[15]? = some _ from ho)
    obtain ⟨t7, g7⟩ := dep 7 (by kernel_rfl)
    have q7 := t7 21 (by rfl)
    have e7 := eval_at q7
    have v7 : f 7 = .bool true := g7
    have hw := wanted_some (ops := prEOps) (o := ⟨some 29, Op.indexAddr 28 (.tmp 26) (.tmp 28), 0, "tables.go:42", #[⟨12, .data⟩, ⟨14, .data⟩, ⟨7, .guard⟩], some (7, true)⟩) (a := a) (j := 7) (s := 21) (b := true) (c := true) rfl (by rfl) (by rw [← v7]; exact q7)
    obtain ⟨t12, g12⟩ := dep 12 (by kernel_rfl)
    have q12 := t12 26 (by rfl)
    have e12 := eval_at q12
    obtain ⟨t14, g14⟩ := dep 14 (by kernel_rfl)
    have q14 := t14 28 (by rfl)
    have e14 := eval_at q14
    have w7 : f 7 = (.bool true) := g7
    have w12 : f 12 = (.slice (some ⟨bb, ob, none⟩) n cp) := g12
    have w14 : f 14 = (.int .i64 ((ni : Int) - 1)) := g14
    rw [w12] at e12
    rw [w14] at e14
    refine inv_val (G := Kd.ok z (prEK s q bf bt ni n m c s0 bb ob cp 15)) (R := fun x y => Below x.heap.size x y) (hw.trans (by decide)) (v := (.pointer (some ⟨bb, ob + (ni - 1) * 2, none⟩))) (w2 := x) (by simp only [execOp, e12, e14]; go_simp; intro h; exact absurd (h (by omega)) (by omega)) hK rfl (Below.refl _ _)
  | 16, _ =>
    obtain rfl : ⟨some 30, Op.fieldAddr 37 (.tmp 29) 0, 0, "tables.go:42", #[⟨15, .data⟩, ⟨7, .guard⟩], some (7, true)⟩ = o := Option.some.inj (show prEOps[16]? = some _ from ho)
    obtain ⟨t7, g7⟩ := dep 7 (by kernel_rfl)
    have q7 := t7 21 (by rfl)
    have e7 := eval_at q7
    have v7 : f 7 = .bool true := g7
    have hw := wanted_some (ops := prEOps) (o := ⟨some 30, Op.fieldAddr 37 (.tmp 29) 0, 0, "tables.go:42", #[⟨15, .data⟩, ⟨7, .guard⟩], some (7, true)⟩) (a := a) (j := 7) (s := 21) (b := true) (c := true) rfl (by rfl) (by rw [← v7]; exact q7)
    obtain ⟨t15, g15⟩ := dep 15 (by kernel_rfl)
    have q15 := t15 29 (by rfl)
    have e15 := eval_at q15
    have w7 : f 7 = (.bool true) := g7
    have w15 : f 15 = (.pointer (some ⟨bb, ob + (ni - 1) * 2, none⟩)) := g15
    rw [w15] at e15
    refine inv_val (G := Kd.ok z (prEK s q bf bt ni n m c s0 bb ob cp 16)) (R := fun x y => Below x.heap.size x y) (hw.trans (by decide)) (v := (.pointer (some ⟨bb, ob + (ni - 1) * 2, none⟩))) (w2 := x) (by simp only [execOp, e15]; go_simp) hK rfl (Below.refl _ _)
  | 17, _ =>
    obtain rfl : ⟨some 31, Op.load 9 (.tmp 30), 9, "tables.go:42", #[⟨16, .data⟩, ⟨7, .guard⟩], some (7, true)⟩ = o := Option.some.inj (show prEOps[17]? = some _ from ho)
    obtain ⟨t7, g7⟩ := dep 7 (by kernel_rfl)
    have q7 := t7 21 (by rfl)
    have e7 := eval_at q7
    have v7 : f 7 = .bool true := g7
    have hw := wanted_some (ops := prEOps) (o := ⟨some 31, Op.load 9 (.tmp 30), 9, "tables.go:42", #[⟨16, .data⟩, ⟨7, .guard⟩], some (7, true)⟩) (a := a) (j := 7) (s := 21) (b := true) (c := true) rfl (by rfl) (by rw [← v7]; exact q7)
    obtain ⟨t16, g16⟩ := dep 16 (by kernel_rfl)
    have q16 := t16 30 (by rfl)
    have e16 := eval_at q16
    have w16 : f 16 = (.pointer (some ⟨bb, ob + (ni - 1) * 2, none⟩)) := g16
    rw [w16] at e16
    have hc := keep_cellP hR he2
    refine inv_val (G := Kd.ok z (prEK s q bf bt ni n m c s0 bb ob cp 17)) (R := fun x y => Below x.heap.size x y) (hw.trans (by decide)) (v := (.string s0)) (w2 := x) (by simp only [execOp, e16]; go_simp) hK rfl (Below.refl _ _)
  | 18, _ =>
    obtain rfl : ⟨some 32, Op.binOp BinOp.leq 9 (.tmp 23) (.tmp 31) 9, 4, "tables.go:42", #[⟨9, .data⟩, ⟨17, .data⟩, ⟨7, .guard⟩], some (7, true)⟩ = o := Option.some.inj (show prEOps[18]? = some _ from ho)
    obtain ⟨t7, g7⟩ := dep 7 (by kernel_rfl)
    have q7 := t7 21 (by rfl)
    have e7 := eval_at q7
    have v7 : f 7 = .bool true := g7
    have hw := wanted_some (ops := prEOps) (o := ⟨some 32, Op.binOp BinOp.leq 9 (.tmp 23) (.tmp 31) 9, 4, "tables.go:42", #[⟨9, .data⟩, ⟨17, .data⟩, ⟨7, .guard⟩], some (7, true)⟩) (a := a) (j := 7) (s := 21) (b := true) (c := true) rfl (by rfl) (by rw [← v7]; exact q7)
    obtain ⟨t9, g9⟩ := dep 9 (by kernel_rfl)
    have q9 := t9 23 (by rfl)
    have e9 := eval_at q9
    obtain ⟨t17, g17⟩ := dep 17 (by kernel_rfl)
    have q17 := t17 31 (by rfl)
    have e17 := eval_at q17
    have w7 : f 7 = (.bool true) := g7
    have w9 : f 9 = (.string s) := g9
    have w17 : f 17 = (.string s0) := g17
    rw [w9] at e9
    rw [w17] at e17
    refine inv_val (G := Kd.ok z (prEK s q bf bt ni n m c s0 bb ob cp 18)) (R := fun x y => Below x.heap.size x y) (hw.trans (by decide)) (v := (.bool false)) (w2 := x) (by simp only [execOp, e9, e17]; go_simp; first | exact hle | simpa [leB] using hle) hK rfl (Below.refl _ _)
  | 19, _ =>
    obtain rfl : ⟨some 33, Op.pick (.tmp 21) (.tmp 32) (.const (Value.bool false)), 4, "tables.go:42", #[⟨7, .data⟩, ⟨18, .data⟩, ⟨4, .guard⟩], some (4, false)⟩ = o := Option.some.inj (show prEOps[19]? = some _ from ho)
    obtain ⟨t4, g4⟩ := dep 4 (by kernel_rfl)
    have q4 := t4 18 (by rfl)
    have e4 := eval_at q4
    have v4 : f 4 = .bool false := g4
    have hw := wanted_some (ops := prEOps) (o := ⟨some 33, Op.pick (.tmp 21) (.tmp 32) (.const (Value.bool false)), 4, "tables.go:42", #[⟨7, .data⟩, ⟨18, .data⟩, ⟨4, .guard⟩], some (4, false)⟩) (a := a) (j := 4) (s := 18) (b := false) (c := false) rfl (by rfl) (by rw [← v4]; exact q4)
    obtain ⟨t7, g7⟩ := dep 7 (by kernel_rfl)
    have q7 := t7 21 (by rfl)
    have e7 := eval_at q7
    obtain ⟨t18, g18⟩ := dep 18 (by kernel_rfl)
    have q18 := t18 32 (by rfl)
    have e18 := eval_at q18
    have w4 : f 4 = (.bool false) := g4
    have w7 : f 7 = (.bool true) := g7
    have w18 : f 18 = (.bool false) := g18
    rw [w7] at e7
    rw [w18] at e18
    refine inv_val (G := Kd.ok z (prEK s q bf bt ni n m c s0 bb ob cp 19)) (R := fun x y => Below x.heap.size x y) (hw.trans (by decide)) (v := (.bool false)) (w2 := x) (by simp only [execOp, e7, e18]; go_simp) hK rfl (Below.refl _ _)
  | 20, _ =>
    obtain rfl : ⟨some 34, Op.pick (.tmp 18) (.const (Value.bool true)) (.tmp 33), 4, "tables.go:42", #[⟨4, .data⟩, ⟨19, .data⟩], none⟩ = o := Option.some.inj (show prEOps[20]? = some _ from ho)
    obtain ⟨t4, g4⟩ := dep 4 (by kernel_rfl)
    have q4 := t4 18 (by rfl)
    have e4 := eval_at q4
    obtain ⟨t19, g19⟩ := dep 19 (by kernel_rfl)
    have q19 := t19 33 (by rfl)
    have e19 := eval_at q19
    have w4 : f 4 = (.bool false) := g4
    have w19 : f 19 = (.bool false) := g19
    rw [w4] at e4
    rw [w19] at e19
    refine inv_val (G := Kd.ok z (prEK s q bf bt ni n m c s0 bb ob cp 20)) (R := fun x y => Below x.heap.size x y) (wanted_none rfl) (v := (.bool false)) (w2 := x) (by simp only [execOp, e4, e19]; go_simp) hK rfl (Below.refl _ _)
  | 21, _ =>
    obtain rfl : ⟨some 35, Op.move (.tmp 34), 4, "tables.go:42", #[⟨20, .data⟩, ⟨7, .chain⟩], none⟩ = o := Option.some.inj (show prEOps[21]? = some _ from ho)
    obtain ⟨t20, g20⟩ := dep 20 (by kernel_rfl)
    have q20 := t20 34 (by rfl)
    have e20 := eval_at q20
    have w20 : f 20 = (.bool false) := g20
    rw [w20] at e20
    refine inv_val (G := Kd.ok z (prEK s q bf bt ni n m c s0 bb ob cp 21)) (R := fun x y => Below x.heap.size x y) (wanted_none rfl) (v := (.bool false)) (w2 := x) (by simp only [execOp, e20]; go_simp) hK rfl (Below.refl _ _)
  | 22, _ =>
    obtain rfl : ⟨some 36, Op.fieldAddr 37 (.tmp 4) 1, 0, "tables.go:42", #[⟨21, .guard⟩], some (21, false)⟩ = o := Option.some.inj (show prEOps[22]? = some _ from ho)
    obtain ⟨t21, g21⟩ := dep 21 (by kernel_rfl)
    have q21 := t21 35 (by rfl)
    have e21 := eval_at q21
    have v21 : f 21 = .bool false := g21
    have hw := wanted_some (ops := prEOps) (o := ⟨some 36, Op.fieldAddr 37 (.tmp 4) 1, 0, "tables.go:42", #[⟨21, .guard⟩], some (21, false)⟩) (a := a) (j := 21) (s := 35) (b := false) (c := false) rfl (by rfl) (by rw [← v21]; exact q21)
    have qb4 := (bas 4 (by kernel_rfl)).trans h4
    have eb4 := eval_at qb4
    have w21 : f 21 = (.bool false) := g21
    refine inv_val (G := Kd.ok z (prEK s q bf bt ni n m c s0 bb ob cp 22)) (R := fun x y => Below x.heap.size x y) (hw.trans (by decide)) (v := (.pointer (some ⟨bf, 1, none⟩))) (w2 := x) (by simp only [execOp, eb4]; go_simp) hK rfl (Below.refl _ _)
  | 23, _ =>
    obtain rfl : ⟨some 37, Op.load 25 (.tmp 36), 25, "tables.go:42", #[⟨22, .data⟩, ⟨21, .guard⟩], some (21, false)⟩ = o := Option.some.inj (show prEOps[23]? = some _ from ho)
    obtain ⟨t21, g21⟩ := dep 21 (by kernel_rfl)
    have q21 := t21 35 (by rfl)
    have e21 := eval_at q21
    have v21 : f 21 = .bool false := g21
    have hw := wanted_some (ops := prEOps) (o := ⟨some 37, Op.load 25 (.tmp 36), 25, "tables.go:42", #[⟨22, .data⟩, ⟨21, .guard⟩], some (21, false)⟩) (a := a) (j := 21) (s := 35) (b := false) (c := false) rfl (by rfl) (by rw [← v21]; exact q21)
    obtain ⟨t22, g22⟩ := dep 22 (by kernel_rfl)
    have q22 := t22 36 (by rfl)
    have e22 := eval_at q22
    have w22 : f 22 = (.pointer (some ⟨bf, 1, none⟩)) := g22
    rw [w22] at e22
    have hc := keep_cellP hR hf1
    refine inv_val (G := Kd.ok z (prEK s q bf bt ni n m c s0 bb ob cp 23)) (R := fun x y => Below x.heap.size x y) (hw.trans (by decide)) (v := (.slice q m c)) (w2 := x) (by simp only [execOp, e22]; go_simp) hK rfl (Below.refl _ _)
  | 24, _ =>
    obtain rfl : ⟨some 38, Op.call { callee := Callee.builtin Builtin.len, args := #[.tmp 37], argTypes := #[25] }, 3, "tables.go:42", #[⟨23, .data⟩, ⟨21, .guard⟩], some (21, false)⟩ = o := Option.some.inj (show prEOps[24]? = some _ from ho)
    obtain ⟨t21, g21⟩ := dep 21 (by kernel_rfl)
    have q21 := t21 35 (by rfl)
    have e21 := eval_at q21
    have v21 : f 21 = .bool false := g21
    have hw := wanted_some (ops := prEOps) (o := ⟨some 38, Op.call { callee := Callee.builtin Builtin.len, args := #[.tmp 37], argTypes := #[25] }, 3, "tables.go:42", #[⟨23, .data⟩, ⟨21, .guard⟩], some (21, false)⟩) (a := a) (j := 21) (s := 35) (b := false) (c := false) rfl (by rfl) (by rw [← v21]; exact q21)
    obtain ⟨t23, g23⟩ := dep 23 (by kernel_rfl)
    have q23 := t23 37 (by rfl)
    have e23 := eval_at q23
    have w21 : f 21 = (.bool false) := g21
    have w23 : f 23 = (.slice q m c) := g23
    rw [w23] at e23
    refine inv_val (G := Kd.ok z (prEK s q bf bt ni n m c s0 bb ob cp 24)) (R := fun x y => Below x.heap.size x y) (hw.trans (by decide)) (v := (.int .i64 (m : Nat))) (w2 := x) (by simp only [execOp]; go_simp) hK rfl (Below.refl _ _)
  | 25, _ =>
    obtain rfl : ⟨some 39, Op.binOp BinOp.gtr 3 (.tmp 38) (.const (.int .i64 2000)) 3, 4, "tables.go:42", #[⟨24, .data⟩, ⟨21, .guard⟩], some (21, false)⟩ = o := Option.some.inj (show prEOps[25]? = some _ from ho)
    obtain ⟨t21, g21⟩ := dep 21 (by kernel_rfl)
    have q21 := t21 35 (by rfl)
    have e21 := eval_at q21
    have v21 : f 21 = .bool false := g21
    have hw := wanted_some (ops := prEOps) (o := ⟨some 39, Op.binOp BinOp.gtr 3 (.tmp 38) (.const (.int .i64 2000)) 3, 4, "tables.go:42", #[⟨24, .data⟩, ⟨21, .guard⟩], some (21, false)⟩) (a := a) (j := 21) (s := 35) (b := false) (c := false) rfl (by rfl) (by rw [← v21]; exact q21)
    obtain ⟨t24, g24⟩ := dep 24 (by kernel_rfl)
    have q24 := t24 38 (by rfl)
    have e24 := eval_at q24
    have w21 : f 21 = (.bool false) := g21
    have w24 : f 24 = (.int .i64 (m : Nat)) := g24
    rw [w24] at e24
    refine inv_val (G := Kd.ok z (prEK s q bf bt ni n m c s0 bb ob cp 25)) (R := fun x y => Below x.heap.size x y) (hw.trans (by decide)) (v := (.bool true)) (w2 := x) (by simp only [execOp, e24]; go_simp <;> omega) hK rfl (Below.refl _ _)
  | 26, _ =>
    obtain rfl : ⟨some 40, Op.pick (.tmp 35) (.const (Value.bool true)) (.tmp 39), 4, "tables.go:42", #[⟨21, .data⟩, ⟨25, .data⟩], none⟩ = o := Option.some.inj (show prEOps[26]? = some _ from ho)
    obtain ⟨t21, g21⟩ := dep 21 (by kernel_rfl)
    have q21 := t21 35 (by rfl)
    have e21 := eval_at q21
    obtain ⟨t25, g25⟩ := dep 25 (by kernel_rfl)
    have q25 := t25 39 (by rfl)
    have e25 := eval_at q25
    have w21 : f 21 = (.bool false) := g21
    have w25 : f 25 = (.bool true) := g25
    rw [w21] at e21
    rw [w25] at e25
    refine inv_val (G := Kd.ok z (prEK s q bf bt ni n m c s0 bb ob cp 26)) (R := fun x y => Below x.heap.size x y) (wanted_none rfl) (v := (.bool true)) (w2 := x) (by simp only [execOp, e21, e25]; go_simp) hK rfl (Below.refl _ _)
  | 27, _ =>
    obtain rfl : ⟨some 41, Op.move (.tmp 40), 4, "tables.go:42", #[⟨26, .data⟩, ⟨21, .chain⟩], none⟩ = o := Option.some.inj (show prEOps[27]? = some _ from ho)
    obtain ⟨t26, g26⟩ := dep 26 (by kernel_rfl)
    have q26 := t26 40 (by rfl)
    have e26 := eval_at q26
    have w26 : f 26 = (.bool true) := g26
    rw [w26] at e26
    refine inv_val (G := Kd.ok z (prEK s q bf bt ni n m c s0 bb ob cp 27)) (R := fun x y => Below x.heap.size x y) (wanted_none rfl) (v := (.bool true)) (w2 := x) (by simp only [execOp, e26]; go_simp) hK rfl (Below.refl _ _)
  | 28, _ =>
    obtain rfl : ⟨some 42, Op.fieldAddr 37 (.tmp 4) 1, 0, "tables.go:42", #[⟨27, .guard⟩], some (27, false)⟩ = o := Option.some.inj (show prEOps[28]? = some _ from ho)
    obtain ⟨t27, g27⟩ := dep 27 (by kernel_rfl)
    have q27 := t27 41 (by rfl)
    have e27 := eval_at q27
    have v27 : f 27 = .bool true := g27
    have hw := wanted_some (ops := prEOps) (o := ⟨some 42, Op.fieldAddr 37 (.tmp 4) 1, 0, "tables.go:42", #[⟨27, .guard⟩], some (27, false)⟩) (a := a) (j := 27) (s := 41) (b := false) (c := true) rfl (by rfl) (by rw [← v27]; exact q27)
    exact inv_left (G := Kd.ok z (prEK s q bf bt ni n m c s0 bb ob cp 28)) (R := fun x y => Below x.heap.size x y) (hw.trans (by decide)) hK rfl (Below.refl _ _)
  | 29, _ =>
    obtain rfl : ⟨some 43, Op.load 25 (.tmp 42), 25, "tables.go:42", #[⟨28, .data⟩, ⟨27, .guard⟩], some (27, false)⟩ = o := Option.some.inj (show prEOps[29]? = some _ from ho)
    obtain ⟨t27, g27⟩ := dep 27 (by kernel_rfl)
    have q27 := t27 41 (by rfl)
    have e27 := eval_at q27
    have v27 : f 27 = .bool true := g27
    have hw := wanted_some (ops := prEOps) (o := ⟨some 43, Op.load 25 (.tmp 42), 25, "tables.go:42", #[⟨28, .data⟩, ⟨27, .guard⟩], some (27, false)⟩) (a := a) (j := 27) (s := 41) (b := false) (c := true) rfl (by rfl) (by rw [← v27]; exact q27)
    exact inv_left (G := Kd.ok z (prEK s q bf bt ni n m c s0 bb ob cp 29)) (R := fun x y => Below x.heap.size x y) (hw.trans (by decide)) hK rfl (Below.refl _ _)
  | 30, _ =>
    obtain rfl : ⟨some 44, Op.call { callee := Callee.value (.func 116), args := #[.tmp 43], argTypes := #[25] }, 4, "tables.go:42", #[⟨29, .data⟩, ⟨27, .chain⟩, ⟨27, .guard⟩], some (27, false)⟩ = o := Option.some.inj (show prEOps[30]? = some _ from ho)
    obtain ⟨t27, g27⟩ := dep 27 (by kernel_rfl)
    have q27 := t27 41 (by rfl)
    have e27 := eval_at q27
    have v27 : f 27 = .bool true := g27
    have hw := wanted_some (ops := prEOps) (o := ⟨some 44, Op.call { callee := Callee.value (.func 116), args := #[.tmp 43], argTypes := #[25] }, 4, "tables.go:42", #[⟨29, .data⟩, ⟨27, .chain⟩, ⟨27, .guard⟩], some (27, false)⟩) (a := a) (j := 27) (s := 41) (b := false) (c := true) rfl (by rfl) (by rw [← v27]; exact q27)
    exact inv_left (G := Kd.ok z (prEK s q bf bt ni n m c s0 bb ob cp 30)) (R := fun x y => Below x.heap.size x y) (hw.trans (by decide)) hK rfl (Below.refl _ _)
  | 31, _ =>
    obtain rfl : ⟨some 45, Op.unOp UnOp.not 4 (.tmp 44), 4, "tables.go:42", #[⟨30, .data⟩, ⟨27, .guard⟩], some (27, false)⟩ = o := Option.some.inj (show prEOps[31]? = some _ from ho)
    obtain ⟨t27, g27⟩ := dep 27 (by kernel_rfl)
    have q27 := t27 41 (by rfl)
    have e27 := eval_at q27
    have v27 : f 27 = .bool true := g27
    have hw := wanted_some (ops := prEOps) (o := ⟨some 45, Op.unOp UnOp.not 4 (.tmp 44), 4, "tables.go:42", #[⟨30, .data⟩, ⟨27, .guard⟩], some (27, false)⟩) (a := a) (j := 27) (s := 41) (b := false) (c := true) rfl (by rfl) (by rw [← v27]; exact q27)
    exact inv_left (G := Kd.ok z (prEK s q bf bt ni n m c s0 bb ob cp 31)) (R := fun x y => Below x.heap.size x y) (hw.trans (by decide)) hK rfl (Below.refl _ _)
  | 32, _ =>
    obtain rfl : ⟨some 46, Op.pick (.tmp 41) (.const (Value.bool true)) (.tmp 45), 4, "tables.go:42", #[⟨27, .data⟩, ⟨31, .data⟩], none⟩ = o := Option.some.inj (show prEOps[32]? = some _ from ho)
    obtain ⟨t27, g27⟩ := dep 27 (by kernel_rfl)
    have q27 := t27 41 (by rfl)
    have e27 := eval_at q27
    obtain ⟨t31, g31⟩ := dep 31 (by kernel_rfl)
    have q31 := t31 45 (by rfl)
    have e31 := eval_at q31
    have w27 : f 27 = (.bool true) := g27
    have w31 : f 31 = undef := g31
    rw [w27] at e27
    refine inv_val (G := Kd.ok z (prEK s q bf bt ni n m c s0 bb ob cp 32)) (R := fun x y => Below x.heap.size x y) (wanted_none rfl) (v := (.bool true)) (w2 := x) (by simp only [execOp, e27, e31]; go_simp) hK rfl (Below.refl _ _)

def prFOps : Array Oper := #[⟨some 14, Op.fieldAddr 37 (.tmp 4) 0, 0, "tables.go:42", #[], none⟩,
  ⟨some 15, Op.load 9 (.tmp 14), 9, "tables.go:42", #[⟨0, .data⟩], none⟩,
  ⟨some 16, Op.call ⟨.value (.func 115), #[.tmp 15], #[9]⟩, 4, "tables.go:42", #[⟨1, .data⟩], none⟩,
  ⟨some 17, Op.unOp UnOp.not 4 (.tmp 16), 4, "tables.go:42", #[⟨2, .data⟩], none⟩,
  ⟨some 18, Op.move (.tmp 17), 4, "tables.go:42", #[⟨3, .data⟩, ⟨2, .chain⟩], none⟩,
  ⟨some 19, Op.move (.tmp 3), 3, "tables.go:42", #[⟨4, .guard⟩], some (4, false)⟩,
  ⟨some 20, Op.binOp BinOp.gtr 3 (.tmp 19) (.const (.int .i64 0)) 3, 4, "tables.go:42", #[⟨5, .data⟩, ⟨4, .guard⟩], some (4, false)⟩,
  ⟨some 21, Op.move (.tmp 20), 4, "tables.go:42", #[⟨6, .data⟩, ⟨4, .chain⟩, ⟨4, .guard⟩], some (4, false)⟩,
  ⟨some 22, Op.fieldAddr 37 (.tmp 4) 0, 0, "tables.go:42", #[⟨7, .guard⟩], some (7, true)⟩,
  ⟨some 23, Op.load 9 (.tmp 22), 9, "tables.go:42", #[⟨8, .data⟩, ⟨7, .guard⟩], some (7, true)⟩,
  ⟨some 24, Op.fieldAddr 69 (.tmp 1) 0, 0, "tables.go:42", #[⟨7, .guard⟩], some (7, true)⟩,
  ⟨some 25, Op.fieldAddr 30 (.tmp 24) 1, 0, "tables.go:42", #[⟨10, .data⟩, ⟨7, .guard⟩], some (7, true)⟩,
  ⟨some 26, Op.load 28 (.tmp 25), 28, "tables.go:42", #[⟨11, .data⟩, ⟨7, .guard⟩], some (7, true)⟩,
  ⟨some 27, Op.move (.tmp 3), 3, "tables.go:42", #[⟨7, .guard⟩], some (7, true)⟩,
  ⟨some 28, Op.binOp BinOp.sub 3 (.tmp 27) (.const (.int .i64 1)) 3, 3, "tables.go:42", #[⟨13, .data⟩, ⟨7, .guard⟩], some (7, true)⟩,
  ⟨some 29, Op.indexAddr 28 (.tmp 26) (.tmp 28), 0, "tables.go:42", #[⟨12, .data⟩, ⟨14, .data⟩, ⟨7, .guard⟩], some (7, true)⟩,
  ⟨some 30, Op.fieldAddr 37 (.tmp 29) 0, 0, "tables.go:42", #[⟨15, .data⟩, ⟨7, .guard⟩], some (7, true)⟩,
  ⟨some 31, Op.load 9 (.tmp 30), 9, "tables.go:42", #[⟨16, .data⟩, ⟨7, .guard⟩], some (7, true)⟩,
  ⟨some 32, Op.binOp BinOp.leq 9 (.tmp 23) (.tmp 31) 9, 4, "tables.go:42", #[⟨9, .data⟩, ⟨17, .data⟩, ⟨7, .guard⟩], some (7, true)⟩,
  ⟨some 33, Op.pick (.tmp 21) (.tmp 32) (.const (Value.bool false)), 4, "tables.go:42", #[⟨7, .data⟩, ⟨18, .data⟩, ⟨4, .guard⟩], some (4, false)⟩,
  ⟨some 34, Op.pick (.tmp 18) (.const (Value.bool true)) (.tmp 33), 4, "tables.go:42", #[⟨4, .data⟩, ⟨19, .data⟩], none⟩,
  ⟨some 35, Op.move (.tmp 34), 4, "tables.go:42", #[⟨20, .data⟩, ⟨7, .chain⟩], none⟩,
  ⟨some 36, Op.fieldAddr 37 (.tmp 4) 1, 0, "tables.go:42", #[⟨21, .guard⟩], some (21, false)⟩,
  ⟨some 37, Op.load 25 (.tmp 36), 25, "tables.go:42", #[⟨22, .data⟩, ⟨21, .guard⟩], some (21, false)⟩,
  ⟨some 38, Op.call { callee := Callee.builtin Builtin.len, args := #[.tmp 37], argTypes := #[25] }, 3, "tables.go:42", #[⟨23, .data⟩, ⟨21, .guard⟩], some (21, false)⟩,
  ⟨some 39, Op.binOp BinOp.gtr 3 (.tmp 38) (.const (.int .i64 2000)) 3, 4, "tables.go:42", #[⟨24, .data⟩, ⟨21, .guard⟩], some (21, false)⟩,
  ⟨some 40, Op.pick (.tmp 35) (.const (Value.bool true)) (.tmp 39), 4, "tables.go:42", #[⟨21, .data⟩, ⟨25, .data⟩], none⟩,
  ⟨some 41, Op.move (.tmp 40), 4, "tables.go:42", #[⟨26, .data⟩, ⟨21, .chain⟩], none⟩,
  ⟨some 42, Op.fieldAddr 37 (.tmp 4) 1, 0, "tables.go:42", #[⟨27, .guard⟩], some (27, false)⟩,
  ⟨some 43, Op.load 25 (.tmp 42), 25, "tables.go:42", #[⟨28, .data⟩, ⟨27, .guard⟩], some (27, false)⟩,
  ⟨some 44, Op.call { callee := Callee.value (.func 116), args := #[.tmp 43], argTypes := #[25] }, 4, "tables.go:42", #[⟨29, .data⟩, ⟨27, .chain⟩, ⟨27, .guard⟩], some (27, false)⟩,
  ⟨some 45, Op.unOp UnOp.not 4 (.tmp 44), 4, "tables.go:42", #[⟨30, .data⟩, ⟨27, .guard⟩], some (27, false)⟩,
  ⟨some 46, Op.pick (.tmp 41) (.const (Value.bool true)) (.tmp 45), 4, "tables.go:42", #[⟨27, .data⟩, ⟨31, .data⟩], none⟩]
def prFPre : Array Bool := #[true, true, true, true, true, true, true, true, true, true, true, true, true, true, true, true, true, true, true, true, true, true, true, true, true, true, true, true, true, true, true, true, true]
def prFK (s : ByteArray) (q : Option Addr) (bf bt ni n m c : Nat) (s0 : ByteArray) (bb ob cp : Nat) (r : Bool) : Nat → Kd
  | 0 => .val (.pointer (some ⟨bf, 0, none⟩))
  | 1 => .val (.string s)
  | 2 => .val (.bool true)
  | 3 => .val (.bool false)
  | 4 => .val (.bool false)
  | 5 => .val (.int .i64 (ni : Nat))
  | 6 => .val (.bool true)
  | 7 => .val (.bool true)
  | 8 => .val (.pointer (some ⟨bf, 0, none⟩))
  | 9 => .val (.string s)
  | 10 => .val (.pointer (some ⟨bt, 0, none⟩))
  | 11 => .val (.pointer (some ⟨bt, 1, none⟩))
  | 12 => .val (.slice (some ⟨bb, ob, none⟩) n cp)
  | 13 => .val (.int .i64 (ni : Nat))
  | 14 => .val (.int .i64 ((ni : Int) - 1))
  | 15 => .val (.pointer (some ⟨bb, ob + (ni - 1) * 2, none⟩))
  | 16 => .val (.pointer (some ⟨bb, ob + (ni - 1) * 2, none⟩))
  | 17 => .val (.string s0)
  | 18 => .val (.bool false)
  | 19 => .val (.bool false)
  | 20 => .val (.bool false)
  | 21 => .val (.bool false)
  | 22 => .val (.pointer (some ⟨bf, 1, none⟩))
  | 23 => .val (.slice q m c)
  | 24 => .val (.int .i64 (m : Nat))
  | 25 => .val (.bool false)
  | 26 => .val (.bool false)
  | 27 => .val (.bool false)
  | 28 => .val (.pointer (some ⟨bf, 1, none⟩))
  | 29 => .val (.slice q m c)
  | 30 => .val (.bool r)
  | 31 => .val (.bool (!r))
  | 32 => .val (.bool (!r))
  | _ => .val undef
theorem prF_slots (f : Nat → Value) : slotsOf prFOps prFPre f = [(14, f 0), (15, f 1), (16, f 2), (17, f 3), (18, f 4), (19, f 5), (20, f 6), (21, f 7), (22, f 8), (23, f 9), (24, f 10), (25, f 11), (26, f 12), (27, f 13), (28, f 14), (29, f 15), (30, f 16), (31, f 17), (32, f 18), (33, f 19), (34, f 20), (35, f 21), (36, f 22), (37, f 23), (38, f 24), (39, f 25), (40, f 26), (41, f 27), (42, f 28), (43, f 29), (44, f 30), (45, f 31), (46, f 32)] := by kernel_rfl
set_option maxHeartbeats 6400000 in
set_option maxRecDepth 100000 in
theorem prF_wp {Q : Exit → Act → World → Prop} {a0 : Act} {w : World} {z : Nat} (s : ByteArray) (q : Option Addr) (bf bt ni n m c : Nat) (s0 : ByteArray) (bb ob cp : Nat) (r : Bool) (hz : z ≤ w.drew.heap.size) (hsize : a0.tmps.size = 48) (h4 : a0.tmps[4]? = some (.pointer (some ⟨bf, 0, none⟩))) (h3 : a0.tmps[3]? = some (.int .i64 (ni : Nat))) (h1 : a0.tmps[1]? = some (.pointer (some ⟨bt, 0, none⟩))) (hf0 : w.drew.cell? ⟨bf, 0, none⟩ = some (.string s)) (hf1 : w.drew.cell? ⟨bf, 1, none⟩ = some (.slice q m c)) (_hmI : (m : Int) ≤ 10000000000000) (_hnI : (n : Int) ≤ 10000000000000) (hnm : nameB s.data.toList = true) (hi0 : 0 < (ni : Int)) (hiI : (ni : Int) < n) (hnt : ((ni : Int) - 1).toNat = ni - 1) (hw1 : IntKind.i64.wrap ((ni : Int) - 1) = (ni : Int) - 1) (he1 : w.drew.cell? ⟨bt, 1, none⟩ = some (.slice (some ⟨bb, ob, none⟩) n cp)) (he2 : w.drew.cell? ⟨bb, ob + (ni - 1) * 2, none⟩ = some (.string s0)) (hle : leB s s0 = false) (hbig : (m : Int) ≤ 2000) (hrt : ∀ W, Below w.drew.heap.size w.drew W → Calls Tryz.prog 116 #[.slice q m c] W fun e w' => e = .returned (.bool r) ∧ Below W.heap.size W w') 
    (fin : ∀ (f : Nat → Value) (y : World), (∀ j, j < 33 → prFPre.getD j false = true → Kd.ok z (prFK s q bf bt ni n m c s0 bb ob cp r j) (f j) y) → Below w.drew.heap.size w.drew y → Q .normal (putL a0 [(14, f 0), (15, f 1), (16, f 2), (17, f 3), (18, f 4), (19, f 5), (20, f 6), (21, f 7), (22, f 8), (23, f 9), (24, f 10), (25, f 11), (26, f 12), (27, f 13), (28, f 14), (29, f 15), (30, f 16), (31, f 17), (32, f 18), (33, f 19), (34, f 20), (35, f 21), (36, f 22), (37, f 23), (38, f 24), (39, f 25), (40, f 26), (41, f 27), (42, f 28), (43, f 29), (44, f 30), (45, f 31), (46, f 32)]) y) (id : Nat) :
    (Code.region id prFOps true).wp Tryz.prog Q a0 w := by
  refine wp_region_inv prFPre (fun j => Kd.ok z (prFK s q bf bt ni n m c s0 bb ob cp r j)) (fun x y => Below x.heap.size x y) 33 0 (by kernel_rfl) (by kernel_rfl) (by rw [hsize]; kernel_rfl) (by kernel_rfl) (by kernel_rfl) (Below.refl _ _) (fun _ _ _ h1 h2 => bl_trans h1 h2) (fun _ _ _ _ h1 h2 => Kd.below h1 h2) ?_ (fun f y h1 h2 => by rw [prF_slots]; exact any_end (by kernel_rfl) (fin f y h1 h2) 0)
  intro i o ho hp f a x hR hbase hdeps K hK
  have hi : i < 33 := by
    rcases Nat.lt_or_ge i 33 with h | h
    · exact h
    · have : prFOps.size ≤ i := h
      rw [Array.getElem?_eq_none this] at ho; cases ho
  have hzx : z ≤ x.heap.size := Nat.le_trans hz hR.size
  have dep : ∀ j, (o.after.any fun e => Region.binds .any e && e.on == j) = true → (∀ s, slotOf prFOps j = some s → a.tmps[s]? = some (f j)) ∧ Kd.ok z (prFK s q bf bt ni n m c s0 bb ob cp r j) (f j) x := by
    intro j h
    obtain ⟨e, he, h2⟩ := Array.any_eq_true'.1 h
    simp only [Bool.and_eq_true, beq_iff_eq] at h2
    obtain ⟨h3, rfl⟩ := h2
    exact hdeps e he h3
  have bas : ∀ s, ((List.range prFOps.size).all fun j => slotOf prFOps j != some s) = true → a.tmps[s]? = a0.tmps[s]? := by
    intro s h
    refine hbase s fun j hj _ e => ?_
    have h2 := (List.all_eq_true.1 h) j (List.mem_range.2 hj)
    rw [e] at h2; simp at h2
  match i, hi with
  | 0, _ =>
    obtain rfl : ⟨some 14, Op.fieldAddr 37 (.tmp 4) 0, 0, "tables.go:42", #[], none⟩ = o := Option.some.inj (show prFOps[0]? = some _ from ho)
    have qb4 := (bas 4 (by kernel_rfl)).trans h4
    have eb4 := eval_at qb4
    refine inv_val (G := Kd.ok z (prFK s q bf bt ni n m c s0 bb ob cp r 0)) (R := fun x y => Below x.heap.size x y) (wanted_none rfl) (v := (.pointer (some ⟨bf, 0, none⟩))) (w2 := x) (by simp only [execOp, eb4]; go_simp) hK rfl (Below.refl _ _)
  | 1, _ =>
    obtain rfl : ⟨some 15, Op.load 9 (.tmp 14), 9, "tables.go:42", #[⟨0, .data⟩], none⟩ = o := Option.some.inj (show prFOps[1]? = some _ from ho)
    obtain ⟨t0, g0⟩ := dep 0 (by kernel_rfl)
    have q0 := t0 14 (by rfl)
    have e0 := eval_at q0
    have w0 : f 0 = (.pointer (some ⟨bf, 0, none⟩)) := g0
    rw [w0] at e0
    have hc := keep_cellP hR hf0
    refine inv_val (G := Kd.ok z (prFK s q bf bt ni n m c s0 bb ob cp r 1)) (R := fun x y => Below x.heap.size x y) (wanted_none rfl) (v := (.string s)) (w2 := x) (by simp only [execOp, e0]; go_simp) hK rfl (Below.refl _ _)
  | 2, _ =>
    obtain rfl : ⟨some 16, Op.call ⟨.value (.func 115), #[.tmp 15], #[9]⟩, 4, "tables.go:42", #[⟨1, .data⟩], none⟩ = o := Option.some.inj (show prFOps[2]? = some _ from ho)
    obtain ⟨t1, g1⟩ := dep 1 (by kernel_rfl)
    have q1 := t1 15 (by rfl)
    have e1 := eval_at q1
    refine inv_call (G := Kd.ok z (prFK s q bf bt ni n m c s0 bb ob cp r 2)) (R := fun x y => Below x.heap.size x y) (wanted_none rfl) (F := 115) (args := #[f 1]) (by simp [go_sem, q1]) hK ?_
    exact k_named (w := x) g1 hnm hR.size
  | 3, _ =>
    obtain rfl : ⟨some 17, Op.unOp UnOp.not 4 (.tmp 16), 4, "tables.go:42", #[⟨2, .data⟩], none⟩ = o := Option.some.inj (show prFOps[3]? = some _ from ho)
    obtain ⟨t2, g2⟩ := dep 2 (by kernel_rfl)
    have q2 := t2 16 (by rfl)
    have e2 := eval_at q2
    have w2 : f 2 = (.bool true) := g2
    rw [w2] at e2
    refine inv_val (G := Kd.ok z (prFK s q bf bt ni n m c s0 bb ob cp r 3)) (R := fun x y => Below x.heap.size x y) (wanted_none rfl) (v := (.bool false)) (w2 := x) (by simp only [execOp, e2]; go_simp) hK rfl (Below.refl _ _)
  | 4, _ =>
    obtain rfl : ⟨some 18, Op.move (.tmp 17), 4, "tables.go:42", #[⟨3, .data⟩, ⟨2, .chain⟩], none⟩ = o := Option.some.inj (show prFOps[4]? = some _ from ho)
    obtain ⟨t3, g3⟩ := dep 3 (by kernel_rfl)
    have q3 := t3 17 (by rfl)
    have e3 := eval_at q3
    have w3 : f 3 = (.bool false) := g3
    rw [w3] at e3
    refine inv_val (G := Kd.ok z (prFK s q bf bt ni n m c s0 bb ob cp r 4)) (R := fun x y => Below x.heap.size x y) (wanted_none rfl) (v := (.bool false)) (w2 := x) (by simp only [execOp, e3]; go_simp) hK rfl (Below.refl _ _)
  | 5, _ =>
    obtain rfl : ⟨some 19, Op.move (.tmp 3), 3, "tables.go:42", #[⟨4, .guard⟩], some (4, false)⟩ = o := Option.some.inj (show prFOps[5]? = some _ from ho)
    obtain ⟨t4, g4⟩ := dep 4 (by kernel_rfl)
    have q4 := t4 18 (by rfl)
    have e4 := eval_at q4
    have v4 : f 4 = .bool false := g4
    have hw := wanted_some (ops := prFOps) (o := ⟨some 19, Op.move (.tmp 3), 3, "tables.go:42", #[⟨4, .guard⟩], some (4, false)⟩) (a := a) (j := 4) (s := 18) (b := false) (c := false) rfl (by rfl) (by rw [← v4]; exact q4)
    have qb3 := (bas 3 (by kernel_rfl)).trans h3
    have eb3 := eval_at qb3
    have w4 : f 4 = (.bool false) := g4
    refine inv_val (G := Kd.ok z (prFK s q bf bt ni n m c s0 bb ob cp r 5)) (R := fun x y => Below x.heap.size x y) (hw.trans (by decide)) (v := (.int .i64 (ni : Nat))) (w2 := x) (by simp only [execOp, eb3]; go_simp) hK rfl (Below.refl _ _)
  | 6, _ =>
    obtain rfl : ⟨some 20, Op.binOp BinOp.gtr 3 (.tmp 19) (.const (.int .i64 0)) 3, 4, "tables.go:42", #[⟨5, .data⟩, ⟨4, .guard⟩], some (4, false)⟩ = o := Option.some.inj (show prFOps[6]? = some _ from ho)
    obtain ⟨t4, g4⟩ := dep 4 (by kernel_rfl)
    have q4 := t4 18 (by rfl)
    have e4 := eval_at q4
    have v4 : f 4 = .bool false := g4
    have hw := wanted_some (ops := prFOps) (o := ⟨some 20, Op.binOp BinOp.gtr 3 (.tmp 19) (.const (.int .i64 0)) 3, 4, "tables.go:42", #[⟨5, .data⟩, ⟨4, .guard⟩], some (4, false)⟩) (a := a) (j := 4) (s := 18) (b := false) (c := false) rfl (by rfl) (by rw [← v4]; exact q4)
    obtain ⟨t5, g5⟩ := dep 5 (by kernel_rfl)
    have q5 := t5 19 (by rfl)
    have e5 := eval_at q5
    have w4 : f 4 = (.bool false) := g4
    have w5 : f 5 = (.int .i64 (ni : Nat)) := g5
    rw [w5] at e5
    refine inv_val (G := Kd.ok z (prFK s q bf bt ni n m c s0 bb ob cp r 6)) (R := fun x y => Below x.heap.size x y) (hw.trans (by decide)) (v := (.bool true)) (w2 := x) (by simp only [execOp, e5]; go_simp <;> omega) hK rfl (Below.refl _ _)
  | 7, _ =>
    obtain rfl : ⟨some 21, Op.move (.tmp 20), 4, "tables.go:42", #[⟨6, .data⟩, ⟨4, .chain⟩, ⟨4, .guard⟩], some (4, false)⟩ = o := Option.some.inj (show prFOps[7]? = some _ from ho)
    obtain ⟨t4, g4⟩ := dep 4 (by kernel_rfl)
    have q4 := t4 18 (by rfl)
    have e4 := eval_at q4
    have v4 : f 4 = .bool false := g4
    have hw := wanted_some (ops := prFOps) (o := ⟨some 21, Op.move (.tmp 20), 4, "tables.go:42", #[⟨6, .data⟩, ⟨4, .chain⟩, ⟨4, .guard⟩], some (4, false)⟩) (a := a) (j := 4) (s := 18) (b := false) (c := false) rfl (by rfl) (by rw [← v4]; exact q4)
    obtain ⟨t6, g6⟩ := dep 6 (by kernel_rfl)
    have q6 := t6 20 (by rfl)
    have e6 := eval_at q6
    have w4 : f 4 = (.bool false) := g4
    have w6 : f 6 = (.bool true) := g6
    rw [w6] at e6
    refine inv_val (G := Kd.ok z (prFK s q bf bt ni n m c s0 bb ob cp r 7)) (R := fun x y => Below x.heap.size x y) (hw.trans (by decide)) (v := (.bool true)) (w2 := x) (by simp only [execOp, e6]; go_simp) hK rfl (Below.refl _ _)
  | 8, _ =>
    obtain rfl : ⟨some 22, Op.fieldAddr 37 (.tmp 4) 0, 0, "tables.go:42", #[⟨7, .guard⟩], some (7, true)⟩ = o := Option.some.inj (show prFOps[8]? = some _ from ho)
    obtain ⟨t7, g7⟩ := dep 7 (by kernel_rfl)
    have q7 := t7 21 (by rfl)
    have e7 := eval_at q7
    have v7 : f 7 = .bool true := g7
    have hw := wanted_some (ops := prFOps) (o := ⟨some 22, Op.fieldAddr 37 (.tmp 4) 0, 0, "tables.go:42", #[⟨7, .guard⟩], some (7, true)⟩) (a := a) (j := 7) (s := 21) (b := true) (c := true) rfl (by rfl) (by rw [← v7]; exact q7)
    have qb4 := (bas 4 (by kernel_rfl)).trans h4
    have eb4 := eval_at qb4
    have w7 : f 7 = (.bool true) := g7
    refine inv_val (G := Kd.ok z (prFK s q bf bt ni n m c s0 bb ob cp r 8)) (R := fun x y => Below x.heap.size x y) (hw.trans (by decide)) (v := (.pointer (some ⟨bf, 0, none⟩))) (w2 := x) (by simp only [execOp, eb4]; go_simp) hK rfl (Below.refl _ _)
  | 9, _ =>
    obtain rfl : ⟨some 23, Op.load 9 (.tmp 22), 9, "tables.go:42", #[⟨8, .data⟩, ⟨7, .guard⟩], some (7, true)⟩ = o := Option.some.inj (show prFOps[9]? = some _ from ho)
    obtain ⟨t7, g7⟩ := dep 7 (by kernel_rfl)
    have q7 := t7 21 (by rfl)
    have e7 := eval_at q7
    have v7 : f 7 = .bool true := g7
    have hw := wanted_some (ops := prFOps) (o := ⟨some 23, Op.load 9 (.tmp 22), 9, "tables.go:42", #[⟨8, .data⟩, ⟨7, .guard⟩], some (7, true)⟩) (a := a) (j := 7) (s := 21) (b := true) (c := true) rfl (by rfl) (by rw [← v7]; exact q7)
    obtain ⟨t8, g8⟩ := dep 8 (by kernel_rfl)
    have q8 := t8 22 (by rfl)
    have e8 := eval_at q8
    have w8 : f 8 = (.pointer (some ⟨bf, 0, none⟩)) := g8
    rw [w8] at e8
    have hc := keep_cellP hR hf0
    refine inv_val (G := Kd.ok z (prFK s q bf bt ni n m c s0 bb ob cp r 9)) (R := fun x y => Below x.heap.size x y) (hw.trans (by decide)) (v := (.string s)) (w2 := x) (by simp only [execOp, e8]; go_simp) hK rfl (Below.refl _ _)
  | 10, _ =>
    obtain rfl : ⟨some 24, Op.fieldAddr 69 (.tmp 1) 0, 0, "tables.go:42", #[⟨7, .guard⟩], some (7, true)⟩ = o := Option.some.inj (show prFOps[10]? = some _ from ho)
    obtain ⟨t7, g7⟩ := dep 7 (by kernel_rfl)
    have q7 := t7 21 (by rfl)
    have e7 := eval_at q7
    have v7 : f 7 = .bool true := g7
    have hw := wanted_some (ops := prFOps) (o := ⟨some 24, Op.fieldAddr 69 (.tmp 1) 0, 0, "tables.go:42", #[⟨7, .guard⟩], some (7, true)⟩) (a := a) (j := 7) (s := 21) (b := true) (c := true) rfl (by rfl) (by rw [← v7]; exact q7)
    have qb1 := (bas 1 (by kernel_rfl)).trans h1
    have eb1 := eval_at qb1
    have w7 : f 7 = (.bool true) := g7
    refine inv_val (G := Kd.ok z (prFK s q bf bt ni n m c s0 bb ob cp r 10)) (R := fun x y => Below x.heap.size x y) (hw.trans (by decide)) (v := (.pointer (some ⟨bt, 0, none⟩))) (w2 := x) (by simp only [execOp, eb1]; go_simp) hK rfl (Below.refl _ _)
  | 11, _ =>
    obtain rfl : ⟨some 25, Op.fieldAddr 30 (.tmp 24) 1, 0, "tables.go:42", #[⟨10, .data⟩, ⟨7, .guard⟩], some (7, true)⟩ = o := Option.some.inj (show prFOps[11]? = some _ from ho)
    obtain ⟨t7, g7⟩ := dep 7 (by kernel_rfl)
    have q7 := t7 21 (by rfl)
    have e7 := eval_at q7
    have v7 : f 7 = .bool true := g7
    have hw := wanted_some (ops := prFOps) (o := ⟨some 25, Op.fieldAddr 30 (.tmp 24) 1, 0, "tables.go:42", #[⟨10, .data⟩, ⟨7, .guard⟩], some (7, true)⟩) (a := a) (j := 7) (s := 21) (b := true) (c := true) rfl (by rfl) (by rw [← v7]; exact q7)
    obtain ⟨t10, g10⟩ := dep 10 (by kernel_rfl)
    have q10 := t10 24 (by rfl)
    have e10 := eval_at q10
    have w7 : f 7 = (.bool true) := g7
    have w10 : f 10 = (.pointer (some ⟨bt, 0, none⟩)) := g10
    rw [w10] at e10
    refine inv_val (G := Kd.ok z (prFK s q bf bt ni n m c s0 bb ob cp r 11)) (R := fun x y => Below x.heap.size x y) (hw.trans (by decide)) (v := (.pointer (some ⟨bt, 1, none⟩))) (w2 := x) (by simp only [execOp, e10]; go_simp) hK rfl (Below.refl _ _)
  | 12, _ =>
    obtain rfl : ⟨some 26, Op.load 28 (.tmp 25), 28, "tables.go:42", #[⟨11, .data⟩, ⟨7, .guard⟩], some (7, true)⟩ = o := Option.some.inj (show prFOps[12]? = some _ from ho)
    obtain ⟨t7, g7⟩ := dep 7 (by kernel_rfl)
    have q7 := t7 21 (by rfl)
    have e7 := eval_at q7
    have v7 : f 7 = .bool true := g7
    have hw := wanted_some (ops := prFOps) (o := ⟨some 26, Op.load 28 (.tmp 25), 28, "tables.go:42", #[⟨11, .data⟩, ⟨7, .guard⟩], some (7, true)⟩) (a := a) (j := 7) (s := 21) (b := true) (c := true) rfl (by rfl) (by rw [← v7]; exact q7)
    obtain ⟨t11, g11⟩ := dep 11 (by kernel_rfl)
    have q11 := t11 25 (by rfl)
    have e11 := eval_at q11
    have w11 : f 11 = (.pointer (some ⟨bt, 1, none⟩)) := g11
    rw [w11] at e11
    have hc := keep_cellP hR he1
    refine inv_val (G := Kd.ok z (prFK s q bf bt ni n m c s0 bb ob cp r 12)) (R := fun x y => Below x.heap.size x y) (hw.trans (by decide)) (v := (.slice (some ⟨bb, ob, none⟩) n cp)) (w2 := x) (by simp only [execOp, e11]; go_simp) hK rfl (Below.refl _ _)
  | 13, _ =>
    obtain rfl : ⟨some 27, Op.move (.tmp 3), 3, "tables.go:42", #[⟨7, .guard⟩], some (7, true)⟩ = o := Option.some.inj (show prFOps[13]? = some _ from ho)
    obtain ⟨t7, g7⟩ := dep 7 (by kernel_rfl)
    have q7 := t7 21 (by rfl)
    have e7 := eval_at q7
    have v7 : f 7 = .bool true := g7
    have hw := wanted_some (ops := prFOps) (o := ⟨some 27, Op.move (.tmp 3), 3, "tables.go:42", #[⟨7, .guard⟩], some (7, true)⟩) (a := a) (j := 7) (s := 21) (b := true) (c := true) rfl (by rfl) (by rw [← v7]; exact q7)
    have qb3 := (bas 3 (by kernel_rfl)).trans h3
    have eb3 := eval_at qb3
    have w7 : f 7 = (.bool true) := g7
    refine inv_val (G := Kd.ok z (prFK s q bf bt ni n m c s0 bb ob cp r 13)) (R := fun x y => Below x.heap.size x y) (hw.trans (by decide)) (v := (.int .i64 (ni : Nat))) (w2 := x) (by simp only [execOp, eb3]; go_simp) hK rfl (Below.refl _ _)
  | 14, _ =>
    obtain rfl : ⟨some 28, Op.binOp BinOp.sub 3 (.tmp 27) (.const (.int .i64 1)) 3, 3, "tables.go:42", #[⟨13, .data⟩, ⟨7, .guard⟩], some (7, true)⟩ = o := Option.some.inj (show prFOps[14]? = some _ from ho)
    obtain ⟨t7, g7⟩ := dep 7 (by kernel_rfl)
    have q7 := t7 21 (by rfl)
    have e7 := eval_at q7
    have v7 : f 7 = .bool true := g7
    have hw := wanted_some (ops := prFOps) (o := ⟨some 28, Op.binOp BinOp.sub 3 (.tmp 27) (.const (.int .i64 1)) 3, 3, "tables.go:42", #[⟨13, .data⟩, ⟨7, .guard⟩], some (7, true)⟩) (a := a) (j := 7) (s := 21) (b := true) (c := true) rfl (by rfl) (by rw [← v7]; exact q7)
    obtain ⟨t13, g13⟩ := dep 13 (by kernel_rfl)
    have q13 := t13 27 (by rfl)
    have e13 := eval_at q13
    have w7 : f 7 = (.bool true) := g7
    have w13 : f 13 = (.int .i64 (ni : Nat)) := g13
    rw [w13] at e13
    refine inv_val (G := Kd.ok z (prFK s q bf bt ni n m c s0 bb ob cp r 14)) (R := fun x y => Below x.heap.size x y) (hw.trans (by decide)) (v := (.int .i64 ((ni : Int) - 1))) (w2 := x) (by simp only [execOp, e13]; go_simp) hK rfl (Below.refl _ _)
  | 15, _ =>
    obtain rfl : ⟨some 29, Op.indexAddr 28 (.tmp 26) (.tmp 28), 0, "tables.go:42", #[⟨12, .data⟩, ⟨14, .data⟩, ⟨7, .guard⟩], some (7, true)⟩ = o := Option.some.inj (show prFOps[15]? = some _ from ho)
    obtain ⟨t7, g7⟩ := dep 7 (by kernel_rfl)
    have q7 := t7 21 (by rfl)
    have e7 := eval_at q7
    have v7 : f 7 = .bool true := g7
    have hw := wanted_some (ops := prFOps) (o := ⟨some 29, Op.indexAddr 28 (.tmp 26) (.tmp 28), 0, "tables.go:42", #[⟨12, .data⟩, ⟨14, .data⟩, ⟨7, .guard⟩], some (7, true)⟩) (a := a) (j := 7) (s := 21) (b := true) (c := true) rfl (by rfl) (by rw [← v7]; exact q7)
    obtain ⟨t12, g12⟩ := dep 12 (by kernel_rfl)
    have q12 := t12 26 (by rfl)
    have e12 := eval_at q12
    obtain ⟨t14, g14⟩ := dep 14 (by kernel_rfl)
    have q14 := t14 28 (by rfl)
    have e14 := eval_at q14
    have w7 : f 7 = (.bool true) := g7
    have w12 : f 12 = (.slice (some ⟨bb, ob, none⟩) n cp) := g12
    have w14 : f 14 = (.int .i64 ((ni : Int) - 1)) := g14
    rw [w12] at e12
    rw [w14] at e14
    refine inv_val (G := Kd.ok z (prFK s q bf bt ni n m c s0 bb ob cp r 15)) (R := fun x y => Below x.heap.size x y) (hw.trans (by decide)) (v := (.pointer (some ⟨bb, ob + (ni - 1) * 2, none⟩))) (w2 := x) (by simp only [execOp, e12, e14]; go_simp; intro h; exact absurd (h (by omega)) (by omega)) hK rfl (Below.refl _ _)
  | 16, _ =>
    obtain rfl : ⟨some 30, Op.fieldAddr 37 (.tmp 29) 0, 0, "tables.go:42", #[⟨15, .data⟩, ⟨7, .guard⟩], some (7, true)⟩ = o := Option.some.inj (show prFOps[16]? = some _ from ho)
    obtain ⟨t7, g7⟩ := dep 7 (by kernel_rfl)
    have q7 := t7 21 (by rfl)
    have e7 := eval_at q7
    have v7 : f 7 = .bool true := g7
    have hw := wanted_some (ops := prFOps) (o := ⟨some 30, Op.fieldAddr 37 (.tmp 29) 0, 0, "tables.go:42", #[⟨15, .data⟩, ⟨7, .guard⟩], some (7, true)⟩) (a := a) (j := 7) (s := 21) (b := true) (c := true) rfl (by rfl) (by rw [← v7]; exact q7)
    obtain ⟨t15, g15⟩ := dep 15 (by kernel_rfl)
    have q15 := t15 29 (by rfl)
    have e15 := eval_at q15
    have w7 : f 7 = (.bool true) := g7
    have w15 : f 15 = (.pointer (some ⟨bb, ob + (ni - 1) * 2, none⟩)) := g15
    rw [w15] at e15
    refine inv_val (G := Kd.ok z (prFK s q bf bt ni n m c s0 bb ob cp r 16)) (R := fun x y => Below x.heap.size x y) (hw.trans (by decide)) (v := (.pointer (some ⟨bb, ob + (ni - 1) * 2, none⟩))) (w2 := x) (by simp only [execOp, e15]; go_simp) hK rfl (Below.refl _ _)
  | 17, _ =>
    obtain rfl : ⟨some 31, Op.load 9 (.tmp 30), 9, "tables.go:42", #[⟨16, .data⟩, ⟨7, .guard⟩], some (7, true)⟩ = o := Option.some.inj (show prFOps[17]? = some _ from ho)
    obtain ⟨t7, g7⟩ := dep 7 (by kernel_rfl)
    have q7 := t7 21 (by rfl)
    have e7 := eval_at q7
    have v7 : f 7 = .bool true := g7
    have hw := wanted_some (ops := prFOps) (o := ⟨some 31, Op.load 9 (.tmp 30), 9, "tables.go:42", #[⟨16, .data⟩, ⟨7, .guard⟩], some (7, true)⟩) (a := a) (j := 7) (s := 21) (b := true) (c := true) rfl (by rfl) (by rw [← v7]; exact q7)
    obtain ⟨t16, g16⟩ := dep 16 (by kernel_rfl)
    have q16 := t16 30 (by rfl)
    have e16 := eval_at q16
    have w16 : f 16 = (.pointer (some ⟨bb, ob + (ni - 1) * 2, none⟩)) := g16
    rw [w16] at e16
    have hc := keep_cellP hR he2
    refine inv_val (G := Kd.ok z (prFK s q bf bt ni n m c s0 bb ob cp r 17)) (R := fun x y => Below x.heap.size x y) (hw.trans (by decide)) (v := (.string s0)) (w2 := x) (by simp only [execOp, e16]; go_simp) hK rfl (Below.refl _ _)
  | 18, _ =>
    obtain rfl : ⟨some 32, Op.binOp BinOp.leq 9 (.tmp 23) (.tmp 31) 9, 4, "tables.go:42", #[⟨9, .data⟩, ⟨17, .data⟩, ⟨7, .guard⟩], some (7, true)⟩ = o := Option.some.inj (show prFOps[18]? = some _ from ho)
    obtain ⟨t7, g7⟩ := dep 7 (by kernel_rfl)
    have q7 := t7 21 (by rfl)
    have e7 := eval_at q7
    have v7 : f 7 = .bool true := g7
    have hw := wanted_some (ops := prFOps) (o := ⟨some 32, Op.binOp BinOp.leq 9 (.tmp 23) (.tmp 31) 9, 4, "tables.go:42", #[⟨9, .data⟩, ⟨17, .data⟩, ⟨7, .guard⟩], some (7, true)⟩) (a := a) (j := 7) (s := 21) (b := true) (c := true) rfl (by rfl) (by rw [← v7]; exact q7)
    obtain ⟨t9, g9⟩ := dep 9 (by kernel_rfl)
    have q9 := t9 23 (by rfl)
    have e9 := eval_at q9
    obtain ⟨t17, g17⟩ := dep 17 (by kernel_rfl)
    have q17 := t17 31 (by rfl)
    have e17 := eval_at q17
    have w7 : f 7 = (.bool true) := g7
    have w9 : f 9 = (.string s) := g9
    have w17 : f 17 = (.string s0) := g17
    rw [w9] at e9
    rw [w17] at e17
    refine inv_val (G := Kd.ok z (prFK s q bf bt ni n m c s0 bb ob cp r 18)) (R := fun x y => Below x.heap.size x y) (hw.trans (by decide)) (v := (.bool false)) (w2 := x) (by simp only [execOp, e9, e17]; go_simp; first | exact hle | simpa [leB] using hle) hK rfl (Below.refl _ _)
  | 19, _ =>
    obtain rfl : ⟨some 33, Op.pick (.tmp 21) (.tmp 32) (.const (Value.bool false)), 4, "tables.go:42", #[⟨7, .data⟩, ⟨18, .data⟩, ⟨4, .guard⟩], some (4, false)⟩ = o := Option.some.inj (show prFOps[19]? = some _ from ho)
    obtain ⟨t4, g4⟩ := dep 4 (by kernel_rfl)
    have q4 := t4 18 (by rfl)
    have e4 := eval_at q4
    have v4 : f 4 = .bool false := g4
    have hw := wanted_some (ops := prFOps) (o := ⟨some 33, Op.pick (.tmp 21) (.tmp 32) (.const (Value.bool false)), 4, "tables.go:42", #[⟨7, .data⟩, ⟨18, .data⟩, ⟨4, .guard⟩], some (4, false)⟩) (a := a) (j := 4) (s := 18) (b := false) (c := false) rfl (by rfl) (by rw [← v4]; exact q4)
    obtain ⟨t7, g7⟩ := dep 7 (by kernel_rfl)
    have q7 := t7 21 (by rfl)
    have e7 := eval_at q7
    obtain ⟨t18, g18⟩ := dep 18 (by kernel_rfl)
    have q18 := t18 32 (by rfl)
    have e18 := eval_at q18
    have w4 : f 4 = (.bool false) := g4
    have w7 : f 7 = (.bool true) := g7
    have w18 : f 18 = (.bool false) := g18
    rw [w7] at e7
    rw [w18] at e18
    refine inv_val (G := Kd.ok z (prFK s q bf bt ni n m c s0 bb ob cp r 19)) (R := fun x y => Below x.heap.size x y) (hw.trans (by decide)) (v := (.bool false)) (w2 := x) (by simp only [execOp, e7, e18]; go_simp) hK rfl (Below.refl _ _)
  | 20, _ =>
    obtain rfl : ⟨some 34, Op.pick (.tmp 18) (.const (Value.bool true)) (.tmp 33), 4, "tables.go:42", #[⟨4, .data⟩, ⟨19, .data⟩], none⟩ = o := Option.some.inj (show prFOps[20]? = some _ from ho)
    obtain ⟨t4, g4⟩ := dep 4 (by kernel_rfl)
    have q4 := t4 18 (by rfl)
    have e4 := eval_at q4
    obtain ⟨t19, g19⟩ := dep 19 (by kernel_rfl)
    have q19 := t19 33 (by rfl)
    have e19 := eval_at q19
    have w4 : f 4 = (.bool false) := g4
    have w19 : f 19 = (.bool false) := g19
    rw [w4] at e4
    rw [w19] at e19
    refine inv_val (G := Kd.ok z (prFK s q bf bt ni n m c s0 bb ob cp r 20)) (R := fun x y => Below x.heap.size x y) (wanted_none rfl) (v := (.bool false)) (w2 := x) (by simp only [execOp, e4, e19]; go_simp) hK rfl (Below.refl _ _)
  | 21, _ =>
    obtain rfl : ⟨some 35, Op.move (.tmp 34), 4, "tables.go:42", #[⟨20, .data⟩, ⟨7, .chain⟩], none⟩ = o := Option.some.inj (show prFOps[21]? = some _ from ho)
    obtain ⟨t20, g20⟩ := dep 20 (by kernel_rfl)
    have q20 := t20 34 (by rfl)
    have e20 := eval_at q20
    have w20 : f 20 = (.bool false) := g20
    rw [w20] at e20
    refine inv_val (G := Kd.ok z (prFK s q bf bt ni n m c s0 bb ob cp r 21)) (R := fun x y => Below x.heap.size x y) (wanted_none rfl) (v := (.bool false)) (w2 := x) (by simp only [execOp, e20]; go_simp) hK rfl (Below.refl _ _)
  | 22, _ =>
    obtain rfl : ⟨some 36, Op.fieldAddr 37 (.tmp 4) 1, 0, "tables.go:42", #[⟨21, .guard⟩], some (21, false)⟩ = o := Option.some.inj (show prFOps[22]? = some _ from ho)
    obtain ⟨t21, g21⟩ := dep 21 (by kernel_rfl)
    have q21 := t21 35 (by rfl)
    have e21 := eval_at q21
    have v21 : f 21 = .bool false := g21
    have hw := wanted_some (ops := prFOps) (o := ⟨some 36, Op.fieldAddr 37 (.tmp 4) 1, 0, "tables.go:42", #[⟨21, .guard⟩], some (21, false)⟩) (a := a) (j := 21) (s := 35) (b := false) (c := false) rfl (by rfl) (by rw [← v21]; exact q21)
    have qb4 := (bas 4 (by kernel_rfl)).trans h4
    have eb4 := eval_at qb4
    have w21 : f 21 = (.bool false) := g21
    refine inv_val (G := Kd.ok z (prFK s q bf bt ni n m c s0 bb ob cp r 22)) (R := fun x y => Below x.heap.size x y) (hw.trans (by decide)) (v := (.pointer (some ⟨bf, 1, none⟩))) (w2 := x) (by simp only [execOp, eb4]; go_simp) hK rfl (Below.refl _ _)
  | 23, _ =>
    obtain rfl : ⟨some 37, Op.load 25 (.tmp 36), 25, "tables.go:42", #[⟨22, .data⟩, ⟨21, .guard⟩], some (21, false)⟩ = o := Option.some.inj (show prFOps[23]? = some _ from ho)
    obtain ⟨t21, g21⟩ := dep 21 (by kernel_rfl)
    have q21 := t21 35 (by rfl)
    have e21 := eval_at q21
    have v21 : f 21 = .bool false := g21
    have hw := wanted_some (ops := prFOps) (o := ⟨some 37, Op.load 25 (.tmp 36), 25, "tables.go:42", #[⟨22, .data⟩, ⟨21, .guard⟩], some (21, false)⟩) (a := a) (j := 21) (s := 35) (b := false) (c := false) rfl (by rfl) (by rw [← v21]; exact q21)
    obtain ⟨t22, g22⟩ := dep 22 (by kernel_rfl)
    have q22 := t22 36 (by rfl)
    have e22 := eval_at q22
    have w22 : f 22 = (.pointer (some ⟨bf, 1, none⟩)) := g22
    rw [w22] at e22
    have hc := keep_cellP hR hf1
    refine inv_val (G := Kd.ok z (prFK s q bf bt ni n m c s0 bb ob cp r 23)) (R := fun x y => Below x.heap.size x y) (hw.trans (by decide)) (v := (.slice q m c)) (w2 := x) (by simp only [execOp, e22]; go_simp) hK rfl (Below.refl _ _)
  | 24, _ =>
    obtain rfl : ⟨some 38, Op.call { callee := Callee.builtin Builtin.len, args := #[.tmp 37], argTypes := #[25] }, 3, "tables.go:42", #[⟨23, .data⟩, ⟨21, .guard⟩], some (21, false)⟩ = o := Option.some.inj (show prFOps[24]? = some _ from ho)
    obtain ⟨t21, g21⟩ := dep 21 (by kernel_rfl)
    have q21 := t21 35 (by rfl)
    have e21 := eval_at q21
    have v21 : f 21 = .bool false := g21
    have hw := wanted_some (ops := prFOps) (o := ⟨some 38, Op.call { callee := Callee.builtin Builtin.len, args := #[.tmp 37], argTypes := #[25] }, 3, "tables.go:42", #[⟨23, .data⟩, ⟨21, .guard⟩], some (21, false)⟩) (a := a) (j := 21) (s := 35) (b := false) (c := false) rfl (by rfl) (by rw [← v21]; exact q21)
    obtain ⟨t23, g23⟩ := dep 23 (by kernel_rfl)
    have q23 := t23 37 (by rfl)
    have e23 := eval_at q23
    have w21 : f 21 = (.bool false) := g21
    have w23 : f 23 = (.slice q m c) := g23
    rw [w23] at e23
    refine inv_val (G := Kd.ok z (prFK s q bf bt ni n m c s0 bb ob cp r 24)) (R := fun x y => Below x.heap.size x y) (hw.trans (by decide)) (v := (.int .i64 (m : Nat))) (w2 := x) (by simp only [execOp]; go_simp) hK rfl (Below.refl _ _)
  | 25, _ =>
    obtain rfl : ⟨some 39, Op.binOp BinOp.gtr 3 (.tmp 38) (.const (.int .i64 2000)) 3, 4, "tables.go:42", #[⟨24, .data⟩, ⟨21, .guard⟩], some (21, false)⟩ = o := Option.some.inj (show prFOps[25]? = some _ from ho)
    obtain ⟨t21, g21⟩ := dep 21 (by kernel_rfl)
    have q21 := t21 35 (by rfl)
    have e21 := eval_at q21
    have v21 : f 21 = .bool false := g21
    have hw := wanted_some (ops := prFOps) (o := ⟨some 39, Op.binOp BinOp.gtr 3 (.tmp 38) (.const (.int .i64 2000)) 3, 4, "tables.go:42", #[⟨24, .data⟩, ⟨21, .guard⟩], some (21, false)⟩) (a := a) (j := 21) (s := 35) (b := false) (c := false) rfl (by rfl) (by rw [← v21]; exact q21)
    obtain ⟨t24, g24⟩ := dep 24 (by kernel_rfl)
    have q24 := t24 38 (by rfl)
    have e24 := eval_at q24
    have w21 : f 21 = (.bool false) := g21
    have w24 : f 24 = (.int .i64 (m : Nat)) := g24
    rw [w24] at e24
    refine inv_val (G := Kd.ok z (prFK s q bf bt ni n m c s0 bb ob cp r 25)) (R := fun x y => Below x.heap.size x y) (hw.trans (by decide)) (v := (.bool false)) (w2 := x) (by simp only [execOp, e24]; go_simp <;> omega) hK rfl (Below.refl _ _)
  | 26, _ =>
    obtain rfl : ⟨some 40, Op.pick (.tmp 35) (.const (Value.bool true)) (.tmp 39), 4, "tables.go:42", #[⟨21, .data⟩, ⟨25, .data⟩], none⟩ = o := Option.some.inj (show prFOps[26]? = some _ from ho)
    obtain ⟨t21, g21⟩ := dep 21 (by kernel_rfl)
    have q21 := t21 35 (by rfl)
    have e21 := eval_at q21
    obtain ⟨t25, g25⟩ := dep 25 (by kernel_rfl)
    have q25 := t25 39 (by rfl)
    have e25 := eval_at q25
    have w21 : f 21 = (.bool false) := g21
    have w25 : f 25 = (.bool false) := g25
    rw [w21] at e21
    rw [w25] at e25
    refine inv_val (G := Kd.ok z (prFK s q bf bt ni n m c s0 bb ob cp r 26)) (R := fun x y => Below x.heap.size x y) (wanted_none rfl) (v := (.bool false)) (w2 := x) (by simp only [execOp, e21, e25]; go_simp) hK rfl (Below.refl _ _)
  | 27, _ =>
    obtain rfl : ⟨some 41, Op.move (.tmp 40), 4, "tables.go:42", #[⟨26, .data⟩, ⟨21, .chain⟩], none⟩ = o := Option.some.inj (show prFOps[27]? = some _ from ho)
    obtain ⟨t26, g26⟩ := dep 26 (by kernel_rfl)
    have q26 := t26 40 (by rfl)
    have e26 := eval_at q26
    have w26 : f 26 = (.bool false) := g26
    rw [w26] at e26
    refine inv_val (G := Kd.ok z (prFK s q bf bt ni n m c s0 bb ob cp r 27)) (R := fun x y => Below x.heap.size x y) (wanted_none rfl) (v := (.bool false)) (w2 := x) (by simp only [execOp, e26]; go_simp) hK rfl (Below.refl _ _)
  | 28, _ =>
    obtain rfl : ⟨some 42, Op.fieldAddr 37 (.tmp 4) 1, 0, "tables.go:42", #[⟨27, .guard⟩], some (27, false)⟩ = o := Option.some.inj (show prFOps[28]? = some _ from ho)
    obtain ⟨t27, g27⟩ := dep 27 (by kernel_rfl)
    have q27 := t27 41 (by rfl)
    have e27 := eval_at q27
    have v27 : f 27 = .bool false := g27
    have hw := wanted_some (ops := prFOps) (o := ⟨some 42, Op.fieldAddr 37 (.tmp 4) 1, 0, "tables.go:42", #[⟨27, .guard⟩], some (27, false)⟩) (a := a) (j := 27) (s := 41) (b := false) (c := false) rfl (by rfl) (by rw [← v27]; exact q27)
    have qb4 := (bas 4 (by kernel_rfl)).trans h4
    have eb4 := eval_at qb4
    have w27 : f 27 = (.bool false) := g27
    refine inv_val (G := Kd.ok z (prFK s q bf bt ni n m c s0 bb ob cp r 28)) (R := fun x y => Below x.heap.size x y) (hw.trans (by decide)) (v := (.pointer (some ⟨bf, 1, none⟩))) (w2 := x) (by simp only [execOp, eb4]; go_simp) hK rfl (Below.refl _ _)
  | 29, _ =>
    obtain rfl : ⟨some 43, Op.load 25 (.tmp 42), 25, "tables.go:42", #[⟨28, .data⟩, ⟨27, .guard⟩], some (27, false)⟩ = o := Option.some.inj (show prFOps[29]? = some _ from ho)
    obtain ⟨t27, g27⟩ := dep 27 (by kernel_rfl)
    have q27 := t27 41 (by rfl)
    have e27 := eval_at q27
    have v27 : f 27 = .bool false := g27
    have hw := wanted_some (ops := prFOps) (o := ⟨some 43, Op.load 25 (.tmp 42), 25, "tables.go:42", #[⟨28, .data⟩, ⟨27, .guard⟩], some (27, false)⟩) (a := a) (j := 27) (s := 41) (b := false) (c := false) rfl (by rfl) (by rw [← v27]; exact q27)
    obtain ⟨t28, g28⟩ := dep 28 (by kernel_rfl)
    have q28 := t28 42 (by rfl)
    have e28 := eval_at q28
    have w28 : f 28 = (.pointer (some ⟨bf, 1, none⟩)) := g28
    rw [w28] at e28
    have hc := keep_cellP hR hf1
    refine inv_val (G := Kd.ok z (prFK s q bf bt ni n m c s0 bb ob cp r 29)) (R := fun x y => Below x.heap.size x y) (hw.trans (by decide)) (v := (.slice q m c)) (w2 := x) (by simp only [execOp, e28]; go_simp) hK rfl (Below.refl _ _)
  | 30, _ =>
    obtain rfl : ⟨some 44, Op.call { callee := Callee.value (.func 116), args := #[.tmp 43], argTypes := #[25] }, 4, "tables.go:42", #[⟨29, .data⟩, ⟨27, .chain⟩, ⟨27, .guard⟩], some (27, false)⟩ = o := Option.some.inj (show prFOps[30]? = some _ from ho)
    obtain ⟨t27, g27⟩ := dep 27 (by kernel_rfl)
    have q27 := t27 41 (by rfl)
    have e27 := eval_at q27
    have v27 : f 27 = .bool false := g27
    have hw := wanted_some (ops := prFOps) (o := ⟨some 44, Op.call { callee := Callee.value (.func 116), args := #[.tmp 43], argTypes := #[25] }, 4, "tables.go:42", #[⟨29, .data⟩, ⟨27, .chain⟩, ⟨27, .guard⟩], some (27, false)⟩) (a := a) (j := 27) (s := 41) (b := false) (c := false) rfl (by rfl) (by rw [← v27]; exact q27)
    obtain ⟨t29, g29⟩ := dep 29 (by kernel_rfl)
    have q29 := t29 43 (by rfl)
    have e29 := eval_at q29
    refine inv_call (G := Kd.ok z (prFK s q bf bt ni n m c s0 bb ob cp r 30)) (R := fun x y => Below x.heap.size x y) (hw.trans (by decide)) (F := 116) (args := #[f 29]) (by simp [go_sem, q29]) hK ?_
    exact k_rt g29 (hrt x hR)
  | 31, _ =>
    obtain rfl : ⟨some 45, Op.unOp UnOp.not 4 (.tmp 44), 4, "tables.go:42", #[⟨30, .data⟩, ⟨27, .guard⟩], some (27, false)⟩ = o := Option.some.inj (show prFOps[31]? = some _ from ho)
    obtain ⟨t27, g27⟩ := dep 27 (by kernel_rfl)
    have q27 := t27 41 (by rfl)
    have e27 := eval_at q27
    have v27 : f 27 = .bool false := g27
    have hw := wanted_some (ops := prFOps) (o := ⟨some 45, Op.unOp UnOp.not 4 (.tmp 44), 4, "tables.go:42", #[⟨30, .data⟩, ⟨27, .guard⟩], some (27, false)⟩) (a := a) (j := 27) (s := 41) (b := false) (c := false) rfl (by rfl) (by rw [← v27]; exact q27)
    obtain ⟨t30, g30⟩ := dep 30 (by kernel_rfl)
    have q30 := t30 44 (by rfl)
    have e30 := eval_at q30
    have w27 : f 27 = (.bool false) := g27
    have w30 : f 30 = (.bool r) := g30
    rw [w30] at e30
    refine inv_val (G := Kd.ok z (prFK s q bf bt ni n m c s0 bb ob cp r 31)) (R := fun x y => Below x.heap.size x y) (hw.trans (by decide)) (v := (.bool (!r))) (w2 := x) (by simp only [execOp, e30]; go_simp) hK rfl (Below.refl _ _)
  | 32, _ =>
    obtain rfl : ⟨some 46, Op.pick (.tmp 41) (.const (Value.bool true)) (.tmp 45), 4, "tables.go:42", #[⟨27, .data⟩, ⟨31, .data⟩], none⟩ = o := Option.some.inj (show prFOps[32]? = some _ from ho)
    obtain ⟨t27, g27⟩ := dep 27 (by kernel_rfl)
    have q27 := t27 41 (by rfl)
    have e27 := eval_at q27
    obtain ⟨t31, g31⟩ := dep 31 (by kernel_rfl)
    have q31 := t31 45 (by rfl)
    have e31 := eval_at q31
    have w27 : f 27 = (.bool false) := g27
    have w31 : f 31 = (.bool (!r)) := g31
    rw [w27] at e27
    rw [w31] at e31
    refine inv_val (G := Kd.ok z (prFK s q bf bt ni n m c s0 bb ob cp r 32)) (R := fun x y => Below x.heap.size x y) (wanted_none rfl) (v := (.bool (!r))) (w2 := x) (by simp only [execOp, e27, e31]; go_simp) hK rfl (Below.refl _ _)
end Go.Proofs.YtglgfpapackcdaaGreat
