import Derived.Test.YtkefndfgkmdphaaGreatFi
import Derived.Test.YtkefndfgkmdphaaGreatFlt
import Derived.Test.YtkefndfgkmdphaaGreatJk

namespace Go.Proofs.YtkefndfgkmdphaaGreat
set_option maxHeartbeats 6400000
set_option maxRecDepth 100000
open Go.RowKit Tnr Tnt

def ktBo0 : Oper := ⟨some 23, Op.move (.tmp 6), 3, "lent.go:555", #[], none⟩
def ktBo1 : Oper := ⟨some 24, Op.move (.tmp 1), 29, "lent.go:555", #[], none⟩
def ktBo2 : Oper := ⟨some 25, Op.call { callee := Callee.builtin Builtin.len, args := #[.tmp 24], argTypes := #[29] }, 3, "lent.go:555", #[⟨1, .data⟩], none⟩
def ktBo3 : Oper := ⟨some 26, Op.binOp BinOp.lss 3 (.tmp 23) (.tmp 25) 3, 4, "lent.go:555", #[⟨0, .data⟩, ⟨2, .data⟩], none⟩
def ktBo4 : Oper := ⟨some 27, Op.move (.tmp 26), 4, "lent.go:555", #[⟨3, .data⟩], none⟩
def ktBo5 : Oper := ⟨some 28, Op.move (.tmp 5), 29, "lent.go:555", #[⟨4, .guard⟩], some (4, true)⟩
def ktBo6 : Oper := ⟨some 29, Op.move (.tmp 6), 3, "lent.go:555", #[⟨4, .guard⟩], some (4, true)⟩
def ktBo7 : Oper := ⟨some 30, Op.indexAddr 29 (.tmp 28) (.tmp 29), 0, "lent.go:555", #[⟨5, .data⟩, ⟨6, .data⟩, ⟨4, .guard⟩], some (4, true)⟩
def ktBo8 : Oper := ⟨some 31, Op.load 34 (.tmp 30), 34, "lent.go:555", #[⟨7, .data⟩, ⟨4, .guard⟩], some (4, true)⟩
def ktBo9 : Oper := ⟨some 32, Op.move (.tmp 1), 29, "lent.go:555", #[⟨4, .guard⟩], some (4, true)⟩
def ktBo10 : Oper := ⟨some 33, Op.move (.tmp 6), 3, "lent.go:555", #[⟨4, .guard⟩], some (4, true)⟩
def ktBo11 : Oper := ⟨some 34, Op.indexAddr 29 (.tmp 32) (.tmp 33), 0, "lent.go:555", #[⟨9, .data⟩, ⟨10, .data⟩, ⟨4, .guard⟩], some (4, true)⟩
def ktBo12 : Oper := ⟨some 35, Op.load 34 (.tmp 34), 34, "lent.go:555", #[⟨11, .data⟩, ⟨4, .guard⟩], some (4, true)⟩
def ktBo13 : Oper := ⟨some 36, Op.call ⟨.value (.func 24), #[.tmp 31, .tmp 35], #[34, 34]⟩, 4, "lent.go:555", #[⟨8, .data⟩, ⟨12, .data⟩, ⟨4, .chain⟩, ⟨4, .guard⟩], some (4, true)⟩
def ktBo14 : Oper := ⟨some 37, Op.unOp UnOp.not 4 (.tmp 36), 4, "lent.go:555", #[⟨13, .data⟩, ⟨4, .guard⟩], some (4, true)⟩
def ktBo15 : Oper := ⟨some 38, Op.pick (.tmp 27) (.tmp 37) (.const (Value.bool false)), 4, "lent.go:555", #[⟨4, .data⟩, ⟨14, .data⟩], none⟩
def ktBo16 : Oper := ⟨some 39, Op.move (.tmp 38), 4, "lent.go:555", #[⟨15, .data⟩, ⟨13, .chain⟩], none⟩
def ktBo17 : Oper := ⟨some 40, Op.move (.tmp 6), 3, "lent.go:555", #[⟨16, .guard⟩], some (16, false)⟩
def ktBo18 : Oper := ⟨some 41, Op.move (.tmp 1), 29, "lent.go:555", #[⟨16, .guard⟩], some (16, false)⟩
def ktBo19 : Oper := ⟨some 42, Op.call { callee := Callee.builtin Builtin.len, args := #[.tmp 41], argTypes := #[29] }, 3, "lent.go:555", #[⟨18, .data⟩, ⟨16, .guard⟩], some (16, false)⟩
def ktBo20 : Oper := ⟨some 43, Op.binOp BinOp.geq 3 (.tmp 40) (.tmp 42) 3, 4, "lent.go:555", #[⟨17, .data⟩, ⟨19, .data⟩, ⟨16, .guard⟩], some (16, false)⟩
def ktBo21 : Oper := ⟨some 44, Op.move (.tmp 43), 4, "lent.go:555", #[⟨20, .data⟩, ⟨16, .chain⟩, ⟨16, .guard⟩], some (16, false)⟩
def ktBo22 : Oper := ⟨some 45, Op.move (.tmp 5), 29, "lent.go:555", #[⟨21, .guard⟩], some (21, true)⟩
def ktBo23 : Oper := ⟨some 46, Op.move (.tmp 6), 3, "lent.go:555", #[⟨21, .guard⟩], some (21, true)⟩
def ktBo24 : Oper := ⟨some 47, Op.indexAddr 29 (.tmp 45) (.tmp 46), 0, "lent.go:555", #[⟨22, .data⟩, ⟨23, .data⟩, ⟨21, .guard⟩], some (21, true)⟩
def ktBo25 : Oper := ⟨some 48, Op.load 34 (.tmp 47), 34, "lent.go:555", #[⟨24, .data⟩, ⟨21, .guard⟩], some (21, true)⟩
def ktBo26 : Oper := ⟨some 49, Op.move (.tmp 6), 3, "lent.go:555", #[⟨21, .guard⟩], some (21, true)⟩
def ktBo27 : Oper := ⟨some 50, Op.move (.tmp 1), 29, "lent.go:555", #[⟨21, .guard⟩], some (21, true)⟩
def ktBo28 : Oper := ⟨some 51, Op.call { callee := Callee.builtin Builtin.len, args := #[.tmp 50], argTypes := #[29] }, 3, "lent.go:555", #[⟨27, .data⟩, ⟨21, .guard⟩], some (21, true)⟩
def ktBo29 : Oper := ⟨some 52, Op.binOp BinOp.sub 3 (.tmp 49) (.tmp 51) 3, 3, "lent.go:555", #[⟨26, .data⟩, ⟨28, .data⟩, ⟨21, .guard⟩], some (21, true)⟩
def ktBo30 : Oper := ⟨some 53, Op.call ⟨.value (.func 34), #[.const (.int .i64 1), .tmp 52], #[3, 3]⟩, 34, "lent.go:555", #[⟨29, .data⟩, ⟨21, .chain⟩, ⟨21, .guard⟩], some (21, true)⟩
def ktBo31 : Oper := ⟨some 54, Op.call ⟨.value (.func 41), #[.tmp 48, .tmp 53], #[34, 34]⟩, 4, "lent.go:555", #[⟨25, .data⟩, ⟨30, .data⟩, ⟨30, .chain⟩, ⟨21, .guard⟩], some (21, true)⟩
def ktBo32 : Oper := ⟨some 55, Op.unOp UnOp.not 4 (.tmp 54), 4, "lent.go:555", #[⟨31, .data⟩, ⟨21, .guard⟩], some (21, true)⟩
def ktBo33 : Oper := ⟨some 56, Op.pick (.tmp 44) (.tmp 55) (.const (Value.bool false)), 4, "lent.go:555", #[⟨21, .data⟩, ⟨32, .data⟩, ⟨16, .guard⟩], some (16, false)⟩
def ktBo34 : Oper := ⟨some 57, Op.pick (.tmp 39) (.const (Value.bool true)) (.tmp 56), 4, "lent.go:555", #[⟨16, .data⟩, ⟨33, .data⟩], none⟩
def ktBOps : Array Oper := #[ktBo0, ktBo1, ktBo2, ktBo3, ktBo4, ktBo5, ktBo6, ktBo7, ktBo8, ktBo9, ktBo10, ktBo11, ktBo12, ktBo13, ktBo14, ktBo15, ktBo16, ktBo17, ktBo18, ktBo19, ktBo20, ktBo21, ktBo22, ktBo23, ktBo24, ktBo25, ktBo26, ktBo27, ktBo28, ktBo29, ktBo30, ktBo31, ktBo32, ktBo33, ktBo34]
def ktBPre : Array Bool := #[true, true, true, true, true, true, true, true, true, true, true, true, true, true, true, true, true, true, true, true, true, true, true, true, true, true, true, true, true, true, true, true, true, true, true]
def ktBK (p : Option Addr) (g n c cap ix jx gE : Nat) (tx : ByteArray) : Nat → Kc
 | 0 => Kc.val (.int .i64 ((ix : Nat) : Int))
 | 1 => Kc.val (.slice p n c)
 | 2 => Kc.val (.int .i64 ((n : Nat) : Int))
 | 3 => Kc.val (.bool false)
 | 4 => Kc.val (.bool false)
 | 5 => Kc.val (undef)
 | 6 => Kc.val (undef)
 | 7 => Kc.val (undef)
 | 8 => Kc.val (undef)
 | 9 => Kc.val (undef)
 | 10 => Kc.val (undef)
 | 11 => Kc.val (undef)
 | 12 => Kc.val (undef)
 | 13 => Kc.val (undef)
 | 14 => Kc.val (undef)
 | 15 => Kc.val (.bool false)
 | 16 => Kc.val (.bool false)
 | 17 => Kc.val (.int .i64 ((ix : Nat) : Int))
 | 18 => Kc.val (.slice p n c)
 | 19 => Kc.val (.int .i64 ((n : Nat) : Int))
 | 20 => Kc.val (.bool true)
 | 21 => Kc.val (.bool true)
 | 22 => Kc.val (.slice (some ⟨g, 0, none⟩) (n + 12) cap)
 | 23 => Kc.val (.int .i64 ((ix : Nat) : Int))
 | 24 => Kc.val (.pointer (some ⟨g, ix * 2, none⟩))
 | 25 => Kc.val (.agg #[.slice none 0 0, .slice (some ⟨gE, 0, none⟩) 1 1])
 | 26 => Kc.val (.int .i64 ((ix : Nat) : Int))
 | 27 => Kc.val (.slice p n c)
 | 28 => Kc.val (.int .i64 ((n : Nat) : Int))
 | 29 => Kc.val (.int .i64 ((jx : Nat) : Int))
 | 30 => Kc.mark tx
 | 31 => Kc.val (.bool true)
 | 32 => Kc.val (.bool false)
 | 33 => Kc.val (.bool false)
 | 34 => Kc.val (.bool false)
 | _ => Kc.val undef
theorem ktB_slots (f : Nat → Value) : slotsOf ktBOps ktBPre f = [(23, f 0), (24, f 1), (25, f 2), (26, f 3), (27, f 4), (28, f 5), (29, f 6), (30, f 7), (31, f 8), (32, f 9), (33, f 10), (34, f 11), (35, f 12), (36, f 13), (37, f 14), (38, f 15), (39, f 16), (40, f 17), (41, f 18), (42, f 19), (43, f 20), (44, f 21), (45, f 22), (46, f 23), (47, f 24), (48, f 25), (49, f 26), (50, f 27), (51, f 28), (52, f 29), (53, f 30), (54, f 31), (55, f 32), (56, f 33), (57, f 34)] := by kernel_rfl
theorem ktB_wp {Q : Exit → Act → World → Prop} {a0 : Act} {w : World} (p : Option Addr) (g n c cap ix jx gE : Nat) (tx : ByteArray) (hsize : a0.tmps.size = 58) (h1 : a0.tmps[1]? = some (.slice p n c)) (h5 : a0.tmps[5]? = some (.slice (some ⟨g, 0, none⟩) (n + 12) cap)) (h6 : a0.tmps[6]? = some (.int .i64 ((ix : Nat) : Int)))
  (hcap : n + 12 ≤ cap) (hix : Hid (ix = n + jx)) (hj : jx < 12)
  (he0 : w.drew.cell? ⟨g, ix * 2, none⟩ = some (.slice none 0 0)) (he1 : w.drew.cell? ⟨g, ix * 2 + 1, none⟩ = some (.slice (some ⟨gE, 0, none⟩) 1 1)) (heg : Bx w.drew gE 9 #[.string tx])
  (hmark : ∀ V : World, Calls Tryz.prog 34 #[.int .i64 1, .int .i64 ((jx : Nat) : Int)] V fun e w' => ∃ g : Nat, e = .returned (.agg #[.slice none 0 0, .slice (some ⟨g, 0, none⟩) 1 1]) ∧ Bx w' g 9 #[.string tx] ∧ Below V.heap.size V w')
  (hsame : ∀ (V : World) (g g' : Nat), Bx V g 9 #[.string tx] → Bx V g' 9 #[.string tx] → Calls Tryz.prog 41 #[.agg #[.slice none 0 0, .slice (some ⟨g, 0, none⟩) 1 1], .agg #[.slice none 0 0, .slice (some ⟨g', 0, none⟩) 1 1]] V fun e w' => e = .returned (.bool true) ∧ Below V.heap.size V w')
  (fin : ∀ (f : Nat → Value) (y : World), (∀ j, j < 35 → ktBPre.getD j false = true → (ktBK p g n c cap ix jx gE tx j).P (f j) y) → Below w.drew.heap.size w.drew y → Q .normal (putL a0 [(23, f 0), (24, f 1), (25, f 2), (26, f 3), (27, f 4), (28, f 5), (29, f 6), (30, f 7), (31, f 8), (32, f 9), (33, f 10), (34, f 11), (35, f 12), (36, f 13), (37, f 14), (38, f 15), (39, f 16), (40, f 17), (41, f 18), (42, f 19), (43, f 20), (44, f 21), (45, f 22), (46, f 23), (47, f 24), (48, f 25), (49, f 26), (50, f 27), (51, f 28), (52, f 29), (53, f 30), (54, f 31), (55, f 32), (56, f 33), (57, f 34)]) y) (id : Nat) :
  (Code.region id ktBOps true).wp Tryz.prog Q a0 w := by
 refine wp_region_inv ktBPre (fun j => (ktBK p g n c cap ix jx gE tx j).P) (fun x y => Below x.heap.size x y) 35 0 (by kernel_rfl) (by kernel_rfl) (by rw [hsize]; kernel_rfl) (by kernel_rfl) (by kernel_rfl) (Below.refl _ _) (fun _ _ _ h1 h2 => bl_trans h1 h2) (fun j _ _ _ h1 h2 => (ktBK p g n c cap ix jx gE tx j).keep h1 h2) ?_ (fun f y h1 h2 => by rw [ktB_slots]; exact any_end (by kernel_rfl) (fin f y h1 h2) 0)
 intro i o ho hp f a x hR hbase hdeps K hK
 have hi : i < 35 := by
  rcases Nat.lt_or_ge i 35 with h | h
  ·exact h
  ·have : ktBOps.size ≤ i := h
   rw [Array.getElem?_eq_none this] at ho; cases ho
 have dep : ∀ j, (o.after.any fun e => Region.binds .any e && e.on == j) = true → (∀ s, slotOf ktBOps j = some s → a.tmps[s]? = some (f j)) ∧ (ktBK p g n c cap ix jx gE tx j).P (f j) x := by
  intro j h
  obtain ⟨e, he, h2⟩ := Array.any_eq_true'.1 h
  simp only [Bool.and_eq_true, beq_iff_eq] at h2
  obtain ⟨h3, rfl⟩ := h2
  exact hdeps e he h3
 have dv : ∀ (j s : Nat) {v : Value}, (o.after.any fun e => Region.binds .any e && e.on == j) = true → slotOf ktBOps j = some s → ktBK p g n c cap ix jx gE tx j = Kc.val v → a.tmps[s]? = some v := fun j s v h1 h2 h3 => by
  obtain ⟨t, g⟩ := dep j h1
  rw [h3] at g
  have e : f j = v := g
  rw [← e]; exact t s h2
 have bv : ∀ {s : Nat} {v : Value}, a0.tmps[s]? = some v → ((List.range ktBOps.size).all fun j => slotOf ktBOps j != some s) = true → a.tmps[s]? = some v := by
  intro s v h0 h
  rw [hbase s fun j hj _ e => ?_]; exact h0
  have h2 := (List.all_eq_true.1 h) j (List.mem_range.2 hj)
  rw [e] at h2; simp at h2
 match i, hi with
 | 0, _ =>
  cases opat (o' := ktBo0) ho rfl
  have eb6 := eval_at (bv h6 (by kernel_rfl))
  exact inv_stay hK rfl (by simp only [execOp, ktBo0, eb6]; go_simp) (wanted_none rfl)
 | 1, _ =>
  cases opat (o' := ktBo1) ho rfl
  have eb1 := eval_at (bv h1 (by kernel_rfl))
  exact inv_stay hK rfl (by simp only [execOp, ktBo1, eb1]; go_simp) (wanted_none rfl)
 | 2, _ =>
  cases opat (o' := ktBo2) ho rfl
  have q1 := dv 1 24 (by kernel_rfl) rfl rfl
  exact inv_stay hK rfl (by simp only [execOp, ktBo2]; go_simp) (wanted_none rfl)
 | 3, _ =>
  cases opat (o' := ktBo3) ho rfl
  have e0 := eval_at (dv 0 23 (by kernel_rfl) rfl rfl)
  have e2 := eval_at (dv 2 25 (by kernel_rfl) rfl rfl)
  have hltD : decide (((ix : Nat) : Int) < ((n : Nat) : Int)) = false := decide_eq_false (by have := hix.out; omega)
  have hltN : decide (ix < n) = false := decide_eq_false (by have := hix.out; omega)
  exact inv_stay hK rfl (by simp only [execOp, ktBo3, e0, e2]; go_simp) (wanted_none rfl)
 | 4, _ =>
  cases opat (o' := ktBo4) ho rfl
  have e3 := eval_at (dv 3 26 (by kernel_rfl) rfl rfl)
  exact inv_stay hK rfl (by simp only [execOp, ktBo4, e3]; go_simp) (wanted_none rfl)
 | 5, _ =>
  cases opat (o' := ktBo5) ho rfl
  have q4 := dv 4 27 (by kernel_rfl) rfl rfl
  exact inv_away hK rfl (wanted_f q4 rfl rfl)
 | 6, _ =>
  cases opat (o' := ktBo6) ho rfl
  have q4 := dv 4 27 (by kernel_rfl) rfl rfl
  exact inv_away hK rfl (wanted_f q4 rfl rfl)
 | 7, _ =>
  cases opat (o' := ktBo7) ho rfl
  have q4 := dv 4 27 (by kernel_rfl) rfl rfl
  exact inv_away hK rfl (wanted_f q4 rfl rfl)
 | 8, _ =>
  cases opat (o' := ktBo8) ho rfl
  have q4 := dv 4 27 (by kernel_rfl) rfl rfl
  exact inv_away hK rfl (wanted_f q4 rfl rfl)
 | 9, _ =>
  cases opat (o' := ktBo9) ho rfl
  have q4 := dv 4 27 (by kernel_rfl) rfl rfl
  exact inv_away hK rfl (wanted_f q4 rfl rfl)
 | 10, _ =>
  cases opat (o' := ktBo10) ho rfl
  have q4 := dv 4 27 (by kernel_rfl) rfl rfl
  exact inv_away hK rfl (wanted_f q4 rfl rfl)
 | 11, _ =>
  cases opat (o' := ktBo11) ho rfl
  have q4 := dv 4 27 (by kernel_rfl) rfl rfl
  exact inv_away hK rfl (wanted_f q4 rfl rfl)
 | 12, _ =>
  cases opat (o' := ktBo12) ho rfl
  have q4 := dv 4 27 (by kernel_rfl) rfl rfl
  exact inv_away hK rfl (wanted_f q4 rfl rfl)
 | 13, _ =>
  cases opat (o' := ktBo13) ho rfl
  have q4 := dv 4 27 (by kernel_rfl) rfl rfl
  exact inv_away hK rfl (wanted_f q4 rfl rfl)
 | 14, _ =>
  cases opat (o' := ktBo14) ho rfl
  have q4 := dv 4 27 (by kernel_rfl) rfl rfl
  exact inv_away hK rfl (wanted_f q4 rfl rfl)
 | 15, _ =>
  cases opat (o' := ktBo15) ho rfl
  have e4 := eval_at (dv 4 27 (by kernel_rfl) rfl rfl)
  have e14 := eval_at (dv 14 37 (by kernel_rfl) rfl rfl)
  refine inv_val (G := (ktBK p g n c cap ix jx gE tx 15).P) (R := fun x y => Below x.heap.size x y) (wanted_none rfl) (v := .bool false) (w2 := x) (by simp only [execOp, ktBo15, e4, e14]; go_simp) hK rfl (Below.refl _ _)
 | 16, _ =>
  cases opat (o' := ktBo16) ho rfl
  have e15 := eval_at (dv 15 38 (by kernel_rfl) rfl rfl)
  exact inv_stay hK rfl (by simp only [execOp, ktBo16, e15]; go_simp) (wanted_none rfl)
 | 17, _ =>
  cases opat (o' := ktBo17) ho rfl
  have q16 := dv 16 39 (by kernel_rfl) rfl rfl
  have eb6 := eval_at (bv h6 (by kernel_rfl))
  exact inv_stay hK rfl (by simp only [execOp, ktBo17, eb6]; go_simp) (wanted_t q16 rfl rfl)
 | 18, _ =>
  cases opat (o' := ktBo18) ho rfl
  have q16 := dv 16 39 (by kernel_rfl) rfl rfl
  have eb1 := eval_at (bv h1 (by kernel_rfl))
  exact inv_stay hK rfl (by simp only [execOp, ktBo18, eb1]; go_simp) (wanted_t q16 rfl rfl)
 | 19, _ =>
  cases opat (o' := ktBo19) ho rfl
  have q16 := dv 16 39 (by kernel_rfl) rfl rfl
  have q18 := dv 18 41 (by kernel_rfl) rfl rfl
  exact inv_stay hK rfl (by simp only [execOp, ktBo19]; go_simp) (wanted_t q16 rfl rfl)
 | 20, _ =>
  cases opat (o' := ktBo20) ho rfl
  have q16 := dv 16 39 (by kernel_rfl) rfl rfl
  have e17 := eval_at (dv 17 40 (by kernel_rfl) rfl rfl)
  have e19 := eval_at (dv 19 42 (by kernel_rfl) rfl rfl)
  have hgeD : decide (((n : Nat) : Int) ≤ ((ix : Nat) : Int)) = true := decide_eq_true (by have := hix.out; omega)
  have hgeN : decide (n ≤ ix) = true := decide_eq_true (by have := hix.out; omega)
  have hltD : decide (((ix : Nat) : Int) < ((n : Nat) : Int)) = false := decide_eq_false (by have := hix.out; omega)
  have hltN : decide (ix < n) = false := decide_eq_false (by have := hix.out; omega)
  exact inv_stay hK rfl (by simp only [execOp, ktBo20, e17, e19]; go_simp) (wanted_t q16 rfl rfl)
 | 21, _ =>
  cases opat (o' := ktBo21) ho rfl
  have q16 := dv 16 39 (by kernel_rfl) rfl rfl
  have e20 := eval_at (dv 20 43 (by kernel_rfl) rfl rfl)
  exact inv_stay hK rfl (by simp only [execOp, ktBo21, e20]; go_simp) (wanted_t q16 rfl rfl)
 | 22, _ =>
  cases opat (o' := ktBo22) ho rfl
  have q21 := dv 21 44 (by kernel_rfl) rfl rfl
  have eb5 := eval_at (bv h5 (by kernel_rfl))
  exact inv_stay hK rfl (by simp only [execOp, ktBo22, eb5]; go_simp) (wanted_t q21 rfl rfl)
 | 23, _ =>
  cases opat (o' := ktBo23) ho rfl
  have q21 := dv 21 44 (by kernel_rfl) rfl rfl
  have eb6 := eval_at (bv h6 (by kernel_rfl))
  exact inv_stay hK rfl (by simp only [execOp, ktBo23, eb6]; go_simp) (wanted_t q21 rfl rfl)
 | 24, _ =>
  cases opat (o' := ktBo24) ho rfl
  have q21 := dv 21 44 (by kernel_rfl) rfl rfl
  have e22 := eval_at (dv 22 45 (by kernel_rfl) rfl rfl)
  have e23 := eval_at (dv 23 46 (by kernel_rfl) rfl rfl)
  have hiI : ((ix : Nat) : Int) < ((n : Nat) : Int) + 12 := by have := hix.out; omega
  have hcI : ((n : Nat) : Int) + 12 ≤ ((cap : Nat) : Int) := by have := hix.out; omega
  exact inv_stay hK rfl (by simp only [execOp, ktBo24, e22, e23]; go_simp) (wanted_t q21 rfl rfl)
 | 25, _ =>
  cases opat (o' := ktBo25) ho rfl
  have q21 := dv 21 44 (by kernel_rfl) rfl rfl
  have e24 := eval_at (dv 24 47 (by kernel_rfl) rfl rfl)
  have ke0 := keep_cellK hR he0
  have ke1 := keep_cellK hR he1
  exact inv_stay hK rfl (by simp only [execOp, ktBo25, e24]; go_simp) (wanted_t q21 rfl rfl)
 | 26, _ =>
  cases opat (o' := ktBo26) ho rfl
  have q21 := dv 21 44 (by kernel_rfl) rfl rfl
  have eb6 := eval_at (bv h6 (by kernel_rfl))
  exact inv_stay hK rfl (by simp only [execOp, ktBo26, eb6]; go_simp) (wanted_t q21 rfl rfl)
 | 27, _ =>
  cases opat (o' := ktBo27) ho rfl
  have q21 := dv 21 44 (by kernel_rfl) rfl rfl
  have eb1 := eval_at (bv h1 (by kernel_rfl))
  exact inv_stay hK rfl (by simp only [execOp, ktBo27, eb1]; go_simp) (wanted_t q21 rfl rfl)
 | 28, _ =>
  cases opat (o' := ktBo28) ho rfl
  have q21 := dv 21 44 (by kernel_rfl) rfl rfl
  have q27 := dv 27 50 (by kernel_rfl) rfl rfl
  exact inv_stay hK rfl (by simp only [execOp, ktBo28]; go_simp) (wanted_t q21 rfl rfl)
 | 29, _ =>
  cases opat (o' := ktBo29) ho rfl
  have q21 := dv 21 44 (by kernel_rfl) rfl rfl
  have e26 := eval_at (dv 26 49 (by kernel_rfl) rfl rfl)
  have e28 := eval_at (dv 28 51 (by kernel_rfl) rfl rfl)
  have hsub : ((ix : Nat) : Int) - ((n : Nat) : Int) = ((jx : Nat) : Int) := by have := hix.out; omega
  have hwr : IntKind.i64.wrap ((jx : Nat) : Int) = ((jx : Nat) : Int) := by rw [IntKind.wrap_i64]; omega
  exact inv_stay hK rfl (by simp only [execOp, ktBo29, e26, e28]; go_simp) (wanted_t q21 rfl rfl)
 | 30, _ =>
  cases opat (o' := ktBo30) ho rfl
  have q21 := dv 21 44 (by kernel_rfl) rfl rfl
  have q29 := dv 29 52 (by kernel_rfl) rfl rfl
  refine inv_enter 34 #[.int .i64 1, .int .i64 ((jx : Nat) : Int)] hK (by simp [go_sem, ktBo30, q29]) (wanted_t q21 rfl rfl) ?_
  refine (hmark x).mono ?_
  rintro e y ⟨gm, rfl, h1, h2⟩
  exact ⟨_, rfl, ⟨gm, rfl, h1⟩, h2⟩
 | 31, _ =>
  cases opat (o' := ktBo31) ho rfl
  have q21 := dv 21 44 (by kernel_rfl) rfl rfl
  have q25 := dv 25 48 (by kernel_rfl) rfl rfl
  obtain ⟨t30, g30⟩ := dep 30 (by kernel_rfl)
  have q30 := t30 53 (by rfl)
  have e30 := eval_at q30
  obtain ⟨gm, hm1, hm2⟩ : ∃ g : Nat, f 30 = .agg #[.slice none 0 0, .slice (some ⟨g, 0, none⟩) 1 1] ∧ Bx x g 9 #[.string tx] := g30
  rw [hm1] at q30
  refine inv_enter 41 #[.agg #[.slice none 0 0, .slice (some ⟨gE, 0, none⟩) 1 1], .agg #[.slice none 0 0, .slice (some ⟨gm, 0, none⟩) 1 1]] hK (by simp [go_sem, ktBo31, q25, q30]) (wanted_t q21 rfl rfl) ?_
  refine (hsame x _ _ (heg.below hR) hm2).mono ?_
  rintro e y ⟨rfl, h⟩
  exact ⟨_, rfl, rfl, h⟩
 | 32, _ =>
  cases opat (o' := ktBo32) ho rfl
  have q21 := dv 21 44 (by kernel_rfl) rfl rfl
  have e31 := eval_at (dv 31 54 (by kernel_rfl) rfl rfl)
  exact inv_stay hK rfl (by simp only [execOp, ktBo32, e31]; go_simp) (wanted_t q21 rfl rfl)
 | 33, _ =>
  cases opat (o' := ktBo33) ho rfl
  have q16 := dv 16 39 (by kernel_rfl) rfl rfl
  have e21 := eval_at (dv 21 44 (by kernel_rfl) rfl rfl)
  have e32 := eval_at (dv 32 55 (by kernel_rfl) rfl rfl)
  exact inv_stay hK rfl (by simp only [execOp, ktBo33, e21, e32]; go_simp) (wanted_t q16 rfl rfl)
 | 34, _ =>
  cases opat (o' := ktBo34) ho rfl
  have e16 := eval_at (dv 16 39 (by kernel_rfl) rfl rfl)
  have e33 := eval_at (dv 33 56 (by kernel_rfl) rfl rfl)
  exact inv_stay hK rfl (by simp only [execOp, ktBo34, e16, e33]; go_simp) (wanted_none rfl)
theorem rowT_cells {w : World} {B g no cap : Nat} {us : List TV} (h : RowT w B (.slice (some ⟨g, 0, none⟩) no cap) us) (hn : us.length = no) (i : Nat) (hi : i < no) : w.cell? ⟨g, i * 2, none⟩ = some (.slice (gt us i).q (gt us i).ys.length (gt us i).cq) ∧ w.cell? ⟨g, i * 2 + 1, none⟩ = some (.slice (gt us i).na (gt us i).nn (gt us i).nc) := by
 unfold RowT at h
 rw [hn] at h
 obtain ⟨e1, e2⟩ := encT_at us i (by omega)
 rw [h.cellAt (i * 2) (by omega), h.cellAt (i * 2 + 1) (by omega)]
 exact ⟨e1, e2⟩
theorem keptTrees_any (p : Option Addr) (c n : Nat) (ts us : List TV) (nms : Nat → List ByteArray) (B g cap : Nat) (w : World) (hn : n = ts.length) (hp : SlT w p ts) (hs : Small7 n ts) (hnm : ∀ i, i < n → TNm w (gt ts i) (nms i)) (hul : us.length = n + 12) (hc1 : n + 12 ≤ cap) (hc2 : cap ≤ 9223372036854775807) (ho : RQ w B n ts nms (.slice (some ⟨g, 0, none⟩) (n + 12) cap) us) :
  Calls Tryz.prog 17 #[.slice (some ⟨g, 0, none⟩) n cap, .slice p n c] w fun e w' => e = .returned (.bool true) ∧ Below w.heap.size w w' := by
 have hnI : (n : Int) ≤ 3000 := by have := hs.1; omega
 have hcI : (n : Int) + 12 ≤ (cap : Int) := by omega
 have hcJ : (cap : Int) ≤ 9223372036854775807 := by omega
 have HN := lh hn
 have HP := lh hp
 have HS := lh hs
 have HNM := lh hnm
 have HU := lh hul
 have HC := lh hc1
 have HO := lh ho
 clear hn hp hs hnm hul hc1 ho hc2
 go_enter Tryz.func17, Tryz.ntmps17
 go_wp2
 go_loopw [6] (fun iv wr => ∃ (k : Nat), k ≤ n + 12 ∧ iv = .int .i64 (k : Nat) ∧ Hid (Below w.heap.size w wr)) (fun iv _ => n + 12 - (intOf iv).toNat)
 case atStart => exact ⟨0, Nat.zero_le _, rfl, Below.refl _ _⟩
 case round =>
  obtain ⟨k, hk, rfl, HB⟩ := hrel
  rename World => wr
  have hbd : Below w.heap.size w wr.drew := HB.out.drew
  by_cases hkn : k < n
  ·have hkx : k < ts.length := by have := HN.out; omega
   obtain ⟨bp, op, rfl, t0, t1, hti⟩ := (HP.out.below hbd).at hkx
   have hu := rowT_cells (HO.out.below hbd).1 HU.out k (by omega)
   obtain ⟨hLT, _⟩ := (HO.out.below hbd).2 k (by rw [HU.out]; omega)
   obtain ⟨g1, cap1, gx, capx, ys, eu, h1, h2⟩ := hLT hkn
   have hsm := HS.out.2.2 _ (gt_mem hkx)
   have hnn := HNM.out k hkn
   rw [eu] at hu
   obtain ⟨t, ht⟩ : ∃ t, t = gt ts k := ⟨_, rfl⟩
   rw [← ht] at t0 t1 hti hsm hnn hu h1 h2
   have hlen : ys.length = t.ys.length := h1.1.symm
   have hu0 := hu.1
   have hu1 := hu.2
   simp only [hlen] at hu0 hu1
   obtain ⟨ly, hly⟩ : ∃ n, n = t.ys.length := ⟨_, rfl⟩
   rw [← hly] at t0 hu0 h1 hsm
   obtain ⟨lx, hlx⟩ : ∃ n, n = t.nn := ⟨_, rfl⟩
   rw [← hlx] at t1 hu1 h2 hsm
   have HKT := lh (fun V (hV : Below wr.drew.heap.size wr.drew V) => keptTree_any t.q ly t.cq t.ys ys t.na lx t.nc (nms k) B g1 cap1 gx capx V hly (hti.nodes.below hV) hsm.2.1 hsm.2.2 ((hnn.sl.below hbd).below hV) hsm.1 (h1.below hV) (h2.below hV))
   have HKN := lh hkn
   have hkJ : (k : Int) < (n : Int) + 12 := by omega
   clear hkx hti hsm hnn ht hly hlx hu hlen eu h1 h2 hLT hkn hbd
   have HC : Hid (KpA wr (fun V => Below wr.drew.heap.size wr.drew V ∧ V.cell? ⟨g, k * 2, none⟩ = some (.slice (some ⟨g1, 0, none⟩) ly cap1) ∧ V.cell? ⟨g, k * 2 + 1, none⟩ = some (.slice (some ⟨gx, 0, none⟩) lx capx) ∧ V.cell? ⟨bp, op + k * 2, none⟩ = some (.slice t.q ly t.cq) ∧ V.cell? ⟨bp, op + k * 2 + 1, none⟩ = some (.slice t.na lx t.nc))) := fun V hV => ⟨hV, keep_cellK hV hu0, keep_cellK hV hu1, keep_cellK hV t0, keep_cellK hV t1⟩
   have hltD : decide ((k : Int) < n) = true := decide_eq_true (by have := HKN.out; omega)
   have hltN : decide (k < n) = true := decide_eq_true HKN.out
   have hgeD : decide ((n : Int) ≤ k) = false := decide_eq_false (by have := HKN.out; omega)
   have hgeN : decide (n ≤ k) = false := decide_eq_false (by have := HKN.out; omega)
   have hkI : (k : Int) < n := by have := HKN.out; omega
   clear hu0 hu1 t0 t1
   go_wp2
   refine quiet_ka HC (by kernel_rfl) (by kernel_rfl) ?_
   iterate 13 (refine qw ?_; try simp only [Act.put, sb])
   (refine q_want (by kernel_rfl) (fun K hK => ?_); refine ⟨.bool true, fun V hV => ?_, hK _ ?_⟩; (focus (have HV := lh hV; clear hV; unfold Oper.quietAt; go_simp; refine (HKT.out _ HV.out.1).mono ?_; rintro er w6 ⟨rfl, hb6⟩; exact ⟨rfl, HC.out _ (bl_trans HV.out.1 hb6)⟩)); clear hK K; (try simp only [Act.put, sb]))
   iterate 8 (refine qw ?_; try simp only [Act.put, sb])
   iterate 11 (refine q_skip ((wanted_some (j := 21) (s := 44) (b := true) (c := false) rfl rfl rfl).trans rfl) ?_; (try simp only [Act.put, sb]))
   iterate 2 (refine qw ?_; try simp only [Act.put, sb])
   refine ⟨wpQuiet_nil ?_⟩
   intro y hV
   have HBY := lh (HB.out.trans ((bl_trans (bl_drew wr) hV.1).mono HB.out.size))
   clear hV HC HKT
   go_wp2
   go_roundw
   case rel => exact ⟨k + 1, by have := HKN.out; omega, by go_num, HBY.out⟩
   case measure => have := HKN.out; simp [intOf]; omega
  ·by_cases hkm : k < n + 12
   ·obtain ⟨jx, hjx⟩ : ∃ j, k = n + j := ⟨k - n, by omega⟩
    have hu := rowT_cells (HO.out.below hbd).1 HU.out k (by omega)
    obtain ⟨_, hMK⟩ := (HO.out.below hbd).2 k (by rw [HU.out]; omega)
    obtain ⟨gE, eu, hgE, _⟩ := hMK hkn
    rw [show k - n = jx by omega] at hgE
    rw [eu] at hu
    have hu0 := hu.1
    have hu1 := hu.2
    have HJ := lh (And.intro hjx (show jx < 12 by omega))
    have HMR := lh (fun V : World => (markTreeV_any 1 jx V (by decide) (by omega)).mono fun e w' ⟨g, h1, h2, _, h4⟩ => (⟨g, h1, h2, h4⟩ : ∃ g : Nat, e = Ending.returned (.agg #[.slice none 0 0, .slice (some ⟨g, 0, none⟩) 1 1]) ∧ Bx w' g 9 #[.string (mtx 1 jx)] ∧ Below V.heap.size V w'))
    have hkJ : (k : Int) < (n : Int) + 12 := by omega
    have HKN := lh hkm
    clear hjx hu eu hMK hkn hkm hbd
    go_wp2
    refine ktB_wp p g n c cap k jx gE (mtx 1 jx) (by rfl) (by rfl) (by rfl) (by rfl) HC.out HJ.out.1 HJ.out.2 hu0 hu1 hgE HMR.out (fun V g1 g2 h1 h2 => sameMark_any g1 g2 (mtx 1 jx) V h1 h2) ?_ _
    intro f y hk2 hb
    clear hu0 hu1 hgE HMR
    have e34 : f 34 = .bool false := hk2 34 (by decide) (by decide)
    rw [e34]
    have HBY := lh (HB.out.trans ((bl_trans (bl_drew wr) hb).mono HB.out.size))
    clear hk2 hb e34
    generalize f 0 = f0, f 1 = f1, f 2 = f2, f 3 = f3, f 4 = f4, f 5 = f5, f 6 = f6, f 7 = f7, f 8 = f8, f 9 = f9, f 10 = f10, f 11 = f11, f 12 = f12, f 13 = f13, f 14 = f14, f 15 = f15, f 16 = f16, f 17 = f17, f 18 = f18, f 19 = f19, f 20 = f20, f 21 = f21, f 22 = f22, f 23 = f23, f 24 = f24, f 25 = f25, f 26 = f26, f 27 = f27, f 28 = f28, f 29 = f29, f 30 = f30, f 31 = f31, f 32 = f32, f 33 = f33
    simp only [putL, List.foldl, Act.put, sb]
    clear f
    go_wp2
    go_roundw
    case rel => exact ⟨k + 1, by have := HKN.out; omega, by go_num, HBY.out⟩
    case measure => have := HKN.out; simp [intOf]; omega
   ·have hkJ : (n : Int) + 12 ≤ k := by omega
    go_wp2
    go_ret
    exact ⟨rfl, HB.out⟩
end Go.Proofs.YtkefndfgkmdphaaGreat
