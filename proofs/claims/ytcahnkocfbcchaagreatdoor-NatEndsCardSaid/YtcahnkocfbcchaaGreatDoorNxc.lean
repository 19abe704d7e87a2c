/- The comparisons of the kit's flatNats, in any order of their operations. -/
import Derived.Test.YtcahnkocfbcchaaGreatDoorNxb

namespace Go.Proofs.YtcahnkocfbcchaaGreatDoor
open Go.RowKit Tnd

def fnAo0 : Oper := { dst := some 88, op := Op.move (Operand.tmp 5), type := 39, pos := "apart.go:431", after := #[], guard := none }
def fnAo1 : Oper := { dst := some 89, op := Op.move (Operand.tmp 9), type := 3, pos := "apart.go:431", after := #[], guard := none }
def fnAo2 : Oper := { dst := some 90, op := Op.indexAddr 39 (Operand.tmp 88) (Operand.tmp 89), type := 0, pos := "apart.go:431", after := #[{ on := 0, ground := Ground.data }, { on := 1, ground := Ground.data }], guard := none }
def fnAo3 : Oper := { dst := some 91, op := Op.load 38 (Operand.tmp 90), type := 38, pos := "apart.go:431", after := #[{ on := 2, ground := Ground.data }], guard := none }
def fnAo4 : Oper := { dst := some 92, op := Op.move (Operand.tmp 10), type := 3, pos := "apart.go:431", after := #[], guard := none }
def fnAo5 : Oper := { dst := some 93, op := Op.indexAddr 38 (Operand.tmp 91) (Operand.tmp 92), type := 0, pos := "apart.go:431", after := #[{ on := 3, ground := Ground.data }, { on := 4, ground := Ground.data }], guard := none }
def fnAo6 : Oper := { dst := some 94, op := Op.load 24 (Operand.tmp 93), type := 24, pos := "apart.go:431", after := #[{ on := 5, ground := Ground.data }], guard := none }
def fnAo7 : Oper := { dst := some 95, op := Op.move (Operand.tmp 9), type := 3, pos := "apart.go:431", after := #[], guard := none }
def fnAo8 : Oper := { dst := some 96, op := Op.move (Operand.tmp 10), type := 3, pos := "apart.go:431", after := #[], guard := none }
def fnAo9 : Oper := { dst := some 97, op := Op.call { callee := Callee.value (Operand.func 101), args := #[Operand.tmp 95, Operand.tmp 96], argTypes := #[3, 3] }, type := 24, pos := "apart.go:431", after := #[{ on := 7, ground := Ground.data }, { on := 8, ground := Ground.data }], guard := none }
def fnAo10 : Oper := { dst := some 98, op := Op.call { callee := Callee.value (Operand.func 38), args := #[Operand.tmp 94, Operand.tmp 97], argTypes := #[24, 24] }, type := 4, pos := "apart.go:431", after := #[{ on := 6, ground := Ground.data }, { on := 9, ground := Ground.data }, { on := 9, ground := Ground.chain }], guard := none }
def fnAo11 : Oper := { dst := some 99, op := Op.unOp UnOp.not 4 (Operand.tmp 98), type := 4, pos := "apart.go:431", after := #[{ on := 10, ground := Ground.data }], guard := none }
def fnAo12 : Oper := { dst := some 100, op := Op.move (Operand.tmp 99), type := 4, pos := "apart.go:431", after := #[{ on := 11, ground := Ground.data }, { on := 10, ground := Ground.chain }], guard := none }
def fnAo13 : Oper := { dst := some 101, op := Op.move (Operand.tmp 10), type := 3, pos := "apart.go:431", after := #[{ on := 12, ground := Ground.guard }], guard := some (12, false) }
def fnAo14 : Oper := { dst := some 102, op := Op.move (Operand.tmp 0), type := 39, pos := "apart.go:431", after := #[{ on := 12, ground := Ground.guard }], guard := some (12, false) }
def fnAo15 : Oper := { dst := some 103, op := Op.move (Operand.tmp 9), type := 3, pos := "apart.go:431", after := #[{ on := 12, ground := Ground.guard }], guard := some (12, false) }
def fnAo16 : Oper := { dst := some 104, op := Op.indexAddr 39 (Operand.tmp 102) (Operand.tmp 103), type := 0, pos := "apart.go:431", after := #[{ on := 14, ground := Ground.data }, { on := 15, ground := Ground.data }, { on := 12, ground := Ground.guard }], guard := some (12, false) }
def fnAo17 : Oper := { dst := some 105, op := Op.load 38 (Operand.tmp 104), type := 38, pos := "apart.go:431", after := #[{ on := 16, ground := Ground.data }, { on := 12, ground := Ground.guard }], guard := some (12, false) }
def fnAo18 : Oper := { dst := some 106, op := Op.call { callee := Callee.builtin Builtin.len, args := #[Operand.tmp 105], argTypes := #[38] }, type := 3, pos := "apart.go:431", after := #[{ on := 17, ground := Ground.data }, { on := 12, ground := Ground.guard }], guard := some (12, false) }
def fnAo19 : Oper := { dst := some 107, op := Op.binOp BinOp.lss 3 (Operand.tmp 101) (Operand.tmp 106) 3, type := 4, pos := "apart.go:431", after := #[{ on := 13, ground := Ground.data }, { on := 18, ground := Ground.data }, { on := 12, ground := Ground.guard }], guard := some (12, false) }
def fnAo20 : Oper := { dst := some 108, op := Op.move (Operand.tmp 107), type := 4, pos := "apart.go:431", after := #[{ on := 19, ground := Ground.data }, { on := 12, ground := Ground.chain }, { on := 12, ground := Ground.guard }], guard := some (12, false) }
def fnAo21 : Oper := { dst := some 109, op := Op.move (Operand.tmp 0), type := 39, pos := "apart.go:431", after := #[{ on := 20, ground := Ground.guard }], guard := some (20, true) }
def fnAo22 : Oper := { dst := some 110, op := Op.move (Operand.tmp 9), type := 3, pos := "apart.go:431", after := #[{ on := 20, ground := Ground.guard }], guard := some (20, true) }
def fnAo23 : Oper := { dst := some 111, op := Op.indexAddr 39 (Operand.tmp 109) (Operand.tmp 110), type := 0, pos := "apart.go:431", after := #[{ on := 21, ground := Ground.data }, { on := 22, ground := Ground.data }, { on := 20, ground := Ground.guard }], guard := some (20, true) }
def fnAo24 : Oper := { dst := some 112, op := Op.load 38 (Operand.tmp 111), type := 38, pos := "apart.go:431", after := #[{ on := 23, ground := Ground.data }, { on := 20, ground := Ground.guard }], guard := some (20, true) }
def fnAo25 : Oper := { dst := some 113, op := Op.move (Operand.tmp 10), type := 3, pos := "apart.go:431", after := #[{ on := 20, ground := Ground.guard }], guard := some (20, true) }
def fnAo26 : Oper := { dst := some 114, op := Op.indexAddr 38 (Operand.tmp 112) (Operand.tmp 113), type := 0, pos := "apart.go:431", after := #[{ on := 24, ground := Ground.data }, { on := 25, ground := Ground.data }, { on := 20, ground := Ground.guard }], guard := some (20, true) }
def fnAo27 : Oper := { dst := some 115, op := Op.load 24 (Operand.tmp 114), type := 24, pos := "apart.go:431", after := #[{ on := 26, ground := Ground.data }, { on := 20, ground := Ground.guard }], guard := some (20, true) }
def fnAo28 : Oper := { dst := some 116, op := Op.move (Operand.tmp 9), type := 3, pos := "apart.go:431", after := #[{ on := 20, ground := Ground.guard }], guard := some (20, true) }
def fnAo29 : Oper := { dst := some 117, op := Op.move (Operand.tmp 10), type := 3, pos := "apart.go:431", after := #[{ on := 20, ground := Ground.guard }], guard := some (20, true) }
def fnAo30 : Oper := { dst := some 118, op := Op.call { callee := Callee.value (Operand.func 101), args := #[Operand.tmp 116, Operand.tmp 117], argTypes := #[3, 3] }, type := 24, pos := "apart.go:431", after := #[{ on := 28, ground := Ground.data }, { on := 29, ground := Ground.data }, { on := 20, ground := Ground.chain }, { on := 20, ground := Ground.guard }], guard := some (20, true) }
def fnAo31 : Oper := { dst := some 119, op := Op.call { callee := Callee.value (Operand.func 38), args := #[Operand.tmp 115, Operand.tmp 118], argTypes := #[24, 24] }, type := 4, pos := "apart.go:431", after := #[{ on := 27, ground := Ground.data }, { on := 30, ground := Ground.data }, { on := 30, ground := Ground.chain }, { on := 20, ground := Ground.guard }], guard := some (20, true) }
def fnAo32 : Oper := { dst := some 120, op := Op.unOp UnOp.not 4 (Operand.tmp 119), type := 4, pos := "apart.go:431", after := #[{ on := 31, ground := Ground.data }, { on := 20, ground := Ground.guard }], guard := some (20, true) }
def fnAo33 : Oper := { dst := some 121, op := Op.pick (Operand.tmp 108) (Operand.tmp 120) (Operand.const (Value.bool false)), type := 4, pos := "apart.go:431", after := #[{ on := 20, ground := Ground.data }, { on := 32, ground := Ground.data }, { on := 12, ground := Ground.guard }], guard := some (12, false) }
def fnAo34 : Oper := { dst := some 122, op := Op.pick (Operand.tmp 100) (Operand.const (Value.bool true)) (Operand.tmp 121), type := 4, pos := "apart.go:431", after := #[{ on := 12, ground := Ground.data }, { on := 33, ground := Ground.data }], guard := none }
def fnAOps : Array Oper := #[fnAo0, fnAo1, fnAo2, fnAo3, fnAo4, fnAo5, fnAo6, fnAo7, fnAo8, fnAo9, fnAo10, fnAo11, fnAo12, fnAo13, fnAo14, fnAo15, fnAo16, fnAo17, fnAo18, fnAo19, fnAo20, fnAo21, fnAo22, fnAo23, fnAo24, fnAo25, fnAo26, fnAo27, fnAo28, fnAo29, fnAo30, fnAo31, fnAo32, fnAo33, fnAo34]
def fnAPre : Array Bool := #[true, true, true, true, true, true, true, true, true, true, true, true, true, true, true, true, true, true, true, true, true, true, true, true, true, true, true, true, true, true, true, true, true, true, true]
def fnAK (bG bq oq ml cq jx ix b1 b2 n c c2 gD gE : Nat) (tx : Int) : Nat → Kc
  | 0 => Kc.val (.slice (some ⟨bG, 0, none⟩) ml ml)
  | 1 => Kc.val (.int .i64 ((jx : Nat) : Int))
  | 2 => Kc.val (.pointer (some ⟨bG, jx, none⟩))
  | 3 => Kc.val (.slice (some ⟨b2, 0, none⟩) (n + 64) c2)
  | 4 => Kc.val (.int .i64 ((ix : Nat) : Int))
  | 5 => Kc.val (.pointer (some ⟨b2, ix, none⟩))
  | 6 => Kc.val (.agg #[.slice (some ⟨gE, 0, none⟩) 1 1])
  | 7 => Kc.val (.int .i64 ((jx : Nat) : Int))
  | 8 => Kc.val (.int .i64 ((ix : Nat) : Int))
  | 9 => Kc.mark tx
  | 10 => Kc.val (.bool true)
  | 11 => Kc.val (.bool false)
  | 12 => Kc.val (.bool false)
  | 13 => Kc.val (.int .i64 ((ix : Nat) : Int))
  | 14 => Kc.val (.slice (some ⟨bq, oq, none⟩) ml cq)
  | 15 => Kc.val (.int .i64 ((jx : Nat) : Int))
  | 16 => Kc.val (.pointer (some ⟨bq, oq + jx, none⟩))
  | 17 => Kc.val (.slice (some ⟨b1, 0, none⟩) n c)
  | 18 => Kc.val (.int .i64 ((n : Nat) : Int))
  | 19 => Kc.val (.bool true)
  | 20 => Kc.val (.bool true)
  | 21 => Kc.val (.slice (some ⟨bq, oq, none⟩) ml cq)
  | 22 => Kc.val (.int .i64 ((jx : Nat) : Int))
  | 23 => Kc.val (.pointer (some ⟨bq, oq + jx, none⟩))
  | 24 => Kc.val (.slice (some ⟨b1, 0, none⟩) n c)
  | 25 => Kc.val (.int .i64 ((ix : Nat) : Int))
  | 26 => Kc.val (.pointer (some ⟨b1, ix, none⟩))
  | 27 => Kc.val (.agg #[.slice (some ⟨gD, 0, none⟩) 1 1])
  | 28 => Kc.val (.int .i64 ((jx : Nat) : Int))
  | 29 => Kc.val (.int .i64 ((ix : Nat) : Int))
  | 30 => Kc.mark tx
  | 31 => Kc.val (.bool true)
  | 32 => Kc.val (.bool false)
  | 33 => Kc.val (.bool false)
  | 34 => Kc.val (.bool false)
  | _ => Kc.val undef
theorem fnA_slots (f : Nat → Value) : slotsOf fnAOps fnAPre f = [(88, f 0), (89, f 1), (90, f 2), (91, f 3), (92, f 4), (93, f 5), (94, f 6), (95, f 7), (96, f 8), (97, f 9), (98, f 10), (99, f 11), (100, f 12), (101, f 13), (102, f 14), (103, f 15), (104, f 16), (105, f 17), (106, f 18), (107, f 19), (108, f 20), (109, f 21), (110, f 22), (111, f 23), (112, f 24), (113, f 25), (114, f 26), (115, f 27), (116, f 28), (117, f 29), (118, f 30), (119, f 31), (120, f 32), (121, f 33), (122, f 34)] := by kernel_rfl
set_option maxHeartbeats 6400000 in
set_option maxRecDepth 100000 in
theorem fnA_wp {Q : Exit → Act → World → Prop} {a0 : Act} {w : World} (bG bq oq ml cq jx ix b1 b2 n c c2 gD gE : Nat) (tx : Int) (hsize : a0.tmps.size = 193) (h0 : a0.tmps[0]? = some (.slice (some ⟨bq, oq, none⟩) ml cq)) (h5 : a0.tmps[5]? = some (.slice (some ⟨bG, 0, none⟩) ml ml)) (h9 : a0.tmps[9]? = some (.int .i64 ((jx : Nat) : Int))) (h10 : a0.tmps[10]? = some (.int .i64 ((ix : Nat) : Int)))
    (hj : jx < ml) (hcg : w.drew.cell? ⟨bG, jx, none⟩ = some (.slice (some ⟨b2, 0, none⟩) (n + 64) c2)) (hcq : w.drew.cell? ⟨bq, oq + jx, none⟩ = some (.slice (some ⟨b1, 0, none⟩) n c)) (hin : ix < n)
    (he0 : w.drew.cell? ⟨b2, ix, none⟩ = some (.slice (some ⟨gE, 0, none⟩) 1 1)) (heg : Bx w.drew gE 46 #[.int .u32 tx])
    (hd0 : w.drew.cell? ⟨b1, ix, none⟩ = some (.slice (some ⟨gD, 0, none⟩) 1 1)) (hdg : Bx w.drew gD 46 #[.int .u32 tx])
    (hmark : ∀ V : World, Calls Tryz.prog 101 #[.int .i64 ((jx : Nat) : Int), .int .i64 ((ix : Nat) : Int)] V fun e w' => ∃ g : Nat, e = .returned (.agg #[.slice (some ⟨g, 0, none⟩) 1 1]) ∧ Bx w' g 46 #[.int .u32 tx] ∧ Below V.heap.size V w')
    (hsame : ∀ (V : World) (g g' : Nat), Bx V g 46 #[.int .u32 tx] → Bx V g' 46 #[.int .u32 tx] → Calls Tryz.prog 38 #[.agg #[.slice (some ⟨g, 0, none⟩) 1 1], .agg #[.slice (some ⟨g', 0, none⟩) 1 1]] V fun e w' => e = .returned (.bool true) ∧ Below V.heap.size V w')
    (fin : ∀ (f : Nat → Value) (y : World), (∀ j, j < 35 → fnAPre.getD j false = true → (fnAK bG bq oq ml cq jx ix b1 b2 n c c2 gD gE tx j).P (f j) y) → Below w.drew.heap.size w.drew y → Q .normal (putL a0 [(88, f 0), (89, f 1), (90, f 2), (91, f 3), (92, f 4), (93, f 5), (94, f 6), (95, f 7), (96, f 8), (97, f 9), (98, f 10), (99, f 11), (100, f 12), (101, f 13), (102, f 14), (103, f 15), (104, f 16), (105, f 17), (106, f 18), (107, f 19), (108, f 20), (109, f 21), (110, f 22), (111, f 23), (112, f 24), (113, f 25), (114, f 26), (115, f 27), (116, f 28), (117, f 29), (118, f 30), (119, f 31), (120, f 32), (121, f 33), (122, f 34)]) y) (id : Nat) :
    (Code.region id fnAOps true).wp Tryz.prog Q a0 w := by
  refine wp_region_inv fnAPre (fun j => (fnAK bG bq oq ml cq jx ix b1 b2 n c c2 gD gE tx j).P) (fun x y => Below x.heap.size x y) 35 0 (by kernel_rfl) (by kernel_rfl) (by rw [hsize]; kernel_rfl) (by kernel_rfl) (by kernel_rfl) (Below.refl _ _) (fun _ _ _ h1 h2 => bl_trans h1 h2) (fun j _ _ _ h1 h2 => (fnAK bG bq oq ml cq jx ix b1 b2 n c c2 gD gE tx j).keep h1 h2) ?_ (fun f y h1 h2 => by rw [fnA_slots]; exact any_end (by kernel_rfl) (fin f y h1 h2) 0)
  intro i o ho hp f a x hR hbase hdeps K hK
  have hi : i < 35 := by
    rcases Nat.lt_or_ge i 35 with h | h
    · exact h
    · have : fnAOps.size ≤ i := h
      rw [Array.getElem?_eq_none this] at ho; cases ho
  have dep : ∀ j, (o.after.any fun e => Region.binds .any e && e.on == j) = true → (∀ s, slotOf fnAOps j = some s → a.tmps[s]? = some (f j)) ∧ (fnAK bG bq oq ml cq jx ix b1 b2 n c c2 gD gE tx j).P (f j) x := by
    intro j h
    obtain ⟨e, he, h2⟩ := Array.any_eq_true'.1 h
    simp only [Bool.and_eq_true, beq_iff_eq] at h2
    obtain ⟨h3, rfl⟩ := h2
    exact hdeps e he h3
  have dv : ∀ (j s : Nat) {v : Value}, (o.after.any fun e => Region.binds .any e && e.on == j) = true → slotOf fnAOps j = some s → fnAK bG bq oq ml cq jx ix b1 b2 n c c2 gD gE tx j = Kc.val v → a.tmps[s]? = some v := fun j s v h1 h2 h3 => by
    obtain ⟨t, g⟩ := dep j h1
    rw [h3] at g
    have e : f j = v := g
    rw [← e]; exact t s h2
  have bv : ∀ {s : Nat} {v : Value}, a0.tmps[s]? = some v → ((List.range fnAOps.size).all fun j => slotOf fnAOps j != some s) = true → a.tmps[s]? = some v := by
    intro s v h0 h
    rw [hbase s fun j hj _ e => ?_]; exact h0
    have h2 := (List.all_eq_true.1 h) j (List.mem_range.2 hj)
    rw [e] at h2; simp at h2
  match i, hi with
  | 0, _ =>
    obtain rfl : fnAo0 = o := Option.some.inj (show fnAOps[0]? = some _ from ho)
    have eb5 := eval_at (bv h5 (by kernel_rfl))
    exact inv_stay hK rfl (by simp only [execOp, fnAo0, eb5]; go_simp) (wanted_none rfl)
  | 1, _ =>
    obtain rfl : fnAo1 = o := Option.some.inj (show fnAOps[1]? = some _ from ho)
    have eb9 := eval_at (bv h9 (by kernel_rfl))
    exact inv_stay hK rfl (by simp only [execOp, fnAo1, eb9]; go_simp) (wanted_none rfl)
  | 2, _ =>
    obtain rfl : fnAo2 = o := Option.some.inj (show fnAOps[2]? = some _ from ho)
    have e0 := eval_at (dv 0 88 (by kernel_rfl) rfl rfl)
    have e1 := eval_at (dv 1 89 (by kernel_rfl) rfl rfl)
    have hjI : ((jx : Nat) : Int) < ((ml : Nat) : Int) := by omega
    exact inv_stay hK rfl (by simp only [execOp, fnAo2, e0, e1]; go_simp) (wanted_none rfl)
  | 3, _ =>
    obtain rfl : fnAo3 = o := Option.some.inj (show fnAOps[3]? = some _ from ho)
    have e2 := eval_at (dv 2 90 (by kernel_rfl) rfl rfl)
    have kcg := keep_cellK hR hcg
    exact inv_stay hK rfl (by simp only [execOp, fnAo3, e2]; go_simp) (wanted_none rfl)
  | 4, _ =>
    obtain rfl : fnAo4 = o := Option.some.inj (show fnAOps[4]? = some _ from ho)
    have eb10 := eval_at (bv h10 (by kernel_rfl))
    exact inv_stay hK rfl (by simp only [execOp, fnAo4, eb10]; go_simp) (wanted_none rfl)
  | 5, _ =>
    obtain rfl : fnAo5 = o := Option.some.inj (show fnAOps[5]? = some _ from ho)
    have e3 := eval_at (dv 3 91 (by kernel_rfl) rfl rfl)
    have e4 := eval_at (dv 4 92 (by kernel_rfl) rfl rfl)
    have hiI : ((ix : Nat) : Int) < ((n : Nat) : Int) + 64 := by omega
    exact inv_stay hK rfl (by simp only [execOp, fnAo5, e3, e4]; go_simp) (wanted_none rfl)
  | 6, _ =>
    obtain rfl : fnAo6 = o := Option.some.inj (show fnAOps[6]? = some _ from ho)
    have e5 := eval_at (dv 5 93 (by kernel_rfl) rfl rfl)
    have khe0 := keep_cellK hR he0
    exact inv_stay hK rfl (by simp only [execOp, fnAo6, e5]; go_simp) (wanted_none rfl)
  | 7, _ =>
    obtain rfl : fnAo7 = o := Option.some.inj (show fnAOps[7]? = some _ from ho)
    have eb9 := eval_at (bv h9 (by kernel_rfl))
    exact inv_stay hK rfl (by simp only [execOp, fnAo7, eb9]; go_simp) (wanted_none rfl)
  | 8, _ =>
    obtain rfl : fnAo8 = o := Option.some.inj (show fnAOps[8]? = some _ from ho)
    have eb10 := eval_at (bv h10 (by kernel_rfl))
    exact inv_stay hK rfl (by simp only [execOp, fnAo8, eb10]; go_simp) (wanted_none rfl)
  | 9, _ =>
    obtain rfl : fnAo9 = o := Option.some.inj (show fnAOps[9]? = some _ from ho)
    have q7 := dv 7 95 (by kernel_rfl) rfl rfl
    have q8 := dv 8 96 (by kernel_rfl) rfl rfl
    refine inv_enter 101 #[.int .i64 ((jx : Nat) : Int), .int .i64 ((ix : Nat) : Int)] hK (by simp [go_sem, fnAo9, q7, q8]) (wanted_none rfl) ?_
    refine (hmark x).mono ?_
    rintro e y ⟨g, rfl, h1, h2⟩
    exact ⟨_, rfl, ⟨g, rfl, h1⟩, h2⟩
  | 10, _ =>
    obtain rfl : fnAo10 = o := Option.some.inj (show fnAOps[10]? = some _ from ho)
    have q6 := dv 6 94 (by kernel_rfl) rfl rfl
    obtain ⟨t9, g9⟩ := dep 9 (by kernel_rfl)
    have q9 := t9 97 (by rfl)
    have e9 := eval_at q9
    obtain ⟨gm, hm1, hm2⟩ : ∃ g : Nat, f 9 = .agg #[.slice (some ⟨g, 0, none⟩) 1 1] ∧ Bx x g 46 #[.int .u32 tx] := g9
    rw [hm1] at q9
    refine inv_enter 38 #[.agg #[.slice (some ⟨gE, 0, none⟩) 1 1], .agg #[.slice (some ⟨gm, 0, none⟩) 1 1]] hK (by simp [go_sem, fnAo10, q6, q9]) (wanted_none rfl) ?_
    refine (hsame x _ _ (heg.below hR) hm2).mono ?_
    rintro e y ⟨rfl, h⟩
    exact ⟨_, rfl, rfl, h⟩
  | 11, _ =>
    obtain rfl : fnAo11 = o := Option.some.inj (show fnAOps[11]? = some _ from ho)
    have e10 := eval_at (dv 10 98 (by kernel_rfl) rfl rfl)
    exact inv_stay hK rfl (by simp only [execOp, fnAo11, e10]; go_simp) (wanted_none rfl)
  | 12, _ =>
    obtain rfl : fnAo12 = o := Option.some.inj (show fnAOps[12]? = some _ from ho)
    have e11 := eval_at (dv 11 99 (by kernel_rfl) rfl rfl)
    exact inv_stay hK rfl (by simp only [execOp, fnAo12, e11]; go_simp) (wanted_none rfl)
  | 13, _ =>
    obtain rfl : fnAo13 = o := Option.some.inj (show fnAOps[13]? = some _ from ho)
    have q12 := dv 12 100 (by kernel_rfl) rfl rfl
    have eb10 := eval_at (bv h10 (by kernel_rfl))
    exact inv_stay hK rfl (by simp only [execOp, fnAo13, eb10]; go_simp) (wanted_t q12 rfl rfl)
  | 14, _ =>
    obtain rfl : fnAo14 = o := Option.some.inj (show fnAOps[14]? = some _ from ho)
    have q12 := dv 12 100 (by kernel_rfl) rfl rfl
    have eb0 := eval_at (bv h0 (by kernel_rfl))
    exact inv_stay hK rfl (by simp only [execOp, fnAo14, eb0]; go_simp) (wanted_t q12 rfl rfl)
  | 15, _ =>
    obtain rfl : fnAo15 = o := Option.some.inj (show fnAOps[15]? = some _ from ho)
    have q12 := dv 12 100 (by kernel_rfl) rfl rfl
    have eb9 := eval_at (bv h9 (by kernel_rfl))
    exact inv_stay hK rfl (by simp only [execOp, fnAo15, eb9]; go_simp) (wanted_t q12 rfl rfl)
  | 16, _ =>
    obtain rfl : fnAo16 = o := Option.some.inj (show fnAOps[16]? = some _ from ho)
    have q12 := dv 12 100 (by kernel_rfl) rfl rfl
    have e14 := eval_at (dv 14 102 (by kernel_rfl) rfl rfl)
    have e15 := eval_at (dv 15 103 (by kernel_rfl) rfl rfl)
    have hjI : ((jx : Nat) : Int) < ((ml : Nat) : Int) := by omega
    exact inv_stay hK rfl (by simp only [execOp, fnAo16, e14, e15]; go_simp) (wanted_t q12 rfl rfl)
  | 17, _ =>
    obtain rfl : fnAo17 = o := Option.some.inj (show fnAOps[17]? = some _ from ho)
    have q12 := dv 12 100 (by kernel_rfl) rfl rfl
    have e16 := eval_at (dv 16 104 (by kernel_rfl) rfl rfl)
    have kcq := keep_cellK hR hcq
    exact inv_stay hK rfl (by simp only [execOp, fnAo17, e16]; go_simp) (wanted_t q12 rfl rfl)
  | 18, _ =>
    obtain rfl : fnAo18 = o := Option.some.inj (show fnAOps[18]? = some _ from ho)
    have q12 := dv 12 100 (by kernel_rfl) rfl rfl
    have q17 := dv 17 105 (by kernel_rfl) rfl rfl
    exact inv_stay hK rfl (by simp only [execOp, fnAo18]; go_simp) (wanted_t q12 rfl rfl)
  | 19, _ =>
    obtain rfl : fnAo19 = o := Option.some.inj (show fnAOps[19]? = some _ from ho)
    have q12 := dv 12 100 (by kernel_rfl) rfl rfl
    have e13 := eval_at (dv 13 101 (by kernel_rfl) rfl rfl)
    have e18 := eval_at (dv 18 106 (by kernel_rfl) rfl rfl)
    have hiI : ((ix : Nat) : Int) < ((n : Nat) : Int) := by omega
    have hltD : decide (((ix : Nat) : Int) < ((n : Nat) : Int)) = true := decide_eq_true hiI
    have hltN : decide (ix < n) = true := decide_eq_true (by omega)
    exact inv_stay hK rfl (by simp only [execOp, fnAo19, e13, e18]; go_simp) (wanted_t q12 rfl rfl)
  | 20, _ =>
    obtain rfl : fnAo20 = o := Option.some.inj (show fnAOps[20]? = some _ from ho)
    have q12 := dv 12 100 (by kernel_rfl) rfl rfl
    have e19 := eval_at (dv 19 107 (by kernel_rfl) rfl rfl)
    exact inv_stay hK rfl (by simp only [execOp, fnAo20, e19]; go_simp) (wanted_t q12 rfl rfl)
  | 21, _ =>
    obtain rfl : fnAo21 = o := Option.some.inj (show fnAOps[21]? = some _ from ho)
    have q20 := dv 20 108 (by kernel_rfl) rfl rfl
    have eb0 := eval_at (bv h0 (by kernel_rfl))
    exact inv_stay hK rfl (by simp only [execOp, fnAo21, eb0]; go_simp) (wanted_t q20 rfl rfl)
  | 22, _ =>
    obtain rfl : fnAo22 = o := Option.some.inj (show fnAOps[22]? = some _ from ho)
    have q20 := dv 20 108 (by kernel_rfl) rfl rfl
    have eb9 := eval_at (bv h9 (by kernel_rfl))
    exact inv_stay hK rfl (by simp only [execOp, fnAo22, eb9]; go_simp) (wanted_t q20 rfl rfl)
  | 23, _ =>
    obtain rfl : fnAo23 = o := Option.some.inj (show fnAOps[23]? = some _ from ho)
    have q20 := dv 20 108 (by kernel_rfl) rfl rfl
    have e21 := eval_at (dv 21 109 (by kernel_rfl) rfl rfl)
    have e22 := eval_at (dv 22 110 (by kernel_rfl) rfl rfl)
    have hjI : ((jx : Nat) : Int) < ((ml : Nat) : Int) := by omega
    exact inv_stay hK rfl (by simp only [execOp, fnAo23, e21, e22]; go_simp) (wanted_t q20 rfl rfl)
  | 24, _ =>
    obtain rfl : fnAo24 = o := Option.some.inj (show fnAOps[24]? = some _ from ho)
    have q20 := dv 20 108 (by kernel_rfl) rfl rfl
    have e23 := eval_at (dv 23 111 (by kernel_rfl) rfl rfl)
    have kcq := keep_cellK hR hcq
    exact inv_stay hK rfl (by simp only [execOp, fnAo24, e23]; go_simp) (wanted_t q20 rfl rfl)
  | 25, _ =>
    obtain rfl : fnAo25 = o := Option.some.inj (show fnAOps[25]? = some _ from ho)
    have q20 := dv 20 108 (by kernel_rfl) rfl rfl
    have eb10 := eval_at (bv h10 (by kernel_rfl))
    exact inv_stay hK rfl (by simp only [execOp, fnAo25, eb10]; go_simp) (wanted_t q20 rfl rfl)
  | 26, _ =>
    obtain rfl : fnAo26 = o := Option.some.inj (show fnAOps[26]? = some _ from ho)
    have q20 := dv 20 108 (by kernel_rfl) rfl rfl
    have e24 := eval_at (dv 24 112 (by kernel_rfl) rfl rfl)
    have e25 := eval_at (dv 25 113 (by kernel_rfl) rfl rfl)
    have hiI : ((ix : Nat) : Int) < ((n : Nat) : Int) := by omega
    exact inv_stay hK rfl (by simp only [execOp, fnAo26, e24, e25]; go_simp) (wanted_t q20 rfl rfl)
  | 27, _ =>
    obtain rfl : fnAo27 = o := Option.some.inj (show fnAOps[27]? = some _ from ho)
    have q20 := dv 20 108 (by kernel_rfl) rfl rfl
    have e26 := eval_at (dv 26 114 (by kernel_rfl) rfl rfl)
    have khd0 := keep_cellK hR hd0
    exact inv_stay hK rfl (by simp only [execOp, fnAo27, e26]; go_simp) (wanted_t q20 rfl rfl)
  | 28, _ =>
    obtain rfl : fnAo28 = o := Option.some.inj (show fnAOps[28]? = some _ from ho)
    have q20 := dv 20 108 (by kernel_rfl) rfl rfl
    have eb9 := eval_at (bv h9 (by kernel_rfl))
    exact inv_stay hK rfl (by simp only [execOp, fnAo28, eb9]; go_simp) (wanted_t q20 rfl rfl)
  | 29, _ =>
    obtain rfl : fnAo29 = o := Option.some.inj (show fnAOps[29]? = some _ from ho)
    have q20 := dv 20 108 (by kernel_rfl) rfl rfl
    have eb10 := eval_at (bv h10 (by kernel_rfl))
    exact inv_stay hK rfl (by simp only [execOp, fnAo29, eb10]; go_simp) (wanted_t q20 rfl rfl)
  | 30, _ =>
    obtain rfl : fnAo30 = o := Option.some.inj (show fnAOps[30]? = some _ from ho)
    have q20 := dv 20 108 (by kernel_rfl) rfl rfl
    have q28 := dv 28 116 (by kernel_rfl) rfl rfl
    have q29 := dv 29 117 (by kernel_rfl) rfl rfl
    refine inv_enter 101 #[.int .i64 ((jx : Nat) : Int), .int .i64 ((ix : Nat) : Int)] hK (by simp [go_sem, fnAo30, q28, q29]) (wanted_t q20 rfl rfl) ?_
    refine (hmark x).mono ?_
    rintro e y ⟨g, rfl, h1, h2⟩
    exact ⟨_, rfl, ⟨g, rfl, h1⟩, h2⟩
  | 31, _ =>
    obtain rfl : fnAo31 = o := Option.some.inj (show fnAOps[31]? = some _ from ho)
    have q20 := dv 20 108 (by kernel_rfl) rfl rfl
    have q27 := dv 27 115 (by kernel_rfl) rfl rfl
    obtain ⟨t30, g30⟩ := dep 30 (by kernel_rfl)
    have q30 := t30 118 (by rfl)
    have e30 := eval_at q30
    obtain ⟨gm, hm1, hm2⟩ : ∃ g : Nat, f 30 = .agg #[.slice (some ⟨g, 0, none⟩) 1 1] ∧ Bx x g 46 #[.int .u32 tx] := g30
    rw [hm1] at q30
    refine inv_enter 38 #[.agg #[.slice (some ⟨gD, 0, none⟩) 1 1], .agg #[.slice (some ⟨gm, 0, none⟩) 1 1]] hK (by simp [go_sem, fnAo31, q27, q30]) (wanted_t q20 rfl rfl) ?_
    refine (hsame x _ _ (hdg.below hR) hm2).mono ?_
    rintro e y ⟨rfl, h⟩
    exact ⟨_, rfl, rfl, h⟩
  | 32, _ =>
    obtain rfl : fnAo32 = o := Option.some.inj (show fnAOps[32]? = some _ from ho)
    have q20 := dv 20 108 (by kernel_rfl) rfl rfl
    have e31 := eval_at (dv 31 119 (by kernel_rfl) rfl rfl)
    exact inv_stay hK rfl (by simp only [execOp, fnAo32, e31]; go_simp) (wanted_t q20 rfl rfl)
  | 33, _ =>
    obtain rfl : fnAo33 = o := Option.some.inj (show fnAOps[33]? = some _ from ho)
    have q12 := dv 12 100 (by kernel_rfl) rfl rfl
    have e20 := eval_at (dv 20 108 (by kernel_rfl) rfl rfl)
    have e32 := eval_at (dv 32 120 (by kernel_rfl) rfl rfl)
    exact inv_stay hK rfl (by simp only [execOp, fnAo33, e20, e32]; go_simp) (wanted_t q12 rfl rfl)
  | 34, _ =>
    obtain rfl : fnAo34 = o := Option.some.inj (show fnAOps[34]? = some _ from ho)
    have e12 := eval_at (dv 12 100 (by kernel_rfl) rfl rfl)
    have e33 := eval_at (dv 33 121 (by kernel_rfl) rfl rfl)
    exact inv_stay hK rfl (by simp only [execOp, fnAo34, e12, e33]; go_simp) (wanted_none rfl)
def fnBo0 : Oper := { dst := some 88, op := Op.move (Operand.tmp 5), type := 39, pos := "apart.go:431", after := #[], guard := none }
def fnBo1 : Oper := { dst := some 89, op := Op.move (Operand.tmp 9), type := 3, pos := "apart.go:431", after := #[], guard := none }
def fnBo2 : Oper := { dst := some 90, op := Op.indexAddr 39 (Operand.tmp 88) (Operand.tmp 89), type := 0, pos := "apart.go:431", after := #[{ on := 0, ground := Ground.data }, { on := 1, ground := Ground.data }], guard := none }
def fnBo3 : Oper := { dst := some 91, op := Op.load 38 (Operand.tmp 90), type := 38, pos := "apart.go:431", after := #[{ on := 2, ground := Ground.data }], guard := none }
def fnBo4 : Oper := { dst := some 92, op := Op.move (Operand.tmp 10), type := 3, pos := "apart.go:431", after := #[], guard := none }
def fnBo5 : Oper := { dst := some 93, op := Op.indexAddr 38 (Operand.tmp 91) (Operand.tmp 92), type := 0, pos := "apart.go:431", after := #[{ on := 3, ground := Ground.data }, { on := 4, ground := Ground.data }], guard := none }
def fnBo6 : Oper := { dst := some 94, op := Op.load 24 (Operand.tmp 93), type := 24, pos := "apart.go:431", after := #[{ on := 5, ground := Ground.data }], guard := none }
def fnBo7 : Oper := { dst := some 95, op := Op.move (Operand.tmp 9), type := 3, pos := "apart.go:431", after := #[], guard := none }
def fnBo8 : Oper := { dst := some 96, op := Op.move (Operand.tmp 10), type := 3, pos := "apart.go:431", after := #[], guard := none }
def fnBo9 : Oper := { dst := some 97, op := Op.call { callee := Callee.value (Operand.func 101), args := #[Operand.tmp 95, Operand.tmp 96], argTypes := #[3, 3] }, type := 24, pos := "apart.go:431", after := #[{ on := 7, ground := Ground.data }, { on := 8, ground := Ground.data }], guard := none }
def fnBo10 : Oper := { dst := some 98, op := Op.call { callee := Callee.value (Operand.func 38), args := #[Operand.tmp 94, Operand.tmp 97], argTypes := #[24, 24] }, type := 4, pos := "apart.go:431", after := #[{ on := 6, ground := Ground.data }, { on := 9, ground := Ground.data }, { on := 9, ground := Ground.chain }], guard := none }
def fnBo11 : Oper := { dst := some 99, op := Op.unOp UnOp.not 4 (Operand.tmp 98), type := 4, pos := "apart.go:431", after := #[{ on := 10, ground := Ground.data }], guard := none }
def fnBo12 : Oper := { dst := some 100, op := Op.move (Operand.tmp 99), type := 4, pos := "apart.go:431", after := #[{ on := 11, ground := Ground.data }, { on := 10, ground := Ground.chain }], guard := none }
def fnBo13 : Oper := { dst := some 101, op := Op.move (Operand.tmp 10), type := 3, pos := "apart.go:431", after := #[{ on := 12, ground := Ground.guard }], guard := some (12, false) }
def fnBo14 : Oper := { dst := some 102, op := Op.move (Operand.tmp 0), type := 39, pos := "apart.go:431", after := #[{ on := 12, ground := Ground.guard }], guard := some (12, false) }
def fnBo15 : Oper := { dst := some 103, op := Op.move (Operand.tmp 9), type := 3, pos := "apart.go:431", after := #[{ on := 12, ground := Ground.guard }], guard := some (12, false) }
def fnBo16 : Oper := { dst := some 104, op := Op.indexAddr 39 (Operand.tmp 102) (Operand.tmp 103), type := 0, pos := "apart.go:431", after := #[{ on := 14, ground := Ground.data }, { on := 15, ground := Ground.data }, { on := 12, ground := Ground.guard }], guard := some (12, false) }
def fnBo17 : Oper := { dst := some 105, op := Op.load 38 (Operand.tmp 104), type := 38, pos := "apart.go:431", after := #[{ on := 16, ground := Ground.data }, { on := 12, ground := Ground.guard }], guard := some (12, false) }
def fnBo18 : Oper := { dst := some 106, op := Op.call { callee := Callee.builtin Builtin.len, args := #[Operand.tmp 105], argTypes := #[38] }, type := 3, pos := "apart.go:431", after := #[{ on := 17, ground := Ground.data }, { on := 12, ground := Ground.guard }], guard := some (12, false) }
def fnBo19 : Oper := { dst := some 107, op := Op.binOp BinOp.lss 3 (Operand.tmp 101) (Operand.tmp 106) 3, type := 4, pos := "apart.go:431", after := #[{ on := 13, ground := Ground.data }, { on := 18, ground := Ground.data }, { on := 12, ground := Ground.guard }], guard := some (12, false) }
def fnBo20 : Oper := { dst := some 108, op := Op.move (Operand.tmp 107), type := 4, pos := "apart.go:431", after := #[{ on := 19, ground := Ground.data }, { on := 12, ground := Ground.chain }, { on := 12, ground := Ground.guard }], guard := some (12, false) }
def fnBo21 : Oper := { dst := some 109, op := Op.move (Operand.tmp 0), type := 39, pos := "apart.go:431", after := #[{ on := 20, ground := Ground.guard }], guard := some (20, true) }
def fnBo22 : Oper := { dst := some 110, op := Op.move (Operand.tmp 9), type := 3, pos := "apart.go:431", after := #[{ on := 20, ground := Ground.guard }], guard := some (20, true) }
def fnBo23 : Oper := { dst := some 111, op := Op.indexAddr 39 (Operand.tmp 109) (Operand.tmp 110), type := 0, pos := "apart.go:431", after := #[{ on := 21, ground := Ground.data }, { on := 22, ground := Ground.data }, { on := 20, ground := Ground.guard }], guard := some (20, true) }
def fnBo24 : Oper := { dst := some 112, op := Op.load 38 (Operand.tmp 111), type := 38, pos := "apart.go:431", after := #[{ on := 23, ground := Ground.data }, { on := 20, ground := Ground.guard }], guard := some (20, true) }
def fnBo25 : Oper := { dst := some 113, op := Op.move (Operand.tmp 10), type := 3, pos := "apart.go:431", after := #[{ on := 20, ground := Ground.guard }], guard := some (20, true) }
def fnBo26 : Oper := { dst := some 114, op := Op.indexAddr 38 (Operand.tmp 112) (Operand.tmp 113), type := 0, pos := "apart.go:431", after := #[{ on := 24, ground := Ground.data }, { on := 25, ground := Ground.data }, { on := 20, ground := Ground.guard }], guard := some (20, true) }
def fnBo27 : Oper := { dst := some 115, op := Op.load 24 (Operand.tmp 114), type := 24, pos := "apart.go:431", after := #[{ on := 26, ground := Ground.data }, { on := 20, ground := Ground.guard }], guard := some (20, true) }
def fnBo28 : Oper := { dst := some 116, op := Op.move (Operand.tmp 9), type := 3, pos := "apart.go:431", after := #[{ on := 20, ground := Ground.guard }], guard := some (20, true) }
def fnBo29 : Oper := { dst := some 117, op := Op.move (Operand.tmp 10), type := 3, pos := "apart.go:431", after := #[{ on := 20, ground := Ground.guard }], guard := some (20, true) }
def fnBo30 : Oper := { dst := some 118, op := Op.call { callee := Callee.value (Operand.func 101), args := #[Operand.tmp 116, Operand.tmp 117], argTypes := #[3, 3] }, type := 24, pos := "apart.go:431", after := #[{ on := 28, ground := Ground.data }, { on := 29, ground := Ground.data }, { on := 20, ground := Ground.chain }, { on := 20, ground := Ground.guard }], guard := some (20, true) }
def fnBo31 : Oper := { dst := some 119, op := Op.call { callee := Callee.value (Operand.func 38), args := #[Operand.tmp 115, Operand.tmp 118], argTypes := #[24, 24] }, type := 4, pos := "apart.go:431", after := #[{ on := 27, ground := Ground.data }, { on := 30, ground := Ground.data }, { on := 30, ground := Ground.chain }, { on := 20, ground := Ground.guard }], guard := some (20, true) }
def fnBo32 : Oper := { dst := some 120, op := Op.unOp UnOp.not 4 (Operand.tmp 119), type := 4, pos := "apart.go:431", after := #[{ on := 31, ground := Ground.data }, { on := 20, ground := Ground.guard }], guard := some (20, true) }
def fnBo33 : Oper := { dst := some 121, op := Op.pick (Operand.tmp 108) (Operand.tmp 120) (Operand.const (Value.bool false)), type := 4, pos := "apart.go:431", after := #[{ on := 20, ground := Ground.data }, { on := 32, ground := Ground.data }, { on := 12, ground := Ground.guard }], guard := some (12, false) }
def fnBo34 : Oper := { dst := some 122, op := Op.pick (Operand.tmp 100) (Operand.const (Value.bool true)) (Operand.tmp 121), type := 4, pos := "apart.go:431", after := #[{ on := 12, ground := Ground.data }, { on := 33, ground := Ground.data }], guard := none }
def fnBOps : Array Oper := #[fnBo0, fnBo1, fnBo2, fnBo3, fnBo4, fnBo5, fnBo6, fnBo7, fnBo8, fnBo9, fnBo10, fnBo11, fnBo12, fnBo13, fnBo14, fnBo15, fnBo16, fnBo17, fnBo18, fnBo19, fnBo20, fnBo21, fnBo22, fnBo23, fnBo24, fnBo25, fnBo26, fnBo27, fnBo28, fnBo29, fnBo30, fnBo31, fnBo32, fnBo33, fnBo34]
def fnBPre : Array Bool := #[true, true, true, true, true, true, true, true, true, true, true, true, true, true, true, true, true, true, true, true, true, true, true, true, true, true, true, true, true, true, true, true, true, true, true]
def fnBK (bG bq oq ml cq jx ix b2 n c c2 gE : Nat) (ad : Option Addr) (tx : Int) : Nat → Kc
  | 0 => Kc.val (.slice (some ⟨bG, 0, none⟩) ml ml)
  | 1 => Kc.val (.int .i64 ((jx : Nat) : Int))
  | 2 => Kc.val (.pointer (some ⟨bG, jx, none⟩))
  | 3 => Kc.val (.slice (some ⟨b2, 0, none⟩) (n + 64) c2)
  | 4 => Kc.val (.int .i64 ((ix : Nat) : Int))
  | 5 => Kc.val (.pointer (some ⟨b2, ix, none⟩))
  | 6 => Kc.val (.agg #[.slice (some ⟨gE, 0, none⟩) 1 1])
  | 7 => Kc.val (.int .i64 ((jx : Nat) : Int))
  | 8 => Kc.val (.int .i64 ((ix : Nat) : Int))
  | 9 => Kc.mark tx
  | 10 => Kc.val (.bool true)
  | 11 => Kc.val (.bool false)
  | 12 => Kc.val (.bool false)
  | 13 => Kc.val (.int .i64 ((ix : Nat) : Int))
  | 14 => Kc.val (.slice (some ⟨bq, oq, none⟩) ml cq)
  | 15 => Kc.val (.int .i64 ((jx : Nat) : Int))
  | 16 => Kc.val (.pointer (some ⟨bq, oq + jx, none⟩))
  | 17 => Kc.val (.slice ad n c)
  | 18 => Kc.val (.int .i64 ((n : Nat) : Int))
  | 19 => Kc.val (.bool false)
  | 20 => Kc.val (.bool false)
  | 21 => Kc.val (undef)
  | 22 => Kc.val (undef)
  | 23 => Kc.val (undef)
  | 24 => Kc.val (undef)
  | 25 => Kc.val (undef)
  | 26 => Kc.val (undef)
  | 27 => Kc.val (undef)
  | 28 => Kc.val (undef)
  | 29 => Kc.val (undef)
  | 30 => Kc.val (undef)
  | 31 => Kc.val (undef)
  | 32 => Kc.val (undef)
  | 33 => Kc.val (.bool false)
  | 34 => Kc.val (.bool false)
  | _ => Kc.val undef
theorem fnB_slots (f : Nat → Value) : slotsOf fnBOps fnBPre f = [(88, f 0), (89, f 1), (90, f 2), (91, f 3), (92, f 4), (93, f 5), (94, f 6), (95, f 7), (96, f 8), (97, f 9), (98, f 10), (99, f 11), (100, f 12), (101, f 13), (102, f 14), (103, f 15), (104, f 16), (105, f 17), (106, f 18), (107, f 19), (108, f 20), (109, f 21), (110, f 22), (111, f 23), (112, f 24), (113, f 25), (114, f 26), (115, f 27), (116, f 28), (117, f 29), (118, f 30), (119, f 31), (120, f 32), (121, f 33), (122, f 34)] := by kernel_rfl
set_option maxHeartbeats 6400000 in
set_option maxRecDepth 100000 in
theorem fnB_wp {Q : Exit → Act → World → Prop} {a0 : Act} {w : World} (bG bq oq ml cq jx ix b2 n c c2 gE : Nat) (ad : Option Addr) (tx : Int) (hsize : a0.tmps.size = 193) (h0 : a0.tmps[0]? = some (.slice (some ⟨bq, oq, none⟩) ml cq)) (h5 : a0.tmps[5]? = some (.slice (some ⟨bG, 0, none⟩) ml ml)) (h9 : a0.tmps[9]? = some (.int .i64 ((jx : Nat) : Int))) (h10 : a0.tmps[10]? = some (.int .i64 ((ix : Nat) : Int)))
    (hj : jx < ml) (hcg : w.drew.cell? ⟨bG, jx, none⟩ = some (.slice (some ⟨b2, 0, none⟩) (n + 64) c2)) (hcq : w.drew.cell? ⟨bq, oq + jx, none⟩ = some (.slice ad n c)) (hin : n ≤ ix) (hi64 : ix < n + 64)
    (he0 : w.drew.cell? ⟨b2, ix, none⟩ = some (.slice (some ⟨gE, 0, none⟩) 1 1)) (heg : Bx w.drew gE 46 #[.int .u32 tx])
    (hmark : ∀ V : World, Calls Tryz.prog 101 #[.int .i64 ((jx : Nat) : Int), .int .i64 ((ix : Nat) : Int)] V fun e w' => ∃ g : Nat, e = .returned (.agg #[.slice (some ⟨g, 0, none⟩) 1 1]) ∧ Bx w' g 46 #[.int .u32 tx] ∧ Below V.heap.size V w')
    (hsame : ∀ (V : World) (g g' : Nat), Bx V g 46 #[.int .u32 tx] → Bx V g' 46 #[.int .u32 tx] → Calls Tryz.prog 38 #[.agg #[.slice (some ⟨g, 0, none⟩) 1 1], .agg #[.slice (some ⟨g', 0, none⟩) 1 1]] V fun e w' => e = .returned (.bool true) ∧ Below V.heap.size V w')
    (fin : ∀ (f : Nat → Value) (y : World), (∀ j, j < 35 → fnBPre.getD j false = true → (fnBK bG bq oq ml cq jx ix b2 n c c2 gE ad tx j).P (f j) y) → Below w.drew.heap.size w.drew y → Q .normal (putL a0 [(88, f 0), (89, f 1), (90, f 2), (91, f 3), (92, f 4), (93, f 5), (94, f 6), (95, f 7), (96, f 8), (97, f 9), (98, f 10), (99, f 11), (100, f 12), (101, f 13), (102, f 14), (103, f 15), (104, f 16), (105, f 17), (106, f 18), (107, f 19), (108, f 20), (109, f 21), (110, f 22), (111, f 23), (112, f 24), (113, f 25), (114, f 26), (115, f 27), (116, f 28), (117, f 29), (118, f 30), (119, f 31), (120, f 32), (121, f 33), (122, f 34)]) y) (id : Nat) :
    (Code.region id fnBOps true).wp Tryz.prog Q a0 w := by
  refine wp_region_inv fnBPre (fun j => (fnBK bG bq oq ml cq jx ix b2 n c c2 gE ad tx j).P) (fun x y => Below x.heap.size x y) 35 0 (by kernel_rfl) (by kernel_rfl) (by rw [hsize]; kernel_rfl) (by kernel_rfl) (by kernel_rfl) (Below.refl _ _) (fun _ _ _ h1 h2 => bl_trans h1 h2) (fun j _ _ _ h1 h2 => (fnBK bG bq oq ml cq jx ix b2 n c c2 gE ad tx j).keep h1 h2) ?_ (fun f y h1 h2 => by rw [fnB_slots]; exact any_end (by kernel_rfl) (fin f y h1 h2) 0)
  intro i o ho hp f a x hR hbase hdeps K hK
  have hi : i < 35 := by
    rcases Nat.lt_or_ge i 35 with h | h
    · exact h
    · have : fnBOps.size ≤ i := h
      rw [Array.getElem?_eq_none this] at ho; cases ho
  have dep : ∀ j, (o.after.any fun e => Region.binds .any e && e.on == j) = true → (∀ s, slotOf fnBOps j = some s → a.tmps[s]? = some (f j)) ∧ (fnBK bG bq oq ml cq jx ix b2 n c c2 gE ad tx j).P (f j) x := by
    intro j h
    obtain ⟨e, he, h2⟩ := Array.any_eq_true'.1 h
    simp only [Bool.and_eq_true, beq_iff_eq] at h2
    obtain ⟨h3, rfl⟩ := h2
    exact hdeps e he h3
  have dv : ∀ (j s : Nat) {v : Value}, (o.after.any fun e => Region.binds .any e && e.on == j) = true → slotOf fnBOps j = some s → fnBK bG bq oq ml cq jx ix b2 n c c2 gE ad tx j = Kc.val v → a.tmps[s]? = some v := fun j s v h1 h2 h3 => by
    obtain ⟨t, g⟩ := dep j h1
    rw [h3] at g
    have e : f j = v := g
    rw [← e]; exact t s h2
  have bv : ∀ {s : Nat} {v : Value}, a0.tmps[s]? = some v → ((List.range fnBOps.size).all fun j => slotOf fnBOps j != some s) = true → a.tmps[s]? = some v := by
    intro s v h0 h
    rw [hbase s fun j hj _ e => ?_]; exact h0
    have h2 := (List.all_eq_true.1 h) j (List.mem_range.2 hj)
    rw [e] at h2; simp at h2
  match i, hi with
  | 0, _ =>
    obtain rfl : fnBo0 = o := Option.some.inj (show fnBOps[0]? = some _ from ho)
    have eb5 := eval_at (bv h5 (by kernel_rfl))
    exact inv_stay hK rfl (by simp only [execOp, fnBo0, eb5]; go_simp) (wanted_none rfl)
  | 1, _ =>
    obtain rfl : fnBo1 = o := Option.some.inj (show fnBOps[1]? = some _ from ho)
    have eb9 := eval_at (bv h9 (by kernel_rfl))
    exact inv_stay hK rfl (by simp only [execOp, fnBo1, eb9]; go_simp) (wanted_none rfl)
  | 2, _ =>
    obtain rfl : fnBo2 = o := Option.some.inj (show fnBOps[2]? = some _ from ho)
    have e0 := eval_at (dv 0 88 (by kernel_rfl) rfl rfl)
    have e1 := eval_at (dv 1 89 (by kernel_rfl) rfl rfl)
    have hjI : ((jx : Nat) : Int) < ((ml : Nat) : Int) := by omega
    exact inv_stay hK rfl (by simp only [execOp, fnBo2, e0, e1]; go_simp) (wanted_none rfl)
  | 3, _ =>
    obtain rfl : fnBo3 = o := Option.some.inj (show fnBOps[3]? = some _ from ho)
    have e2 := eval_at (dv 2 90 (by kernel_rfl) rfl rfl)
    have kcg := keep_cellK hR hcg
    exact inv_stay hK rfl (by simp only [execOp, fnBo3, e2]; go_simp) (wanted_none rfl)
  | 4, _ =>
    obtain rfl : fnBo4 = o := Option.some.inj (show fnBOps[4]? = some _ from ho)
    have eb10 := eval_at (bv h10 (by kernel_rfl))
    exact inv_stay hK rfl (by simp only [execOp, fnBo4, eb10]; go_simp) (wanted_none rfl)
  | 5, _ =>
    obtain rfl : fnBo5 = o := Option.some.inj (show fnBOps[5]? = some _ from ho)
    have e3 := eval_at (dv 3 91 (by kernel_rfl) rfl rfl)
    have e4 := eval_at (dv 4 92 (by kernel_rfl) rfl rfl)
    have hiI : ((ix : Nat) : Int) < ((n : Nat) : Int) + 64 := by omega
    exact inv_stay hK rfl (by simp only [execOp, fnBo5, e3, e4]; go_simp) (wanted_none rfl)
  | 6, _ =>
    obtain rfl : fnBo6 = o := Option.some.inj (show fnBOps[6]? = some _ from ho)
    have e5 := eval_at (dv 5 93 (by kernel_rfl) rfl rfl)
    have khe0 := keep_cellK hR he0
    exact inv_stay hK rfl (by simp only [execOp, fnBo6, e5]; go_simp) (wanted_none rfl)
  | 7, _ =>
    obtain rfl : fnBo7 = o := Option.some.inj (show fnBOps[7]? = some _ from ho)
    have eb9 := eval_at (bv h9 (by kernel_rfl))
    exact inv_stay hK rfl (by simp only [execOp, fnBo7, eb9]; go_simp) (wanted_none rfl)
  | 8, _ =>
    obtain rfl : fnBo8 = o := Option.some.inj (show fnBOps[8]? = some _ from ho)
    have eb10 := eval_at (bv h10 (by kernel_rfl))
    exact inv_stay hK rfl (by simp only [execOp, fnBo8, eb10]; go_simp) (wanted_none rfl)
  | 9, _ =>
    obtain rfl : fnBo9 = o := Option.some.inj (show fnBOps[9]? = some _ from ho)
    have q7 := dv 7 95 (by kernel_rfl) rfl rfl
    have q8 := dv 8 96 (by kernel_rfl) rfl rfl
    refine inv_enter 101 #[.int .i64 ((jx : Nat) : Int), .int .i64 ((ix : Nat) : Int)] hK (by simp [go_sem, fnBo9, q7, q8]) (wanted_none rfl) ?_
    refine (hmark x).mono ?_
    rintro e y ⟨g, rfl, h1, h2⟩
    exact ⟨_, rfl, ⟨g, rfl, h1⟩, h2⟩
  | 10, _ =>
    obtain rfl : fnBo10 = o := Option.some.inj (show fnBOps[10]? = some _ from ho)
    have q6 := dv 6 94 (by kernel_rfl) rfl rfl
    obtain ⟨t9, g9⟩ := dep 9 (by kernel_rfl)
    have q9 := t9 97 (by rfl)
    have e9 := eval_at q9
    obtain ⟨gm, hm1, hm2⟩ : ∃ g : Nat, f 9 = .agg #[.slice (some ⟨g, 0, none⟩) 1 1] ∧ Bx x g 46 #[.int .u32 tx] := g9
    rw [hm1] at q9
    refine inv_enter 38 #[.agg #[.slice (some ⟨gE, 0, none⟩) 1 1], .agg #[.slice (some ⟨gm, 0, none⟩) 1 1]] hK (by simp [go_sem, fnBo10, q6, q9]) (wanted_none rfl) ?_
    refine (hsame x _ _ (heg.below hR) hm2).mono ?_
    rintro e y ⟨rfl, h⟩
    exact ⟨_, rfl, rfl, h⟩
  | 11, _ =>
    obtain rfl : fnBo11 = o := Option.some.inj (show fnBOps[11]? = some _ from ho)
    have e10 := eval_at (dv 10 98 (by kernel_rfl) rfl rfl)
    exact inv_stay hK rfl (by simp only [execOp, fnBo11, e10]; go_simp) (wanted_none rfl)
  | 12, _ =>
    obtain rfl : fnBo12 = o := Option.some.inj (show fnBOps[12]? = some _ from ho)
    have e11 := eval_at (dv 11 99 (by kernel_rfl) rfl rfl)
    exact inv_stay hK rfl (by simp only [execOp, fnBo12, e11]; go_simp) (wanted_none rfl)
  | 13, _ =>
    obtain rfl : fnBo13 = o := Option.some.inj (show fnBOps[13]? = some _ from ho)
    have q12 := dv 12 100 (by kernel_rfl) rfl rfl
    have eb10 := eval_at (bv h10 (by kernel_rfl))
    exact inv_stay hK rfl (by simp only [execOp, fnBo13, eb10]; go_simp) (wanted_t q12 rfl rfl)
  | 14, _ =>
    obtain rfl : fnBo14 = o := Option.some.inj (show fnBOps[14]? = some _ from ho)
    have q12 := dv 12 100 (by kernel_rfl) rfl rfl
    have eb0 := eval_at (bv h0 (by kernel_rfl))
    exact inv_stay hK rfl (by simp only [execOp, fnBo14, eb0]; go_simp) (wanted_t q12 rfl rfl)
  | 15, _ =>
    obtain rfl : fnBo15 = o := Option.some.inj (show fnBOps[15]? = some _ from ho)
    have q12 := dv 12 100 (by kernel_rfl) rfl rfl
    have eb9 := eval_at (bv h9 (by kernel_rfl))
    exact inv_stay hK rfl (by simp only [execOp, fnBo15, eb9]; go_simp) (wanted_t q12 rfl rfl)
  | 16, _ =>
    obtain rfl : fnBo16 = o := Option.some.inj (show fnBOps[16]? = some _ from ho)
    have q12 := dv 12 100 (by kernel_rfl) rfl rfl
    have e14 := eval_at (dv 14 102 (by kernel_rfl) rfl rfl)
    have e15 := eval_at (dv 15 103 (by kernel_rfl) rfl rfl)
    have hjI : ((jx : Nat) : Int) < ((ml : Nat) : Int) := by omega
    exact inv_stay hK rfl (by simp only [execOp, fnBo16, e14, e15]; go_simp) (wanted_t q12 rfl rfl)
  | 17, _ =>
    obtain rfl : fnBo17 = o := Option.some.inj (show fnBOps[17]? = some _ from ho)
    have q12 := dv 12 100 (by kernel_rfl) rfl rfl
    have e16 := eval_at (dv 16 104 (by kernel_rfl) rfl rfl)
    have kcq := keep_cellK hR hcq
    exact inv_stay hK rfl (by simp only [execOp, fnBo17, e16]; go_simp) (wanted_t q12 rfl rfl)
  | 18, _ =>
    obtain rfl : fnBo18 = o := Option.some.inj (show fnBOps[18]? = some _ from ho)
    have q12 := dv 12 100 (by kernel_rfl) rfl rfl
    have q17 := dv 17 105 (by kernel_rfl) rfl rfl
    exact inv_stay hK rfl (by simp only [execOp, fnBo18]; go_simp) (wanted_t q12 rfl rfl)
  | 19, _ =>
    obtain rfl : fnBo19 = o := Option.some.inj (show fnBOps[19]? = some _ from ho)
    have q12 := dv 12 100 (by kernel_rfl) rfl rfl
    have e13 := eval_at (dv 13 101 (by kernel_rfl) rfl rfl)
    have e18 := eval_at (dv 18 106 (by kernel_rfl) rfl rfl)
    have hiI : ((n : Nat) : Int) ≤ ((ix : Nat) : Int) := by omega
    have hltD : decide (((ix : Nat) : Int) < ((n : Nat) : Int)) = false := decide_eq_false (by omega)
    have hltN : decide (ix < n) = false := decide_eq_false (by omega)
    exact inv_stay hK rfl (by simp only [execOp, fnBo19, e13, e18]; go_simp) (wanted_t q12 rfl rfl)
  | 20, _ =>
    obtain rfl : fnBo20 = o := Option.some.inj (show fnBOps[20]? = some _ from ho)
    have q12 := dv 12 100 (by kernel_rfl) rfl rfl
    have e19 := eval_at (dv 19 107 (by kernel_rfl) rfl rfl)
    exact inv_stay hK rfl (by simp only [execOp, fnBo20, e19]; go_simp) (wanted_t q12 rfl rfl)
  | 21, _ =>
    obtain rfl : fnBo21 = o := Option.some.inj (show fnBOps[21]? = some _ from ho)
    have q20 := dv 20 108 (by kernel_rfl) rfl rfl
    exact inv_away hK rfl (wanted_f q20 rfl rfl)
  | 22, _ =>
    obtain rfl : fnBo22 = o := Option.some.inj (show fnBOps[22]? = some _ from ho)
    have q20 := dv 20 108 (by kernel_rfl) rfl rfl
    exact inv_away hK rfl (wanted_f q20 rfl rfl)
  | 23, _ =>
    obtain rfl : fnBo23 = o := Option.some.inj (show fnBOps[23]? = some _ from ho)
    have q20 := dv 20 108 (by kernel_rfl) rfl rfl
    exact inv_away hK rfl (wanted_f q20 rfl rfl)
  | 24, _ =>
    obtain rfl : fnBo24 = o := Option.some.inj (show fnBOps[24]? = some _ from ho)
    have q20 := dv 20 108 (by kernel_rfl) rfl rfl
    exact inv_away hK rfl (wanted_f q20 rfl rfl)
  | 25, _ =>
    obtain rfl : fnBo25 = o := Option.some.inj (show fnBOps[25]? = some _ from ho)
    have q20 := dv 20 108 (by kernel_rfl) rfl rfl
    exact inv_away hK rfl (wanted_f q20 rfl rfl)
  | 26, _ =>
    obtain rfl : fnBo26 = o := Option.some.inj (show fnBOps[26]? = some _ from ho)
    have q20 := dv 20 108 (by kernel_rfl) rfl rfl
    exact inv_away hK rfl (wanted_f q20 rfl rfl)
  | 27, _ =>
    obtain rfl : fnBo27 = o := Option.some.inj (show fnBOps[27]? = some _ from ho)
    have q20 := dv 20 108 (by kernel_rfl) rfl rfl
    exact inv_away hK rfl (wanted_f q20 rfl rfl)
  | 28, _ =>
    obtain rfl : fnBo28 = o := Option.some.inj (show fnBOps[28]? = some _ from ho)
    have q20 := dv 20 108 (by kernel_rfl) rfl rfl
    exact inv_away hK rfl (wanted_f q20 rfl rfl)
  | 29, _ =>
    obtain rfl : fnBo29 = o := Option.some.inj (show fnBOps[29]? = some _ from ho)
    have q20 := dv 20 108 (by kernel_rfl) rfl rfl
    exact inv_away hK rfl (wanted_f q20 rfl rfl)
  | 30, _ =>
    obtain rfl : fnBo30 = o := Option.some.inj (show fnBOps[30]? = some _ from ho)
    have q20 := dv 20 108 (by kernel_rfl) rfl rfl
    exact inv_away hK rfl (wanted_f q20 rfl rfl)
  | 31, _ =>
    obtain rfl : fnBo31 = o := Option.some.inj (show fnBOps[31]? = some _ from ho)
    have q20 := dv 20 108 (by kernel_rfl) rfl rfl
    exact inv_away hK rfl (wanted_f q20 rfl rfl)
  | 32, _ =>
    obtain rfl : fnBo32 = o := Option.some.inj (show fnBOps[32]? = some _ from ho)
    have q20 := dv 20 108 (by kernel_rfl) rfl rfl
    exact inv_away hK rfl (wanted_f q20 rfl rfl)
  | 33, _ =>
    obtain rfl : fnBo33 = o := Option.some.inj (show fnBOps[33]? = some _ from ho)
    have q12 := dv 12 100 (by kernel_rfl) rfl rfl
    have e20 := eval_at (dv 20 108 (by kernel_rfl) rfl rfl)
    have e32 := eval_at (dv 32 120 (by kernel_rfl) rfl rfl)
    refine inv_val (G := (fnBK bG bq oq ml cq jx ix b2 n c c2 gE ad tx 33).P) (R := fun x y => Below x.heap.size x y) (wanted_t q12 rfl rfl) (v := .bool false) (w2 := x) (by simp only [execOp, fnBo33, e20, e32]; go_simp) hK rfl (Below.refl _ _)
  | 34, _ =>
    obtain rfl : fnBo34 = o := Option.some.inj (show fnBOps[34]? = some _ from ho)
    have e12 := eval_at (dv 12 100 (by kernel_rfl) rfl rfl)
    have e33 := eval_at (dv 33 121 (by kernel_rfl) rfl rfl)
    exact inv_stay hK rfl (by simp only [execOp, fnBo34, e12, e33]; go_simp) (wanted_none rfl)
def fnCo0 : Oper := { dst := some 167, op := Op.move (Operand.tmp 0), type := 39, pos := "apart.go:445", after := #[], guard := none }
def fnCo1 : Oper := { dst := some 168, op := Op.move (Operand.tmp 14), type := 3, pos := "apart.go:445", after := #[], guard := none }
def fnCo2 : Oper := { dst := some 169, op := Op.indexAddr 39 (Operand.tmp 167) (Operand.tmp 168), type := 0, pos := "apart.go:445", after := #[{ on := 0, ground := Ground.data }, { on := 1, ground := Ground.data }], guard := none }
def fnCo3 : Oper := { dst := some 170, op := Op.load 38 (Operand.tmp 169), type := 38, pos := "apart.go:445", after := #[{ on := 2, ground := Ground.data }], guard := none }
def fnCo4 : Oper := { dst := some 171, op := Op.move (Operand.tmp 15), type := 3, pos := "apart.go:445", after := #[], guard := none }
def fnCo5 : Oper := { dst := some 172, op := Op.indexAddr 38 (Operand.tmp 170) (Operand.tmp 171), type := 0, pos := "apart.go:445", after := #[{ on := 3, ground := Ground.data }, { on := 4, ground := Ground.data }], guard := none }
def fnCo6 : Oper := { dst := some 173, op := Op.load 24 (Operand.tmp 172), type := 24, pos := "apart.go:445", after := #[{ on := 5, ground := Ground.data }], guard := none }
def fnCo7 : Oper := { dst := some 174, op := Op.move (Operand.tmp 14), type := 3, pos := "apart.go:445", after := #[], guard := none }
def fnCo8 : Oper := { dst := some 175, op := Op.move (Operand.tmp 15), type := 3, pos := "apart.go:445", after := #[], guard := none }
def fnCo9 : Oper := { dst := some 176, op := Op.call { callee := Callee.value (Operand.func 101), args := #[Operand.tmp 174, Operand.tmp 175], argTypes := #[3, 3] }, type := 24, pos := "apart.go:445", after := #[{ on := 7, ground := Ground.data }, { on := 8, ground := Ground.data }], guard := none }
def fnCo10 : Oper := { dst := some 177, op := Op.call { callee := Callee.value (Operand.func 38), args := #[Operand.tmp 173, Operand.tmp 176], argTypes := #[24, 24] }, type := 4, pos := "apart.go:445", after := #[{ on := 6, ground := Ground.data }, { on := 9, ground := Ground.data }, { on := 9, ground := Ground.chain }], guard := none }
def fnCo11 : Oper := { dst := some 178, op := Op.unOp UnOp.not 4 (Operand.tmp 177), type := 4, pos := "apart.go:445", after := #[{ on := 10, ground := Ground.data }], guard := none }
def fnCo12 : Oper := { dst := some 179, op := Op.move (Operand.tmp 178), type := 4, pos := "apart.go:445", after := #[{ on := 11, ground := Ground.data }, { on := 10, ground := Ground.chain }], guard := none }
def fnCo13 : Oper := { dst := some 180, op := Op.move (Operand.tmp 5), type := 39, pos := "apart.go:445", after := #[{ on := 12, ground := Ground.guard }], guard := some (12, false) }
def fnCo14 : Oper := { dst := some 181, op := Op.move (Operand.tmp 14), type := 3, pos := "apart.go:445", after := #[{ on := 12, ground := Ground.guard }], guard := some (12, false) }
def fnCo15 : Oper := { dst := some 182, op := Op.indexAddr 39 (Operand.tmp 180) (Operand.tmp 181), type := 0, pos := "apart.go:445", after := #[{ on := 13, ground := Ground.data }, { on := 14, ground := Ground.data }, { on := 12, ground := Ground.guard }], guard := some (12, false) }
def fnCo16 : Oper := { dst := some 183, op := Op.load 38 (Operand.tmp 182), type := 38, pos := "apart.go:445", after := #[{ on := 15, ground := Ground.data }, { on := 12, ground := Ground.guard }], guard := some (12, false) }
def fnCo17 : Oper := { dst := some 184, op := Op.move (Operand.tmp 15), type := 3, pos := "apart.go:445", after := #[{ on := 12, ground := Ground.guard }], guard := some (12, false) }
def fnCo18 : Oper := { dst := some 185, op := Op.indexAddr 38 (Operand.tmp 183) (Operand.tmp 184), type := 0, pos := "apart.go:445", after := #[{ on := 16, ground := Ground.data }, { on := 17, ground := Ground.data }, { on := 12, ground := Ground.guard }], guard := some (12, false) }
def fnCo19 : Oper := { dst := some 186, op := Op.load 24 (Operand.tmp 185), type := 24, pos := "apart.go:445", after := #[{ on := 18, ground := Ground.data }, { on := 12, ground := Ground.guard }], guard := some (12, false) }
def fnCo20 : Oper := { dst := some 187, op := Op.move (Operand.tmp 14), type := 3, pos := "apart.go:445", after := #[{ on := 12, ground := Ground.guard }], guard := some (12, false) }
def fnCo21 : Oper := { dst := some 188, op := Op.move (Operand.tmp 15), type := 3, pos := "apart.go:445", after := #[{ on := 12, ground := Ground.guard }], guard := some (12, false) }
def fnCo22 : Oper := { dst := some 189, op := Op.call { callee := Callee.value (Operand.func 101), args := #[Operand.tmp 187, Operand.tmp 188], argTypes := #[3, 3] }, type := 24, pos := "apart.go:445", after := #[{ on := 20, ground := Ground.data }, { on := 21, ground := Ground.data }, { on := 12, ground := Ground.chain }, { on := 12, ground := Ground.guard }], guard := some (12, false) }
def fnCo23 : Oper := { dst := some 190, op := Op.call { callee := Callee.value (Operand.func 38), args := #[Operand.tmp 186, Operand.tmp 189], argTypes := #[24, 24] }, type := 4, pos := "apart.go:445", after := #[{ on := 19, ground := Ground.data }, { on := 22, ground := Ground.data }, { on := 22, ground := Ground.chain }, { on := 12, ground := Ground.guard }], guard := some (12, false) }
def fnCo24 : Oper := { dst := some 191, op := Op.unOp UnOp.not 4 (Operand.tmp 190), type := 4, pos := "apart.go:445", after := #[{ on := 23, ground := Ground.data }, { on := 12, ground := Ground.guard }], guard := some (12, false) }
def fnCo25 : Oper := { dst := some 192, op := Op.pick (Operand.tmp 179) (Operand.const (Value.bool true)) (Operand.tmp 191), type := 4, pos := "apart.go:445", after := #[{ on := 12, ground := Ground.data }, { on := 24, ground := Ground.data }], guard := none }
def fnCOps : Array Oper := #[fnCo0, fnCo1, fnCo2, fnCo3, fnCo4, fnCo5, fnCo6, fnCo7, fnCo8, fnCo9, fnCo10, fnCo11, fnCo12, fnCo13, fnCo14, fnCo15, fnCo16, fnCo17, fnCo18, fnCo19, fnCo20, fnCo21, fnCo22, fnCo23, fnCo24, fnCo25]
def fnCPre : Array Bool := #[true, true, true, true, true, true, true, true, true, true, true, true, true, true, true, true, true, true, true, true, true, true, true, true, true, true]
def fnCK (bG bq oq ml cq jx ix b1 b2 n c c2 gD gE : Nat) (tx : Int) : Nat → Kc
  | 0 => Kc.val (.slice (some ⟨bq, oq, none⟩) ml cq)
  | 1 => Kc.val (.int .i64 ((jx : Nat) : Int))
  | 2 => Kc.val (.pointer (some ⟨bq, oq + jx, none⟩))
  | 3 => Kc.val (.slice (some ⟨b1, 0, none⟩) n c)
  | 4 => Kc.val (.int .i64 ((ix : Nat) : Int))
  | 5 => Kc.val (.pointer (some ⟨b1, ix, none⟩))
  | 6 => Kc.val (.agg #[.slice (some ⟨gD, 0, none⟩) 1 1])
  | 7 => Kc.val (.int .i64 ((jx : Nat) : Int))
  | 8 => Kc.val (.int .i64 ((ix : Nat) : Int))
  | 9 => Kc.mark tx
  | 10 => Kc.val (.bool true)
  | 11 => Kc.val (.bool false)
  | 12 => Kc.val (.bool false)
  | 13 => Kc.val (.slice (some ⟨bG, 0, none⟩) ml ml)
  | 14 => Kc.val (.int .i64 ((jx : Nat) : Int))
  | 15 => Kc.val (.pointer (some ⟨bG, jx, none⟩))
  | 16 => Kc.val (.slice (some ⟨b2, 0, none⟩) (n + 64) c2)
  | 17 => Kc.val (.int .i64 ((ix : Nat) : Int))
  | 18 => Kc.val (.pointer (some ⟨b2, ix, none⟩))
  | 19 => Kc.val (.agg #[.slice (some ⟨gE, 0, none⟩) 1 1])
  | 20 => Kc.val (.int .i64 ((jx : Nat) : Int))
  | 21 => Kc.val (.int .i64 ((ix : Nat) : Int))
  | 22 => Kc.mark tx
  | 23 => Kc.val (.bool true)
  | 24 => Kc.val (.bool false)
  | 25 => Kc.val (.bool false)
  | _ => Kc.val undef
theorem fnC_slots (f : Nat → Value) : slotsOf fnCOps fnCPre f = [(167, f 0), (168, f 1), (169, f 2), (170, f 3), (171, f 4), (172, f 5), (173, f 6), (174, f 7), (175, f 8), (176, f 9), (177, f 10), (178, f 11), (179, f 12), (180, f 13), (181, f 14), (182, f 15), (183, f 16), (184, f 17), (185, f 18), (186, f 19), (187, f 20), (188, f 21), (189, f 22), (190, f 23), (191, f 24), (192, f 25)] := by kernel_rfl
set_option maxHeartbeats 6400000 in
set_option maxRecDepth 100000 in
theorem fnC_wp {Q : Exit → Act → World → Prop} {a0 : Act} {w : World} (bG bq oq ml cq jx ix b1 b2 n c c2 gD gE : Nat) (tx : Int) (hsize : a0.tmps.size = 193) (h0 : a0.tmps[0]? = some (.slice (some ⟨bq, oq, none⟩) ml cq)) (h5 : a0.tmps[5]? = some (.slice (some ⟨bG, 0, none⟩) ml ml)) (h14 : a0.tmps[14]? = some (.int .i64 ((jx : Nat) : Int))) (h15 : a0.tmps[15]? = some (.int .i64 ((ix : Nat) : Int)))
    (hj : jx < ml) (hcg : w.drew.cell? ⟨bG, jx, none⟩ = some (.slice (some ⟨b2, 0, none⟩) (n + 64) c2)) (hcq : w.drew.cell? ⟨bq, oq + jx, none⟩ = some (.slice (some ⟨b1, 0, none⟩) n c)) (hin : ix < n)
    (he0 : w.drew.cell? ⟨b2, ix, none⟩ = some (.slice (some ⟨gE, 0, none⟩) 1 1)) (heg : Bx w.drew gE 46 #[.int .u32 tx])
    (hd0 : w.drew.cell? ⟨b1, ix, none⟩ = some (.slice (some ⟨gD, 0, none⟩) 1 1)) (hdg : Bx w.drew gD 46 #[.int .u32 tx])
    (hmark : ∀ V : World, Calls Tryz.prog 101 #[.int .i64 ((jx : Nat) : Int), .int .i64 ((ix : Nat) : Int)] V fun e w' => ∃ g : Nat, e = .returned (.agg #[.slice (some ⟨g, 0, none⟩) 1 1]) ∧ Bx w' g 46 #[.int .u32 tx] ∧ Below V.heap.size V w')
    (hsame : ∀ (V : World) (g g' : Nat), Bx V g 46 #[.int .u32 tx] → Bx V g' 46 #[.int .u32 tx] → Calls Tryz.prog 38 #[.agg #[.slice (some ⟨g, 0, none⟩) 1 1], .agg #[.slice (some ⟨g', 0, none⟩) 1 1]] V fun e w' => e = .returned (.bool true) ∧ Below V.heap.size V w')
    (fin : ∀ (f : Nat → Value) (y : World), (∀ j, j < 26 → fnCPre.getD j false = true → (fnCK bG bq oq ml cq jx ix b1 b2 n c c2 gD gE tx j).P (f j) y) → Below w.drew.heap.size w.drew y → Q .normal (putL a0 [(167, f 0), (168, f 1), (169, f 2), (170, f 3), (171, f 4), (172, f 5), (173, f 6), (174, f 7), (175, f 8), (176, f 9), (177, f 10), (178, f 11), (179, f 12), (180, f 13), (181, f 14), (182, f 15), (183, f 16), (184, f 17), (185, f 18), (186, f 19), (187, f 20), (188, f 21), (189, f 22), (190, f 23), (191, f 24), (192, f 25)]) y) (id : Nat) :
    (Code.region id fnCOps true).wp Tryz.prog Q a0 w := by
  refine wp_region_inv fnCPre (fun j => (fnCK bG bq oq ml cq jx ix b1 b2 n c c2 gD gE tx j).P) (fun x y => Below x.heap.size x y) 26 0 (by kernel_rfl) (by kernel_rfl) (by rw [hsize]; kernel_rfl) (by kernel_rfl) (by kernel_rfl) (Below.refl _ _) (fun _ _ _ h1 h2 => bl_trans h1 h2) (fun j _ _ _ h1 h2 => (fnCK bG bq oq ml cq jx ix b1 b2 n c c2 gD gE tx j).keep h1 h2) ?_ (fun f y h1 h2 => by rw [fnC_slots]; exact any_end (by kernel_rfl) (fin f y h1 h2) 0)
  intro i o ho hp f a x hR hbase hdeps K hK
  have hi : i < 26 := by
    rcases Nat.lt_or_ge i 26 with h | h
    · exact h
    · have : fnCOps.size ≤ i := h
      rw [Array.getElem?_eq_none this] at ho; cases ho
  have dep : ∀ j, (o.after.any fun e => Region.binds .any e && e.on == j) = true → (∀ s, slotOf fnCOps j = some s → a.tmps[s]? = some (f j)) ∧ (fnCK bG bq oq ml cq jx ix b1 b2 n c c2 gD gE tx j).P (f j) x := by
    intro j h
    obtain ⟨e, he, h2⟩ := Array.any_eq_true'.1 h
    simp only [Bool.and_eq_true, beq_iff_eq] at h2
    obtain ⟨h3, rfl⟩ := h2
    exact hdeps e he h3
  have dv : ∀ (j s : Nat) {v : Value}, (o.after.any fun e => Region.binds .any e && e.on == j) = true → slotOf fnCOps j = some s → fnCK bG bq oq ml cq jx ix b1 b2 n c c2 gD gE tx j = Kc.val v → a.tmps[s]? = some v := fun j s v h1 h2 h3 => by
    obtain ⟨t, g⟩ := dep j h1
    rw [h3] at g
    have e : f j = v := g
    rw [← e]; exact t s h2
  have bv : ∀ {s : Nat} {v : Value}, a0.tmps[s]? = some v → ((List.range fnCOps.size).all fun j => slotOf fnCOps j != some s) = true → a.tmps[s]? = some v := by
    intro s v h0 h
    rw [hbase s fun j hj _ e => ?_]; exact h0
    have h2 := (List.all_eq_true.1 h) j (List.mem_range.2 hj)
    rw [e] at h2; simp at h2
  match i, hi with
  | 0, _ =>
    obtain rfl : fnCo0 = o := Option.some.inj (show fnCOps[0]? = some _ from ho)
    have eb0 := eval_at (bv h0 (by kernel_rfl))
    exact inv_stay hK rfl (by simp only [execOp, fnCo0, eb0]; go_simp) (wanted_none rfl)
  | 1, _ =>
    obtain rfl : fnCo1 = o := Option.some.inj (show fnCOps[1]? = some _ from ho)
    have eb14 := eval_at (bv h14 (by kernel_rfl))
    exact inv_stay hK rfl (by simp only [execOp, fnCo1, eb14]; go_simp) (wanted_none rfl)
  | 2, _ =>
    obtain rfl : fnCo2 = o := Option.some.inj (show fnCOps[2]? = some _ from ho)
    have e0 := eval_at (dv 0 167 (by kernel_rfl) rfl rfl)
    have e1 := eval_at (dv 1 168 (by kernel_rfl) rfl rfl)
    have hjI : ((jx : Nat) : Int) < ((ml : Nat) : Int) := by omega
    exact inv_stay hK rfl (by simp only [execOp, fnCo2, e0, e1]; go_simp) (wanted_none rfl)
  | 3, _ =>
    obtain rfl : fnCo3 = o := Option.some.inj (show fnCOps[3]? = some _ from ho)
    have e2 := eval_at (dv 2 169 (by kernel_rfl) rfl rfl)
    have kcq := keep_cellK hR hcq
    exact inv_stay hK rfl (by simp only [execOp, fnCo3, e2]; go_simp) (wanted_none rfl)
  | 4, _ =>
    obtain rfl : fnCo4 = o := Option.some.inj (show fnCOps[4]? = some _ from ho)
    have eb15 := eval_at (bv h15 (by kernel_rfl))
    exact inv_stay hK rfl (by simp only [execOp, fnCo4, eb15]; go_simp) (wanted_none rfl)
  | 5, _ =>
    obtain rfl : fnCo5 = o := Option.some.inj (show fnCOps[5]? = some _ from ho)
    have e3 := eval_at (dv 3 170 (by kernel_rfl) rfl rfl)
    have e4 := eval_at (dv 4 171 (by kernel_rfl) rfl rfl)
    have hiI : ((ix : Nat) : Int) < ((n : Nat) : Int) := by omega
    exact inv_stay hK rfl (by simp only [execOp, fnCo5, e3, e4]; go_simp) (wanted_none rfl)
  | 6, _ =>
    obtain rfl : fnCo6 = o := Option.some.inj (show fnCOps[6]? = some _ from ho)
    have e5 := eval_at (dv 5 172 (by kernel_rfl) rfl rfl)
    have khd0 := keep_cellK hR hd0
    exact inv_stay hK rfl (by simp only [execOp, fnCo6, e5]; go_simp) (wanted_none rfl)
  | 7, _ =>
    obtain rfl : fnCo7 = o := Option.some.inj (show fnCOps[7]? = some _ from ho)
    have eb14 := eval_at (bv h14 (by kernel_rfl))
    exact inv_stay hK rfl (by simp only [execOp, fnCo7, eb14]; go_simp) (wanted_none rfl)
  | 8, _ =>
    obtain rfl : fnCo8 = o := Option.some.inj (show fnCOps[8]? = some _ from ho)
    have eb15 := eval_at (bv h15 (by kernel_rfl))
    exact inv_stay hK rfl (by simp only [execOp, fnCo8, eb15]; go_simp) (wanted_none rfl)
  | 9, _ =>
    obtain rfl : fnCo9 = o := Option.some.inj (show fnCOps[9]? = some _ from ho)
    have q7 := dv 7 174 (by kernel_rfl) rfl rfl
    have q8 := dv 8 175 (by kernel_rfl) rfl rfl
    refine inv_enter 101 #[.int .i64 ((jx : Nat) : Int), .int .i64 ((ix : Nat) : Int)] hK (by simp [go_sem, fnCo9, q7, q8]) (wanted_none rfl) ?_
    refine (hmark x).mono ?_
    rintro e y ⟨g, rfl, h1, h2⟩
    exact ⟨_, rfl, ⟨g, rfl, h1⟩, h2⟩
  | 10, _ =>
    obtain rfl : fnCo10 = o := Option.some.inj (show fnCOps[10]? = some _ from ho)
    have q6 := dv 6 173 (by kernel_rfl) rfl rfl
    obtain ⟨t9, g9⟩ := dep 9 (by kernel_rfl)
    have q9 := t9 176 (by rfl)
    have e9 := eval_at q9
    obtain ⟨gm, hm1, hm2⟩ : ∃ g : Nat, f 9 = .agg #[.slice (some ⟨g, 0, none⟩) 1 1] ∧ Bx x g 46 #[.int .u32 tx] := g9
    rw [hm1] at q9
    refine inv_enter 38 #[.agg #[.slice (some ⟨gD, 0, none⟩) 1 1], .agg #[.slice (some ⟨gm, 0, none⟩) 1 1]] hK (by simp [go_sem, fnCo10, q6, q9]) (wanted_none rfl) ?_
    refine (hsame x _ _ (hdg.below hR) hm2).mono ?_
    rintro e y ⟨rfl, h⟩
    exact ⟨_, rfl, rfl, h⟩
  | 11, _ =>
    obtain rfl : fnCo11 = o := Option.some.inj (show fnCOps[11]? = some _ from ho)
    have e10 := eval_at (dv 10 177 (by kernel_rfl) rfl rfl)
    exact inv_stay hK rfl (by simp only [execOp, fnCo11, e10]; go_simp) (wanted_none rfl)
  | 12, _ =>
    obtain rfl : fnCo12 = o := Option.some.inj (show fnCOps[12]? = some _ from ho)
    have e11 := eval_at (dv 11 178 (by kernel_rfl) rfl rfl)
    exact inv_stay hK rfl (by simp only [execOp, fnCo12, e11]; go_simp) (wanted_none rfl)
  | 13, _ =>
    obtain rfl : fnCo13 = o := Option.some.inj (show fnCOps[13]? = some _ from ho)
    have q12 := dv 12 179 (by kernel_rfl) rfl rfl
    have eb5 := eval_at (bv h5 (by kernel_rfl))
    exact inv_stay hK rfl (by simp only [execOp, fnCo13, eb5]; go_simp) (wanted_t q12 rfl rfl)
  | 14, _ =>
    obtain rfl : fnCo14 = o := Option.some.inj (show fnCOps[14]? = some _ from ho)
    have q12 := dv 12 179 (by kernel_rfl) rfl rfl
    have eb14 := eval_at (bv h14 (by kernel_rfl))
    exact inv_stay hK rfl (by simp only [execOp, fnCo14, eb14]; go_simp) (wanted_t q12 rfl rfl)
  | 15, _ =>
    obtain rfl : fnCo15 = o := Option.some.inj (show fnCOps[15]? = some _ from ho)
    have q12 := dv 12 179 (by kernel_rfl) rfl rfl
    have e13 := eval_at (dv 13 180 (by kernel_rfl) rfl rfl)
    have e14 := eval_at (dv 14 181 (by kernel_rfl) rfl rfl)
    have hjI : ((jx : Nat) : Int) < ((ml : Nat) : Int) := by omega
    exact inv_stay hK rfl (by simp only [execOp, fnCo15, e13, e14]; go_simp) (wanted_t q12 rfl rfl)
  | 16, _ =>
    obtain rfl : fnCo16 = o := Option.some.inj (show fnCOps[16]? = some _ from ho)
    have q12 := dv 12 179 (by kernel_rfl) rfl rfl
    have e15 := eval_at (dv 15 182 (by kernel_rfl) rfl rfl)
    have kcg := keep_cellK hR hcg
    exact inv_stay hK rfl (by simp only [execOp, fnCo16, e15]; go_simp) (wanted_t q12 rfl rfl)
  | 17, _ =>
    obtain rfl : fnCo17 = o := Option.some.inj (show fnCOps[17]? = some _ from ho)
    have q12 := dv 12 179 (by kernel_rfl) rfl rfl
    have eb15 := eval_at (bv h15 (by kernel_rfl))
    exact inv_stay hK rfl (by simp only [execOp, fnCo17, eb15]; go_simp) (wanted_t q12 rfl rfl)
  | 18, _ =>
    obtain rfl : fnCo18 = o := Option.some.inj (show fnCOps[18]? = some _ from ho)
    have q12 := dv 12 179 (by kernel_rfl) rfl rfl
    have e16 := eval_at (dv 16 183 (by kernel_rfl) rfl rfl)
    have e17 := eval_at (dv 17 184 (by kernel_rfl) rfl rfl)
    have hiI : ((ix : Nat) : Int) < ((n : Nat) : Int) + 64 := by omega
    exact inv_stay hK rfl (by simp only [execOp, fnCo18, e16, e17]; go_simp) (wanted_t q12 rfl rfl)
  | 19, _ =>
    obtain rfl : fnCo19 = o := Option.some.inj (show fnCOps[19]? = some _ from ho)
    have q12 := dv 12 179 (by kernel_rfl) rfl rfl
    have e18 := eval_at (dv 18 185 (by kernel_rfl) rfl rfl)
    have khe0 := keep_cellK hR he0
    exact inv_stay hK rfl (by simp only [execOp, fnCo19, e18]; go_simp) (wanted_t q12 rfl rfl)
  | 20, _ =>
    obtain rfl : fnCo20 = o := Option.some.inj (show fnCOps[20]? = some _ from ho)
    have q12 := dv 12 179 (by kernel_rfl) rfl rfl
    have eb14 := eval_at (bv h14 (by kernel_rfl))
    exact inv_stay hK rfl (by simp only [execOp, fnCo20, eb14]; go_simp) (wanted_t q12 rfl rfl)
  | 21, _ =>
    obtain rfl : fnCo21 = o := Option.some.inj (show fnCOps[21]? = some _ from ho)
    have q12 := dv 12 179 (by kernel_rfl) rfl rfl
    have eb15 := eval_at (bv h15 (by kernel_rfl))
    exact inv_stay hK rfl (by simp only [execOp, fnCo21, eb15]; go_simp) (wanted_t q12 rfl rfl)
  | 22, _ =>
    obtain rfl : fnCo22 = o := Option.some.inj (show fnCOps[22]? = some _ from ho)
    have q12 := dv 12 179 (by kernel_rfl) rfl rfl
    have q20 := dv 20 187 (by kernel_rfl) rfl rfl
    have q21 := dv 21 188 (by kernel_rfl) rfl rfl
    refine inv_enter 101 #[.int .i64 ((jx : Nat) : Int), .int .i64 ((ix : Nat) : Int)] hK (by simp [go_sem, fnCo22, q20, q21]) (wanted_t q12 rfl rfl) ?_
    refine (hmark x).mono ?_
    rintro e y ⟨g, rfl, h1, h2⟩
    exact ⟨_, rfl, ⟨g, rfl, h1⟩, h2⟩
  | 23, _ =>
    obtain rfl : fnCo23 = o := Option.some.inj (show fnCOps[23]? = some _ from ho)
    have q12 := dv 12 179 (by kernel_rfl) rfl rfl
    have q19 := dv 19 186 (by kernel_rfl) rfl rfl
    obtain ⟨t22, g22⟩ := dep 22 (by kernel_rfl)
    have q22 := t22 189 (by rfl)
    have e22 := eval_at q22
    obtain ⟨gm, hm1, hm2⟩ : ∃ g : Nat, f 22 = .agg #[.slice (some ⟨g, 0, none⟩) 1 1] ∧ Bx x g 46 #[.int .u32 tx] := g22
    rw [hm1] at q22
    refine inv_enter 38 #[.agg #[.slice (some ⟨gE, 0, none⟩) 1 1], .agg #[.slice (some ⟨gm, 0, none⟩) 1 1]] hK (by simp [go_sem, fnCo23, q19, q22]) (wanted_t q12 rfl rfl) ?_
    refine (hsame x _ _ (heg.below hR) hm2).mono ?_
    rintro e y ⟨rfl, h⟩
    exact ⟨_, rfl, rfl, h⟩
  | 24, _ =>
    obtain rfl : fnCo24 = o := Option.some.inj (show fnCOps[24]? = some _ from ho)
    have q12 := dv 12 179 (by kernel_rfl) rfl rfl
    have e23 := eval_at (dv 23 190 (by kernel_rfl) rfl rfl)
    exact inv_stay hK rfl (by simp only [execOp, fnCo24, e23]; go_simp) (wanted_t q12 rfl rfl)
  | 25, _ =>
    obtain rfl : fnCo25 = o := Option.some.inj (show fnCOps[25]? = some _ from ho)
    have e12 := eval_at (dv 12 179 (by kernel_rfl) rfl rfl)
    have e24 := eval_at (dv 24 191 (by kernel_rfl) rfl rfl)
    exact inv_stay hK rfl (by simp only [execOp, fnCo25, e12, e24]; go_simp) (wanted_none rfl)
end Go.Proofs.YtcahnkocfbcchaaGreatDoor
