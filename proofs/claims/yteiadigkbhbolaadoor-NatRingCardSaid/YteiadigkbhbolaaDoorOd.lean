/- NatRing: its last region, in whatever order its operations come up. -/
import Derived.Test.YteiadigkbhbolaaDoorOa
namespace Go.Proofs.YteiadigkbhbolaaDoor
open Go.RowKit Tnd

def ring17lOps : Array Oper := #[{ dst := some 137, op := Op.move (Operand.tmp 14), type := 4, pos := "outright.go:31", after := #[], guard := none },
  { dst := some 138, op := Op.move (Operand.tmp 137), type := 4, pos := "outright.go:31", after := #[{ on := 0, ground := Ground.data }], guard := none },
  { dst := some 139, op := Op.load 25 (Operand.tmp 13), type := 25, pos := "outright.go:31", after := #[{ on := 1, ground := Ground.guard }], guard := some (1, true) },
  { dst := some 140, op := Op.load 25 (Operand.tmp 3), type := 25, pos := "outright.go:31", after := #[{ on := 1, ground := Ground.guard }], guard := some (1, true) },
  { dst := some 141, op := Op.buildSlice 32 1 #[(0, Operand.tmp 140)], type := 32, pos := "outright.go:31", after := #[{ on := 3, ground := Ground.data }, { on := 1, ground := Ground.guard }], guard := some (1, true) },
  { dst := some 142, op := Op.call { callee := Callee.value (Operand.func 11), args := #[Operand.tmp 141], argTypes := #[32] }, type := 25, pos := "outright.go:31", after := #[{ on := 4, ground := Ground.data }, { on := 1, ground := Ground.chain }, { on := 1, ground := Ground.guard }], guard := some (1, true) },
  { dst := some 143, op := Op.call { callee := Callee.value (Operand.func 9), args := #[Operand.tmp 139, Operand.tmp 142], argTypes := #[25, 25] }, type := 4, pos := "outright.go:31", after := #[{ on := 2, ground := Ground.data }, { on := 5, ground := Ground.data }, { on := 5, ground := Ground.chain }, { on := 1, ground := Ground.guard }], guard := some (1, true) },
  { dst := some 144, op := Op.pick (Operand.tmp 138) (Operand.tmp 143) (Operand.const (Value.bool false)), type := 4, pos := "outright.go:31", after := #[{ on := 1, ground := Ground.data }, { on := 6, ground := Ground.data }], guard := none },
  { dst := some 145, op := Op.move (Operand.tmp 144), type := 4, pos := "outright.go:31", after := #[{ on := 7, ground := Ground.data }, { on := 6, ground := Ground.chain }], guard := none },
  { dst := some 146, op := Op.move (Operand.tmp 16), type := 4, pos := "outright.go:31", after := #[{ on := 8, ground := Ground.guard }], guard := some (8, true) },
  { dst := some 147, op := Op.load 25 (Operand.tmp 3), type := 25, pos := "outright.go:31", after := #[{ on := 8, ground := Ground.guard }], guard := some (8, true) },
  { dst := some 148, op := Op.load 25 (Operand.tmp 4), type := 25, pos := "outright.go:31", after := #[{ on := 8, ground := Ground.guard }], guard := some (8, true) },
  { dst := some 149, op := Op.call { callee := Callee.value (Operand.func 16), args := #[Operand.tmp 147, Operand.tmp 148], argTypes := #[25, 25] }, type := 3, pos := "outright.go:31", after := #[{ on := 10, ground := Ground.data }, { on := 11, ground := Ground.data }, { on := 8, ground := Ground.chain }, { on := 8, ground := Ground.guard }], guard := some (8, true) },
  { dst := some 150, op := Op.binOp BinOp.geq 3 (Operand.tmp 149) (Operand.const (Value.int IntKind.i64 0)) 3, type := 4, pos := "outright.go:31", after := #[{ on := 12, ground := Ground.data }, { on := 8, ground := Ground.guard }], guard := some (8, true) },
  { dst := some 151, op := Op.binOp BinOp.eql 4 (Operand.tmp 146) (Operand.tmp 150) 4, type := 4, pos := "outright.go:31", after := #[{ on := 9, ground := Ground.data }, { on := 13, ground := Ground.data }, { on := 8, ground := Ground.guard }], guard := some (8, true) },
  { dst := some 152, op := Op.pick (Operand.tmp 145) (Operand.tmp 151) (Operand.const (Value.bool false)), type := 4, pos := "outright.go:31", after := #[{ on := 8, ground := Ground.data }, { on := 14, ground := Ground.data }], guard := none },
  { dst := some 153, op := Op.move (Operand.tmp 152), type := 4, pos := "outright.go:31", after := #[{ on := 15, ground := Ground.data }, { on := 12, ground := Ground.chain }], guard := none },
  { dst := some 154, op := Op.load 25 (Operand.tmp 3), type := 25, pos := "outright.go:31", after := #[{ on := 16, ground := Ground.guard }], guard := some (16, true) },
  { dst := some 155, op := Op.load 25 (Operand.tmp 4), type := 25, pos := "outright.go:31", after := #[{ on := 16, ground := Ground.guard }], guard := some (16, true) },
  { dst := some 156, op := Op.call { callee := Callee.value (Operand.func 16), args := #[Operand.tmp 154, Operand.tmp 155], argTypes := #[25, 25] }, type := 3, pos := "outright.go:31", after := #[{ on := 17, ground := Ground.data }, { on := 18, ground := Ground.data }, { on := 16, ground := Ground.chain }, { on := 16, ground := Ground.guard }], guard := some (16, true) },
  { dst := some 157, op := Op.load 25 (Operand.tmp 3), type := 25, pos := "outright.go:31", after := #[{ on := 16, ground := Ground.guard }], guard := some (16, true) },
  { dst := some 158, op := Op.load 25 (Operand.tmp 5), type := 25, pos := "outright.go:31", after := #[{ on := 16, ground := Ground.guard }], guard := some (16, true) },
  { dst := some 159, op := Op.buildSlice 32 2 #[(0, Operand.tmp 157), (1, Operand.tmp 158)], type := 32, pos := "outright.go:31", after := #[{ on := 20, ground := Ground.data }, { on := 21, ground := Ground.data }, { on := 16, ground := Ground.guard }], guard := some (16, true) },
  { dst := some 160, op := Op.call { callee := Callee.value (Operand.func 11), args := #[Operand.tmp 159], argTypes := #[32] }, type := 25, pos := "outright.go:31", after := #[{ on := 22, ground := Ground.data }, { on := 19, ground := Ground.chain }, { on := 16, ground := Ground.guard }], guard := some (16, true) },
  { dst := some 161, op := Op.load 25 (Operand.tmp 4), type := 25, pos := "outright.go:31", after := #[{ on := 16, ground := Ground.guard }], guard := some (16, true) },
  { dst := some 162, op := Op.load 25 (Operand.tmp 5), type := 25, pos := "outright.go:31", after := #[{ on := 16, ground := Ground.guard }], guard := some (16, true) },
  { dst := some 163, op := Op.buildSlice 32 2 #[(0, Operand.tmp 161), (1, Operand.tmp 162)], type := 32, pos := "outright.go:31", after := #[{ on := 24, ground := Ground.data }, { on := 25, ground := Ground.data }, { on := 16, ground := Ground.guard }], guard := some (16, true) },
  { dst := some 164, op := Op.call { callee := Callee.value (Operand.func 11), args := #[Operand.tmp 163], argTypes := #[32] }, type := 25, pos := "outright.go:31", after := #[{ on := 26, ground := Ground.data }, { on := 23, ground := Ground.chain }, { on := 16, ground := Ground.guard }], guard := some (16, true) },
  { dst := some 165, op := Op.call { callee := Callee.value (Operand.func 16), args := #[Operand.tmp 160, Operand.tmp 164], argTypes := #[25, 25] }, type := 3, pos := "outright.go:31", after := #[{ on := 23, ground := Ground.data }, { on := 27, ground := Ground.data }, { on := 27, ground := Ground.chain }, { on := 16, ground := Ground.guard }], guard := some (16, true) },
  { dst := some 166, op := Op.binOp BinOp.eql 3 (Operand.tmp 156) (Operand.tmp 165) 3, type := 4, pos := "outright.go:31", after := #[{ on := 19, ground := Ground.data }, { on := 28, ground := Ground.data }, { on := 16, ground := Ground.guard }], guard := some (16, true) },
  { dst := some 167, op := Op.pick (Operand.tmp 153) (Operand.tmp 166) (Operand.const (Value.bool false)), type := 4, pos := "outright.go:31", after := #[{ on := 16, ground := Ground.data }, { on := 29, ground := Ground.data }], guard := none },
  { dst := some 168, op := Op.move (Operand.tmp 167), type := 4, pos := "outright.go:31", after := #[{ on := 30, ground := Ground.data }, { on := 28, ground := Ground.chain }], guard := none },
  { dst := some 169, op := Op.load 25 (Operand.tmp 3), type := 25, pos := "outright.go:31", after := #[{ on := 31, ground := Ground.guard }], guard := some (31, true) },
  { dst := some 170, op := Op.load 25 (Operand.tmp 4), type := 25, pos := "outright.go:31", after := #[{ on := 31, ground := Ground.guard }], guard := some (31, true) },
  { dst := some 171, op := Op.call { callee := Callee.value (Operand.func 16), args := #[Operand.tmp 169, Operand.tmp 170], argTypes := #[25, 25] }, type := 3, pos := "outright.go:31", after := #[{ on := 32, ground := Ground.data }, { on := 33, ground := Ground.data }, { on := 31, ground := Ground.chain }, { on := 31, ground := Ground.guard }], guard := some (31, true) },
  { dst := some 172, op := Op.load 25 (Operand.tmp 4), type := 25, pos := "outright.go:31", after := #[{ on := 31, ground := Ground.guard }], guard := some (31, true) },
  { dst := some 173, op := Op.load 25 (Operand.tmp 3), type := 25, pos := "outright.go:31", after := #[{ on := 31, ground := Ground.guard }], guard := some (31, true) },
  { dst := some 174, op := Op.call { callee := Callee.value (Operand.func 16), args := #[Operand.tmp 172, Operand.tmp 173], argTypes := #[25, 25] }, type := 3, pos := "outright.go:31", after := #[{ on := 35, ground := Ground.data }, { on := 36, ground := Ground.data }, { on := 34, ground := Ground.chain }, { on := 31, ground := Ground.guard }], guard := some (31, true) },
  { dst := some 175, op := Op.unOp UnOp.neg 3 (Operand.tmp 174), type := 3, pos := "outright.go:31", after := #[{ on := 37, ground := Ground.data }, { on := 31, ground := Ground.guard }], guard := some (31, true) },
  { dst := some 176, op := Op.binOp BinOp.eql 3 (Operand.tmp 171) (Operand.tmp 175) 3, type := 4, pos := "outright.go:31", after := #[{ on := 34, ground := Ground.data }, { on := 38, ground := Ground.data }, { on := 31, ground := Ground.guard }], guard := some (31, true) },
  { dst := some 177, op := Op.pick (Operand.tmp 168) (Operand.tmp 176) (Operand.const (Value.bool false)), type := 4, pos := "outright.go:31", after := #[{ on := 31, ground := Ground.data }, { on := 39, ground := Ground.data }], guard := none },
  { dst := some 178, op := Op.move (Operand.tmp 177), type := 4, pos := "outright.go:31", after := #[{ on := 40, ground := Ground.data }, { on := 37, ground := Ground.chain }], guard := none },
  { dst := some 179, op := Op.load 25 (Operand.tmp 3), type := 25, pos := "outright.go:31", after := #[{ on := 41, ground := Ground.guard }], guard := some (41, true) },
  { dst := some 180, op := Op.load 25 (Operand.tmp 4), type := 25, pos := "outright.go:31", after := #[{ on := 41, ground := Ground.guard }], guard := some (41, true) },
  { dst := some 181, op := Op.call { callee := Callee.value (Operand.func 16), args := #[Operand.tmp 179, Operand.tmp 180], argTypes := #[25, 25] }, type := 3, pos := "outright.go:31", after := #[{ on := 42, ground := Ground.data }, { on := 43, ground := Ground.data }, { on := 41, ground := Ground.chain }, { on := 41, ground := Ground.guard }], guard := some (41, true) },
  { dst := some 182, op := Op.binOp BinOp.neq 3 (Operand.tmp 181) (Operand.const (Value.int IntKind.i64 0)) 3, type := 4, pos := "outright.go:31", after := #[{ on := 44, ground := Ground.data }, { on := 41, ground := Ground.guard }], guard := some (41, true) },
  { dst := some 183, op := Op.move (Operand.tmp 182), type := 4, pos := "outright.go:31", after := #[{ on := 45, ground := Ground.data }, { on := 44, ground := Ground.chain }, { on := 41, ground := Ground.guard }], guard := some (41, true) },
  { dst := some 184, op := Op.load 25 (Operand.tmp 3), type := 25, pos := "outright.go:31", after := #[{ on := 46, ground := Ground.guard }], guard := some (46, false) },
  { dst := some 185, op := Op.call { callee := Callee.value (Operand.func 13), args := #[Operand.tmp 184], argTypes := #[25] }, type := 9, pos := "outright.go:31", after := #[{ on := 47, ground := Ground.data }, { on := 46, ground := Ground.chain }, { on := 46, ground := Ground.guard }], guard := some (46, false) },
  { dst := some 186, op := Op.load 25 (Operand.tmp 4), type := 25, pos := "outright.go:31", after := #[{ on := 46, ground := Ground.guard }], guard := some (46, false) },
  { dst := some 187, op := Op.call { callee := Callee.value (Operand.func 13), args := #[Operand.tmp 186], argTypes := #[25] }, type := 9, pos := "outright.go:31", after := #[{ on := 49, ground := Ground.data }, { on := 48, ground := Ground.chain }, { on := 46, ground := Ground.guard }], guard := some (46, false) },
  { dst := some 188, op := Op.binOp BinOp.eql 9 (Operand.tmp 185) (Operand.tmp 187) 9, type := 4, pos := "outright.go:31", after := #[{ on := 48, ground := Ground.data }, { on := 50, ground := Ground.data }, { on := 46, ground := Ground.guard }], guard := some (46, false) },
  { dst := some 189, op := Op.pick (Operand.tmp 183) (Operand.const (Value.bool true)) (Operand.tmp 188), type := 4, pos := "outright.go:31", after := #[{ on := 46, ground := Ground.data }, { on := 51, ground := Ground.data }, { on := 41, ground := Ground.guard }], guard := some (41, true) },
  { dst := some 190, op := Op.pick (Operand.tmp 178) (Operand.tmp 189) (Operand.const (Value.bool false)), type := 4, pos := "outright.go:31", after := #[{ on := 41, ground := Ground.data }, { on := 52, ground := Ground.data }], guard := none },
  { dst := some 6, op := Op.assign (Operand.tmp 190), type := 4, pos := "outright.go:31", after := #[{ on := 53, ground := Ground.data }, { on := 50, ground := Ground.chain }, { on := 0, ground := Ground.phase }, { on := 1, ground := Ground.phase }, { on := 2, ground := Ground.phase }, { on := 3, ground := Ground.phase }, { on := 4, ground := Ground.phase }, { on := 5, ground := Ground.phase }, { on := 6, ground := Ground.phase }, { on := 7, ground := Ground.phase }, { on := 8, ground := Ground.phase }, { on := 9, ground := Ground.phase }, { on := 10, ground := Ground.phase }, { on := 11, ground := Ground.phase }, { on := 12, ground := Ground.phase }, { on := 13, ground := Ground.phase }, { on := 14, ground := Ground.phase }, { on := 15, ground := Ground.phase }, { on := 16, ground := Ground.phase }, { on := 17, ground := Ground.phase }, { on := 18, ground := Ground.phase }, { on := 19, ground := Ground.phase }, { on := 20, ground := Ground.phase }, { on := 21, ground := Ground.phase }, { on := 22, ground := Ground.phase }, { on := 23, ground := Ground.phase }, { on := 24, ground := Ground.phase }, { on := 25, ground := Ground.phase }, { on := 26, ground := Ground.phase }, { on := 27, ground := Ground.phase }, { on := 28, ground := Ground.phase }, { on := 29, ground := Ground.phase }, { on := 30, ground := Ground.phase }, { on := 31, ground := Ground.phase }, { on := 32, ground := Ground.phase }, { on := 33, ground := Ground.phase }, { on := 34, ground := Ground.phase }, { on := 35, ground := Ground.phase }, { on := 36, ground := Ground.phase }, { on := 37, ground := Ground.phase }, { on := 38, ground := Ground.phase }, { on := 39, ground := Ground.phase }, { on := 40, ground := Ground.phase }, { on := 41, ground := Ground.phase }, { on := 42, ground := Ground.phase }, { on := 43, ground := Ground.phase }, { on := 44, ground := Ground.phase }, { on := 45, ground := Ground.phase }, { on := 46, ground := Ground.phase }, { on := 47, ground := Ground.phase }, { on := 48, ground := Ground.phase }, { on := 49, ground := Ground.phase }, { on := 50, ground := Ground.phase }, { on := 51, ground := Ground.phase }, { on := 52, ground := Ground.phase }, { on := 53, ground := Ground.phase }], guard := none }]
def ring17lPre : Array Bool := #[true, true, true, true, true, true, true, true, true, true, true, true, true, true, true, true, true, true, true, true, true, true, true, true, true, true, true, true, true, true, true, true, true, true, true, true, true, true, true, true, true, true, true, true, true, true, true, true, true, true, true, true, true, true, true]
def ring17lK (A B C : Nat) : Nat → Kd
  | 0 => .val (.bool true)
  | 1 => .val (.bool true)
  | 2 => .fre A
  | 3 => .num A
  | 4 => .row [A]
  | 5 => .fre A
  | 6 => .val (.bool true)
  | 7 => .val (.bool true)
  | 8 => .val (.bool true)
  | 9 => .val (.bool false)
  | 10 => .num A
  | 11 => .num B
  | 12 => .val (.int .i64 (-1))
  | 13 => .val (.bool false)
  | 14 => .val (.bool true)
  | 15 => .val (.bool true)
  | 16 => .val (.bool true)
  | 17 => .num A
  | 18 => .num B
  | 19 => .val (.int .i64 (-1))
  | 20 => .num A
  | 21 => .num C
  | 22 => .row [A, C]
  | 23 => .fre (sumn [A, C])
  | 24 => .num B
  | 25 => .num C
  | 26 => .row [B, C]
  | 27 => .fre (sumn [B, C])
  | 28 => .val (.int .i64 (-1))
  | 29 => .val (.bool true)
  | 30 => .val (.bool true)
  | 31 => .val (.bool true)
  | 32 => .num A
  | 33 => .num B
  | 34 => .val (.int .i64 (-1))
  | 35 => .num B
  | 36 => .num A
  | 37 => .val (.int .i64 (1))
  | 38 => .val (.int .i64 (-1))
  | 39 => .val (.bool true)
  | 40 => .val (.bool true)
  | 41 => .val (.bool true)
  | 42 => .num A
  | 43 => .num B
  | 44 => .val (.int .i64 (-1))
  | 45 => .val (.bool true)
  | 46 => .val (.bool true)
  | 47 => .val undef
  | 48 => .val undef
  | 49 => .val undef
  | 50 => .val undef
  | 51 => .val undef
  | 52 => .val (.bool true)
  | 53 => .val (.bool true)
  | 54 => .val (.bool true)
  | _ => .val undef
theorem ring17l_slots (f : Nat → Value) : slotsOf ring17lOps ring17lPre f = [(137, f 0), (138, f 1), (139, f 2), (140, f 3), (141, f 4), (142, f 5), (143, f 6), (144, f 7), (145, f 8), (146, f 9), (147, f 10), (148, f 11), (149, f 12), (150, f 13), (151, f 14), (152, f 15), (153, f 16), (154, f 17), (155, f 18), (156, f 19), (157, f 20), (158, f 21), (159, f 22), (160, f 23), (161, f 24), (162, f 25), (163, f 26), (164, f 27), (165, f 28), (166, f 29), (167, f 30), (168, f 31), (169, f 32), (170, f 33), (171, f 34), (172, f 35), (173, f 36), (174, f 37), (175, f 38), (176, f 39), (177, f 40), (178, f 41), (179, f 42), (180, f 43), (181, f 44), (182, f 45), (183, f 46), (184, f 47), (185, f 48), (186, f 49), (187, f 50), (188, f 51), (189, f 52), (190, f 53), (6, f 54)] := by kernel_rfl
set_option maxHeartbeats 6400000 in
set_option maxRecDepth 100000 in
theorem ring17l_wp {Q : Exit → Act → World → Prop} {a0 : Act} {w : World} {z : Nat} (A B C : Nat) (hz : z ≤ w.drew.heap.size) (hsize : a0.tmps.size = 191) (b3 b4 b5 : Nat) (h3 : a0.tmps[3]? = some (.pointer (some ⟨b3, 0, none⟩))) (h4 : a0.tmps[4]? = some (.pointer (some ⟨b4, 0, none⟩))) (h5 : a0.tmps[5]? = some (.pointer (some ⟨b5, 0, none⟩))) (C3 : Held z w.drew b3 (.num A)) (C4 : Held z w.drew b4 (.num B)) (C5 : Held z w.drew b5 (.num C)) (ka : Nat) (hka : ka ≤ 100000) (b13 : Nat) (h13 : a0.tmps[13]? = some (.pointer (some ⟨b13, 0, none⟩))) (C13 : Held z w.drew b13 (.fre A)) (h14 : a0.tmps[14]? = some (.bool true)) (h16 : a0.tmps[16]? = some (.bool false)) (N0 : sumn [A] < 2 ^ ka) (E0 : sumn [A] = A) (N1 : sumn [A, C] < 2 ^ ka) (N2 : sumn [B, C] < 2 ^ ka) (O1 : ord A B = -1) (O2 : ord (sumn [A, C]) (sumn [B, C]) = -1) (O3 : ord B A = 1)
    (fin : ∀ (f : Nat → Value) (y : World), (∀ j, j < 55 → ring17lPre.getD j false = true → Kd.ok z (ring17lK A B C j) (f j) y) → Below w.drew.heap.size w.drew y → Q .normal (putL a0 [(137, f 0), (138, f 1), (139, f 2), (140, f 3), (141, f 4), (142, f 5), (143, f 6), (144, f 7), (145, f 8), (146, f 9), (147, f 10), (148, f 11), (149, f 12), (150, f 13), (151, f 14), (152, f 15), (153, f 16), (154, f 17), (155, f 18), (156, f 19), (157, f 20), (158, f 21), (159, f 22), (160, f 23), (161, f 24), (162, f 25), (163, f 26), (164, f 27), (165, f 28), (166, f 29), (167, f 30), (168, f 31), (169, f 32), (170, f 33), (171, f 34), (172, f 35), (173, f 36), (174, f 37), (175, f 38), (176, f 39), (177, f 40), (178, f 41), (179, f 42), (180, f 43), (181, f 44), (182, f 45), (183, f 46), (184, f 47), (185, f 48), (186, f 49), (187, f 50), (188, f 51), (189, f 52), (190, f 53), (6, f 54)]) y) (id : Nat) :
    (Code.region id ring17lOps true).wp Tryd.prog Q a0 w := by
  refine wp_region_inv ring17lPre (fun j => Kd.ok z (ring17lK A B C j)) (fun x y => Below x.heap.size x y) 55 0 (by kernel_rfl) (by kernel_rfl) (by rw [hsize]; kernel_rfl) (by kernel_rfl) (by kernel_rfl) (Below.refl _ _) (fun _ _ _ h1 h2 => bl_trans h1 h2) (fun _ _ _ _ h1 h2 => Kd.below h1 h2) ?_ (fun f y h1 h2 => by rw [ring17l_slots]; exact any_end (by kernel_rfl) (fin f y h1 h2) 0)
  intro i o ho hp f a x hR hbase hdeps K hK
  have hi : i < 55 := by
    rcases Nat.lt_or_ge i 55 with h | h
    · exact h
    · have : ring17lOps.size ≤ i := h
      rw [Array.getElem?_eq_none this] at ho; cases ho
  have hzx : z ≤ x.heap.size := Nat.le_trans hz hR.size
  have dep : ∀ j, (o.after.any fun e => Region.binds .any e && e.on == j) = true → (∀ s, slotOf ring17lOps j = some s → a.tmps[s]? = some (f j)) ∧ Kd.ok z (ring17lK A B C j) (f j) x := by
    intro j h
    obtain ⟨e, he, h2⟩ := Array.any_eq_true'.1 h
    simp only [Bool.and_eq_true, beq_iff_eq] at h2
    obtain ⟨h3, rfl⟩ := h2
    exact hdeps e he h3
  have bas : ∀ s, ((List.range ring17lOps.size).all fun j => slotOf ring17lOps j != some s) = true → a.tmps[s]? = a0.tmps[s]? := by
    intro s h
    refine hbase s fun j hj _ e => ?_
    have h2 := (List.all_eq_true.1 h) j (List.mem_range.2 hj)
    rw [e] at h2; simp at h2
  match i, hi with
  | 0, _ =>
    obtain rfl : { dst := some 137, op := Op.move (Operand.tmp 14), type := 4, pos := "outright.go:31", after := #[], guard := none } = o := Option.some.inj (show ring17lOps[0]? = some _ from ho)
    have qb14 := (bas 14 (by kernel_rfl)).trans h14
    have eb14 := eval_at qb14
    refine inv_val (G := Kd.ok z (ring17lK A B C 0)) (R := fun x y => Below x.heap.size x y) (wanted_none rfl) (v := (.bool true)) (w2 := x) (by simp only [execOp, eb14]; go_simp) hK rfl (Below.refl _ _)
  | 1, _ =>
    obtain rfl : { dst := some 138, op := Op.move (Operand.tmp 137), type := 4, pos := "outright.go:31", after := #[{ on := 0, ground := Ground.data }], guard := none } = o := Option.some.inj (show ring17lOps[1]? = some _ from ho)
    obtain ⟨t0, g0⟩ := dep 0 (by kernel_rfl)
    have q0 := t0 137 (by rfl)
    have e0 := eval_at q0
    have w0 : f 0 = (.bool true) := g0
    rw [w0] at e0
    refine inv_val (G := Kd.ok z (ring17lK A B C 1)) (R := fun x y => Below x.heap.size x y) (wanted_none rfl) (v := (.bool true)) (w2 := x) (by simp only [execOp, e0]; go_simp) hK rfl (Below.refl _ _)
  | 2, _ =>
    obtain rfl : { dst := some 139, op := Op.load 25 (Operand.tmp 13), type := 25, pos := "outright.go:31", after := #[{ on := 1, ground := Ground.guard }], guard := some (1, true) } = o := Option.some.inj (show ring17lOps[2]? = some _ from ho)
    obtain ⟨t1, g1⟩ := dep 1 (by kernel_rfl)
    have q1 := t1 138 (by rfl)
    have e1 := eval_at q1
    have v1 : f 1 = .bool true := g1
    have hw := wanted_some (ops := ring17lOps) (o := { dst := some 139, op := Op.load 25 (Operand.tmp 13), type := 25, pos := "outright.go:31", after := #[{ on := 1, ground := Ground.guard }], guard := some (1, true) }) (a := a) (j := 1) (s := 138) (b := true) (c := true) rfl (by rfl) (by rw [← v1]; exact q1)
    have qb13 := (bas 13 (by kernel_rfl)).trans h13
    have eb13 := eval_at qb13
    obtain ⟨xc, hc, hk⟩ := C13.below hR
    refine inv_val (G := Kd.ok z (ring17lK A B C 2)) (R := fun x y => Below x.heap.size x y) (hw.trans (by decide)) (v := .agg #[xc]) (w2 := x) (by simp only [execOp, eb13]; go_simp) hK hk (Below.refl _ _)
  | 3, _ =>
    obtain rfl : { dst := some 140, op := Op.load 25 (Operand.tmp 3), type := 25, pos := "outright.go:31", after := #[{ on := 1, ground := Ground.guard }], guard := some (1, true) } = o := Option.some.inj (show ring17lOps[3]? = some _ from ho)
    obtain ⟨t1, g1⟩ := dep 1 (by kernel_rfl)
    have q1 := t1 138 (by rfl)
    have e1 := eval_at q1
    have v1 : f 1 = .bool true := g1
    have hw := wanted_some (ops := ring17lOps) (o := { dst := some 140, op := Op.load 25 (Operand.tmp 3), type := 25, pos := "outright.go:31", after := #[{ on := 1, ground := Ground.guard }], guard := some (1, true) }) (a := a) (j := 1) (s := 138) (b := true) (c := true) rfl (by rfl) (by rw [← v1]; exact q1)
    have qb3 := (bas 3 (by kernel_rfl)).trans h3
    have eb3 := eval_at qb3
    obtain ⟨xc, hc, hk⟩ := C3.below hR
    refine inv_val (G := Kd.ok z (ring17lK A B C 3)) (R := fun x y => Below x.heap.size x y) (hw.trans (by decide)) (v := .agg #[xc]) (w2 := x) (by simp only [execOp, eb3]; go_simp) hK hk (Below.refl _ _)
  | 4, _ =>
    obtain rfl : { dst := some 141, op := Op.buildSlice 32 1 #[(0, Operand.tmp 140)], type := 32, pos := "outright.go:31", after := #[{ on := 3, ground := Ground.data }, { on := 1, ground := Ground.guard }], guard := some (1, true) } = o := Option.some.inj (show ring17lOps[4]? = some _ from ho)
    obtain ⟨t1, g1⟩ := dep 1 (by kernel_rfl)
    have q1 := t1 138 (by rfl)
    have e1 := eval_at q1
    have v1 : f 1 = .bool true := g1
    have hw := wanted_some (ops := ring17lOps) (o := { dst := some 141, op := Op.buildSlice 32 1 #[(0, Operand.tmp 140)], type := 32, pos := "outright.go:31", after := #[{ on := 3, ground := Ground.data }, { on := 1, ground := Ground.guard }], guard := some (1, true) }) (a := a) (j := 1) (s := 138) (b := true) (c := true) rfl (by rfl) (by rw [← v1]; exact q1)
    obtain ⟨t3, g3⟩ := dep 3 (by kernel_rfl)
    have q3 := t3 140 (by rfl)
    have e3 := eval_at q3
    obtain ⟨v, w2, hr, hrow, hb⟩ := st_build1 g3
    refine inv_val (G := Kd.ok z (ring17lK A B C 4)) (R := fun x y => Below x.heap.size x y) (hw.trans (by decide)) (v := v) (w2 := w2) (by simp [execOp, e3, hr]) hK hrow hb
  | 5, _ =>
    obtain rfl : { dst := some 142, op := Op.call { callee := Callee.value (Operand.func 11), args := #[Operand.tmp 141], argTypes := #[32] }, type := 25, pos := "outright.go:31", after := #[{ on := 4, ground := Ground.data }, { on := 1, ground := Ground.chain }, { on := 1, ground := Ground.guard }], guard := some (1, true) } = o := Option.some.inj (show ring17lOps[5]? = some _ from ho)
    obtain ⟨t1, g1⟩ := dep 1 (by kernel_rfl)
    have q1 := t1 138 (by rfl)
    have e1 := eval_at q1
    have v1 : f 1 = .bool true := g1
    have hw := wanted_some (ops := ring17lOps) (o := { dst := some 142, op := Op.call { callee := Callee.value (Operand.func 11), args := #[Operand.tmp 141], argTypes := #[32] }, type := 25, pos := "outright.go:31", after := #[{ on := 4, ground := Ground.data }, { on := 1, ground := Ground.chain }, { on := 1, ground := Ground.guard }], guard := some (1, true) }) (a := a) (j := 1) (s := 138) (b := true) (c := true) rfl (by rfl) (by rw [← v1]; exact q1)
    obtain ⟨t4, g4⟩ := dep 4 (by kernel_rfl)
    have q4 := t4 141 (by rfl)
    have e4 := eval_at q4
    refine inv_call (G := Kd.ok z (ring17lK A B C 5)) (R := fun x y => Below x.heap.size x y) (hw.trans (by decide)) (F := 11) (args := #[f 4]) (by simp [go_sem, q4]) hK ?_
    exact (by have h := k_add (z := z) g4 (by simp) N0 hka hzx; rw [E0] at h; exact h)
  | 6, _ =>
    obtain rfl : { dst := some 143, op := Op.call { callee := Callee.value (Operand.func 9), args := #[Operand.tmp 139, Operand.tmp 142], argTypes := #[25, 25] }, type := 4, pos := "outright.go:31", after := #[{ on := 2, ground := Ground.data }, { on := 5, ground := Ground.data }, { on := 5, ground := Ground.chain }, { on := 1, ground := Ground.guard }], guard := some (1, true) } = o := Option.some.inj (show ring17lOps[6]? = some _ from ho)
    obtain ⟨t1, g1⟩ := dep 1 (by kernel_rfl)
    have q1 := t1 138 (by rfl)
    have e1 := eval_at q1
    have v1 : f 1 = .bool true := g1
    have hw := wanted_some (ops := ring17lOps) (o := { dst := some 143, op := Op.call { callee := Callee.value (Operand.func 9), args := #[Operand.tmp 139, Operand.tmp 142], argTypes := #[25, 25] }, type := 4, pos := "outright.go:31", after := #[{ on := 2, ground := Ground.data }, { on := 5, ground := Ground.data }, { on := 5, ground := Ground.chain }, { on := 1, ground := Ground.guard }], guard := some (1, true) }) (a := a) (j := 1) (s := 138) (b := true) (c := true) rfl (by rfl) (by rw [← v1]; exact q1)
    obtain ⟨t2, g2⟩ := dep 2 (by kernel_rfl)
    have q2 := t2 139 (by rfl)
    have e2 := eval_at q2
    obtain ⟨t5, g5⟩ := dep 5 (by kernel_rfl)
    have q5 := t5 142 (by rfl)
    have e5 := eval_at q5
    refine inv_call (G := Kd.ok z (ring17lK A B C 6)) (R := fun x y => Below x.heap.size x y) (hw.trans (by decide)) (F := 9) (args := #[f 2, f 5]) (by simp [go_sem, q2, q5]) hK ?_
    exact k_same g2 g5
  | 7, _ =>
    obtain rfl : { dst := some 144, op := Op.pick (Operand.tmp 138) (Operand.tmp 143) (Operand.const (Value.bool false)), type := 4, pos := "outright.go:31", after := #[{ on := 1, ground := Ground.data }, { on := 6, ground := Ground.data }], guard := none } = o := Option.some.inj (show ring17lOps[7]? = some _ from ho)
    obtain ⟨t1, g1⟩ := dep 1 (by kernel_rfl)
    have q1 := t1 138 (by rfl)
    have e1 := eval_at q1
    obtain ⟨t6, g6⟩ := dep 6 (by kernel_rfl)
    have q6 := t6 143 (by rfl)
    have e6 := eval_at q6
    have w1 : f 1 = (.bool true) := g1
    have w6 : f 6 = (.bool true) := g6
    rw [w1] at e1
    rw [w6] at e6
    refine inv_val (G := Kd.ok z (ring17lK A B C 7)) (R := fun x y => Below x.heap.size x y) (wanted_none rfl) (v := (.bool true)) (w2 := x) (by simp only [execOp, e1, e6]; go_simp) hK rfl (Below.refl _ _)
  | 8, _ =>
    obtain rfl : { dst := some 145, op := Op.move (Operand.tmp 144), type := 4, pos := "outright.go:31", after := #[{ on := 7, ground := Ground.data }, { on := 6, ground := Ground.chain }], guard := none } = o := Option.some.inj (show ring17lOps[8]? = some _ from ho)
    obtain ⟨t7, g7⟩ := dep 7 (by kernel_rfl)
    have q7 := t7 144 (by rfl)
    have e7 := eval_at q7
    have w7 : f 7 = (.bool true) := g7
    rw [w7] at e7
    refine inv_val (G := Kd.ok z (ring17lK A B C 8)) (R := fun x y => Below x.heap.size x y) (wanted_none rfl) (v := (.bool true)) (w2 := x) (by simp only [execOp, e7]; go_simp) hK rfl (Below.refl _ _)
  | 9, _ =>
    obtain rfl : { dst := some 146, op := Op.move (Operand.tmp 16), type := 4, pos := "outright.go:31", after := #[{ on := 8, ground := Ground.guard }], guard := some (8, true) } = o := Option.some.inj (show ring17lOps[9]? = some _ from ho)
    obtain ⟨t8, g8⟩ := dep 8 (by kernel_rfl)
    have q8 := t8 145 (by rfl)
    have e8 := eval_at q8
    have v8 : f 8 = .bool true := g8
    have hw := wanted_some (ops := ring17lOps) (o := { dst := some 146, op := Op.move (Operand.tmp 16), type := 4, pos := "outright.go:31", after := #[{ on := 8, ground := Ground.guard }], guard := some (8, true) }) (a := a) (j := 8) (s := 145) (b := true) (c := true) rfl (by rfl) (by rw [← v8]; exact q8)
    have qb16 := (bas 16 (by kernel_rfl)).trans h16
    have eb16 := eval_at qb16
    have w8 : f 8 = (.bool true) := g8
    refine inv_val (G := Kd.ok z (ring17lK A B C 9)) (R := fun x y => Below x.heap.size x y) (hw.trans (by decide)) (v := (.bool false)) (w2 := x) (by simp only [execOp, eb16]; go_simp) hK rfl (Below.refl _ _)
  | 10, _ =>
    obtain rfl : { dst := some 147, op := Op.load 25 (Operand.tmp 3), type := 25, pos := "outright.go:31", after := #[{ on := 8, ground := Ground.guard }], guard := some (8, true) } = o := Option.some.inj (show ring17lOps[10]? = some _ from ho)
    obtain ⟨t8, g8⟩ := dep 8 (by kernel_rfl)
    have q8 := t8 145 (by rfl)
    have e8 := eval_at q8
    have v8 : f 8 = .bool true := g8
    have hw := wanted_some (ops := ring17lOps) (o := { dst := some 147, op := Op.load 25 (Operand.tmp 3), type := 25, pos := "outright.go:31", after := #[{ on := 8, ground := Ground.guard }], guard := some (8, true) }) (a := a) (j := 8) (s := 145) (b := true) (c := true) rfl (by rfl) (by rw [← v8]; exact q8)
    have qb3 := (bas 3 (by kernel_rfl)).trans h3
    have eb3 := eval_at qb3
    obtain ⟨xc, hc, hk⟩ := C3.below hR
    refine inv_val (G := Kd.ok z (ring17lK A B C 10)) (R := fun x y => Below x.heap.size x y) (hw.trans (by decide)) (v := .agg #[xc]) (w2 := x) (by simp only [execOp, eb3]; go_simp) hK hk (Below.refl _ _)
  | 11, _ =>
    obtain rfl : { dst := some 148, op := Op.load 25 (Operand.tmp 4), type := 25, pos := "outright.go:31", after := #[{ on := 8, ground := Ground.guard }], guard := some (8, true) } = o := Option.some.inj (show ring17lOps[11]? = some _ from ho)
    obtain ⟨t8, g8⟩ := dep 8 (by kernel_rfl)
    have q8 := t8 145 (by rfl)
    have e8 := eval_at q8
    have v8 : f 8 = .bool true := g8
    have hw := wanted_some (ops := ring17lOps) (o := { dst := some 148, op := Op.load 25 (Operand.tmp 4), type := 25, pos := "outright.go:31", after := #[{ on := 8, ground := Ground.guard }], guard := some (8, true) }) (a := a) (j := 8) (s := 145) (b := true) (c := true) rfl (by rfl) (by rw [← v8]; exact q8)
    have qb4 := (bas 4 (by kernel_rfl)).trans h4
    have eb4 := eval_at qb4
    obtain ⟨xc, hc, hk⟩ := C4.below hR
    refine inv_val (G := Kd.ok z (ring17lK A B C 11)) (R := fun x y => Below x.heap.size x y) (hw.trans (by decide)) (v := .agg #[xc]) (w2 := x) (by simp only [execOp, eb4]; go_simp) hK hk (Below.refl _ _)
  | 12, _ =>
    obtain rfl : { dst := some 149, op := Op.call { callee := Callee.value (Operand.func 16), args := #[Operand.tmp 147, Operand.tmp 148], argTypes := #[25, 25] }, type := 3, pos := "outright.go:31", after := #[{ on := 10, ground := Ground.data }, { on := 11, ground := Ground.data }, { on := 8, ground := Ground.chain }, { on := 8, ground := Ground.guard }], guard := some (8, true) } = o := Option.some.inj (show ring17lOps[12]? = some _ from ho)
    obtain ⟨t8, g8⟩ := dep 8 (by kernel_rfl)
    have q8 := t8 145 (by rfl)
    have e8 := eval_at q8
    have v8 : f 8 = .bool true := g8
    have hw := wanted_some (ops := ring17lOps) (o := { dst := some 149, op := Op.call { callee := Callee.value (Operand.func 16), args := #[Operand.tmp 147, Operand.tmp 148], argTypes := #[25, 25] }, type := 3, pos := "outright.go:31", after := #[{ on := 10, ground := Ground.data }, { on := 11, ground := Ground.data }, { on := 8, ground := Ground.chain }, { on := 8, ground := Ground.guard }], guard := some (8, true) }) (a := a) (j := 8) (s := 145) (b := true) (c := true) rfl (by rfl) (by rw [← v8]; exact q8)
    obtain ⟨t10, g10⟩ := dep 10 (by kernel_rfl)
    have q10 := t10 147 (by rfl)
    have e10 := eval_at q10
    obtain ⟨t11, g11⟩ := dep 11 (by kernel_rfl)
    have q11 := t11 148 (by rfl)
    have e11 := eval_at q11
    refine inv_call (G := Kd.ok z (ring17lK A B C 12)) (R := fun x y => Below x.heap.size x y) (hw.trans (by decide)) (F := 16) (args := #[f 10, f 11]) (by simp [go_sem, q10, q11]) hK ?_
    exact (by have h := k_cmp (z := z) g10 g11; rw [O1] at h; exact h)
  | 13, _ =>
    obtain rfl : { dst := some 150, op := Op.binOp BinOp.geq 3 (Operand.tmp 149) (Operand.const (Value.int IntKind.i64 0)) 3, type := 4, pos := "outright.go:31", after := #[{ on := 12, ground := Ground.data }, { on := 8, ground := Ground.guard }], guard := some (8, true) } = o := Option.some.inj (show ring17lOps[13]? = some _ from ho)
    obtain ⟨t8, g8⟩ := dep 8 (by kernel_rfl)
    have q8 := t8 145 (by rfl)
    have e8 := eval_at q8
    have v8 : f 8 = .bool true := g8
    have hw := wanted_some (ops := ring17lOps) (o := { dst := some 150, op := Op.binOp BinOp.geq 3 (Operand.tmp 149) (Operand.const (Value.int IntKind.i64 0)) 3, type := 4, pos := "outright.go:31", after := #[{ on := 12, ground := Ground.data }, { on := 8, ground := Ground.guard }], guard := some (8, true) }) (a := a) (j := 8) (s := 145) (b := true) (c := true) rfl (by rfl) (by rw [← v8]; exact q8)
    obtain ⟨t12, g12⟩ := dep 12 (by kernel_rfl)
    have q12 := t12 149 (by rfl)
    have e12 := eval_at q12
    have w8 : f 8 = (.bool true) := g8
    have w12 : f 12 = (.int .i64 (-1)) := g12
    rw [w12] at e12
    refine inv_val (G := Kd.ok z (ring17lK A B C 13)) (R := fun x y => Below x.heap.size x y) (hw.trans (by decide)) (v := (.bool false)) (w2 := x) (by simp only [execOp, e12]; go_simp) hK rfl (Below.refl _ _)
  | 14, _ =>
    obtain rfl : { dst := some 151, op := Op.binOp BinOp.eql 4 (Operand.tmp 146) (Operand.tmp 150) 4, type := 4, pos := "outright.go:31", after := #[{ on := 9, ground := Ground.data }, { on := 13, ground := Ground.data }, { on := 8, ground := Ground.guard }], guard := some (8, true) } = o := Option.some.inj (show ring17lOps[14]? = some _ from ho)
    obtain ⟨t8, g8⟩ := dep 8 (by kernel_rfl)
    have q8 := t8 145 (by rfl)
    have e8 := eval_at q8
    have v8 : f 8 = .bool true := g8
    have hw := wanted_some (ops := ring17lOps) (o := { dst := some 151, op := Op.binOp BinOp.eql 4 (Operand.tmp 146) (Operand.tmp 150) 4, type := 4, pos := "outright.go:31", after := #[{ on := 9, ground := Ground.data }, { on := 13, ground := Ground.data }, { on := 8, ground := Ground.guard }], guard := some (8, true) }) (a := a) (j := 8) (s := 145) (b := true) (c := true) rfl (by rfl) (by rw [← v8]; exact q8)
    obtain ⟨t9, g9⟩ := dep 9 (by kernel_rfl)
    have q9 := t9 146 (by rfl)
    have e9 := eval_at q9
    obtain ⟨t13, g13⟩ := dep 13 (by kernel_rfl)
    have q13 := t13 150 (by rfl)
    have e13 := eval_at q13
    have w8 : f 8 = (.bool true) := g8
    have w9 : f 9 = (.bool false) := g9
    have w13 : f 13 = (.bool false) := g13
    rw [w9] at e9
    rw [w13] at e13
    refine inv_val (G := Kd.ok z (ring17lK A B C 14)) (R := fun x y => Below x.heap.size x y) (hw.trans (by decide)) (v := (.bool true)) (w2 := x) (by simp only [execOp, e9, e13]; go_simp) hK rfl (Below.refl _ _)
  | 15, _ =>
    obtain rfl : { dst := some 152, op := Op.pick (Operand.tmp 145) (Operand.tmp 151) (Operand.const (Value.bool false)), type := 4, pos := "outright.go:31", after := #[{ on := 8, ground := Ground.data }, { on := 14, ground := Ground.data }], guard := none } = o := Option.some.inj (show ring17lOps[15]? = some _ from ho)
    obtain ⟨t8, g8⟩ := dep 8 (by kernel_rfl)
    have q8 := t8 145 (by rfl)
    have e8 := eval_at q8
    obtain ⟨t14, g14⟩ := dep 14 (by kernel_rfl)
    have q14 := t14 151 (by rfl)
    have e14 := eval_at q14
    have w8 : f 8 = (.bool true) := g8
    have w14 : f 14 = (.bool true) := g14
    rw [w8] at e8
    rw [w14] at e14
    refine inv_val (G := Kd.ok z (ring17lK A B C 15)) (R := fun x y => Below x.heap.size x y) (wanted_none rfl) (v := (.bool true)) (w2 := x) (by simp only [execOp, e8, e14]; go_simp) hK rfl (Below.refl _ _)
  | 16, _ =>
    obtain rfl : { dst := some 153, op := Op.move (Operand.tmp 152), type := 4, pos := "outright.go:31", after := #[{ on := 15, ground := Ground.data }, { on := 12, ground := Ground.chain }], guard := none } = o := Option.some.inj (show ring17lOps[16]? = some _ from ho)
    obtain ⟨t15, g15⟩ := dep 15 (by kernel_rfl)
    have q15 := t15 152 (by rfl)
    have e15 := eval_at q15
    have w15 : f 15 = (.bool true) := g15
    rw [w15] at e15
    refine inv_val (G := Kd.ok z (ring17lK A B C 16)) (R := fun x y => Below x.heap.size x y) (wanted_none rfl) (v := (.bool true)) (w2 := x) (by simp only [execOp, e15]; go_simp) hK rfl (Below.refl _ _)
  | 17, _ =>
    obtain rfl : { dst := some 154, op := Op.load 25 (Operand.tmp 3), type := 25, pos := "outright.go:31", after := #[{ on := 16, ground := Ground.guard }], guard := some (16, true) } = o := Option.some.inj (show ring17lOps[17]? = some _ from ho)
    obtain ⟨t16, g16⟩ := dep 16 (by kernel_rfl)
    have q16 := t16 153 (by rfl)
    have e16 := eval_at q16
    have v16 : f 16 = .bool true := g16
    have hw := wanted_some (ops := ring17lOps) (o := { dst := some 154, op := Op.load 25 (Operand.tmp 3), type := 25, pos := "outright.go:31", after := #[{ on := 16, ground := Ground.guard }], guard := some (16, true) }) (a := a) (j := 16) (s := 153) (b := true) (c := true) rfl (by rfl) (by rw [← v16]; exact q16)
    have qb3 := (bas 3 (by kernel_rfl)).trans h3
    have eb3 := eval_at qb3
    obtain ⟨xc, hc, hk⟩ := C3.below hR
    refine inv_val (G := Kd.ok z (ring17lK A B C 17)) (R := fun x y => Below x.heap.size x y) (hw.trans (by decide)) (v := .agg #[xc]) (w2 := x) (by simp only [execOp, eb3]; go_simp) hK hk (Below.refl _ _)
  | 18, _ =>
    obtain rfl : { dst := some 155, op := Op.load 25 (Operand.tmp 4), type := 25, pos := "outright.go:31", after := #[{ on := 16, ground := Ground.guard }], guard := some (16, true) } = o := Option.some.inj (show ring17lOps[18]? = some _ from ho)
    obtain ⟨t16, g16⟩ := dep 16 (by kernel_rfl)
    have q16 := t16 153 (by rfl)
    have e16 := eval_at q16
    have v16 : f 16 = .bool true := g16
    have hw := wanted_some (ops := ring17lOps) (o := { dst := some 155, op := Op.load 25 (Operand.tmp 4), type := 25, pos := "outright.go:31", after := #[{ on := 16, ground := Ground.guard }], guard := some (16, true) }) (a := a) (j := 16) (s := 153) (b := true) (c := true) rfl (by rfl) (by rw [← v16]; exact q16)
    have qb4 := (bas 4 (by kernel_rfl)).trans h4
    have eb4 := eval_at qb4
    obtain ⟨xc, hc, hk⟩ := C4.below hR
    refine inv_val (G := Kd.ok z (ring17lK A B C 18)) (R := fun x y => Below x.heap.size x y) (hw.trans (by decide)) (v := .agg #[xc]) (w2 := x) (by simp only [execOp, eb4]; go_simp) hK hk (Below.refl _ _)
  | 19, _ =>
    obtain rfl : { dst := some 156, op := Op.call { callee := Callee.value (Operand.func 16), args := #[Operand.tmp 154, Operand.tmp 155], argTypes := #[25, 25] }, type := 3, pos := "outright.go:31", after := #[{ on := 17, ground := Ground.data }, { on := 18, ground := Ground.data }, { on := 16, ground := Ground.chain }, { on := 16, ground := Ground.guard }], guard := some (16, true) } = o := Option.some.inj (show ring17lOps[19]? = some _ from ho)
    obtain ⟨t16, g16⟩ := dep 16 (by kernel_rfl)
    have q16 := t16 153 (by rfl)
    have e16 := eval_at q16
    have v16 : f 16 = .bool true := g16
    have hw := wanted_some (ops := ring17lOps) (o := { dst := some 156, op := Op.call { callee := Callee.value (Operand.func 16), args := #[Operand.tmp 154, Operand.tmp 155], argTypes := #[25, 25] }, type := 3, pos := "outright.go:31", after := #[{ on := 17, ground := Ground.data }, { on := 18, ground := Ground.data }, { on := 16, ground := Ground.chain }, { on := 16, ground := Ground.guard }], guard := some (16, true) }) (a := a) (j := 16) (s := 153) (b := true) (c := true) rfl (by rfl) (by rw [← v16]; exact q16)
    obtain ⟨t17, g17⟩ := dep 17 (by kernel_rfl)
    have q17 := t17 154 (by rfl)
    have e17 := eval_at q17
    obtain ⟨t18, g18⟩ := dep 18 (by kernel_rfl)
    have q18 := t18 155 (by rfl)
    have e18 := eval_at q18
    refine inv_call (G := Kd.ok z (ring17lK A B C 19)) (R := fun x y => Below x.heap.size x y) (hw.trans (by decide)) (F := 16) (args := #[f 17, f 18]) (by simp [go_sem, q17, q18]) hK ?_
    exact (by have h := k_cmp (z := z) g17 g18; rw [O1] at h; exact h)
  | 20, _ =>
    obtain rfl : { dst := some 157, op := Op.load 25 (Operand.tmp 3), type := 25, pos := "outright.go:31", after := #[{ on := 16, ground := Ground.guard }], guard := some (16, true) } = o := Option.some.inj (show ring17lOps[20]? = some _ from ho)
    obtain ⟨t16, g16⟩ := dep 16 (by kernel_rfl)
    have q16 := t16 153 (by rfl)
    have e16 := eval_at q16
    have v16 : f 16 = .bool true := g16
    have hw := wanted_some (ops := ring17lOps) (o := { dst := some 157, op := Op.load 25 (Operand.tmp 3), type := 25, pos := "outright.go:31", after := #[{ on := 16, ground := Ground.guard }], guard := some (16, true) }) (a := a) (j := 16) (s := 153) (b := true) (c := true) rfl (by rfl) (by rw [← v16]; exact q16)
    have qb3 := (bas 3 (by kernel_rfl)).trans h3
    have eb3 := eval_at qb3
    obtain ⟨xc, hc, hk⟩ := C3.below hR
    refine inv_val (G := Kd.ok z (ring17lK A B C 20)) (R := fun x y => Below x.heap.size x y) (hw.trans (by decide)) (v := .agg #[xc]) (w2 := x) (by simp only [execOp, eb3]; go_simp) hK hk (Below.refl _ _)
  | 21, _ =>
    obtain rfl : { dst := some 158, op := Op.load 25 (Operand.tmp 5), type := 25, pos := "outright.go:31", after := #[{ on := 16, ground := Ground.guard }], guard := some (16, true) } = o := Option.some.inj (show ring17lOps[21]? = some _ from ho)
    obtain ⟨t16, g16⟩ := dep 16 (by kernel_rfl)
    have q16 := t16 153 (by rfl)
    have e16 := eval_at q16
    have v16 : f 16 = .bool true := g16
    have hw := wanted_some (ops := ring17lOps) (o := { dst := some 158, op := Op.load 25 (Operand.tmp 5), type := 25, pos := "outright.go:31", after := #[{ on := 16, ground := Ground.guard }], guard := some (16, true) }) (a := a) (j := 16) (s := 153) (b := true) (c := true) rfl (by rfl) (by rw [← v16]; exact q16)
    have qb5 := (bas 5 (by kernel_rfl)).trans h5
    have eb5 := eval_at qb5
    obtain ⟨xc, hc, hk⟩ := C5.below hR
    refine inv_val (G := Kd.ok z (ring17lK A B C 21)) (R := fun x y => Below x.heap.size x y) (hw.trans (by decide)) (v := .agg #[xc]) (w2 := x) (by simp only [execOp, eb5]; go_simp) hK hk (Below.refl _ _)
  | 22, _ =>
    obtain rfl : { dst := some 159, op := Op.buildSlice 32 2 #[(0, Operand.tmp 157), (1, Operand.tmp 158)], type := 32, pos := "outright.go:31", after := #[{ on := 20, ground := Ground.data }, { on := 21, ground := Ground.data }, { on := 16, ground := Ground.guard }], guard := some (16, true) } = o := Option.some.inj (show ring17lOps[22]? = some _ from ho)
    obtain ⟨t16, g16⟩ := dep 16 (by kernel_rfl)
    have q16 := t16 153 (by rfl)
    have e16 := eval_at q16
    have v16 : f 16 = .bool true := g16
    have hw := wanted_some (ops := ring17lOps) (o := { dst := some 159, op := Op.buildSlice 32 2 #[(0, Operand.tmp 157), (1, Operand.tmp 158)], type := 32, pos := "outright.go:31", after := #[{ on := 20, ground := Ground.data }, { on := 21, ground := Ground.data }, { on := 16, ground := Ground.guard }], guard := some (16, true) }) (a := a) (j := 16) (s := 153) (b := true) (c := true) rfl (by rfl) (by rw [← v16]; exact q16)
    obtain ⟨t20, g20⟩ := dep 20 (by kernel_rfl)
    have q20 := t20 157 (by rfl)
    have e20 := eval_at q20
    obtain ⟨t21, g21⟩ := dep 21 (by kernel_rfl)
    have q21 := t21 158 (by rfl)
    have e21 := eval_at q21
    obtain ⟨v, w2, hr, hrow, hb⟩ := st_build2 g20 g21
    refine inv_val (G := Kd.ok z (ring17lK A B C 22)) (R := fun x y => Below x.heap.size x y) (hw.trans (by decide)) (v := v) (w2 := w2) (by simp [execOp, e20, e21, hr]) hK hrow hb
  | 23, _ =>
    obtain rfl : { dst := some 160, op := Op.call { callee := Callee.value (Operand.func 11), args := #[Operand.tmp 159], argTypes := #[32] }, type := 25, pos := "outright.go:31", after := #[{ on := 22, ground := Ground.data }, { on := 19, ground := Ground.chain }, { on := 16, ground := Ground.guard }], guard := some (16, true) } = o := Option.some.inj (show ring17lOps[23]? = some _ from ho)
    obtain ⟨t16, g16⟩ := dep 16 (by kernel_rfl)
    have q16 := t16 153 (by rfl)
    have e16 := eval_at q16
    have v16 : f 16 = .bool true := g16
    have hw := wanted_some (ops := ring17lOps) (o := { dst := some 160, op := Op.call { callee := Callee.value (Operand.func 11), args := #[Operand.tmp 159], argTypes := #[32] }, type := 25, pos := "outright.go:31", after := #[{ on := 22, ground := Ground.data }, { on := 19, ground := Ground.chain }, { on := 16, ground := Ground.guard }], guard := some (16, true) }) (a := a) (j := 16) (s := 153) (b := true) (c := true) rfl (by rfl) (by rw [← v16]; exact q16)
    obtain ⟨t22, g22⟩ := dep 22 (by kernel_rfl)
    have q22 := t22 159 (by rfl)
    have e22 := eval_at q22
    refine inv_call (G := Kd.ok z (ring17lK A B C 23)) (R := fun x y => Below x.heap.size x y) (hw.trans (by decide)) (F := 11) (args := #[f 22]) (by simp [go_sem, q22]) hK ?_
    exact k_add g22 (by simp) N1 hka hzx
  | 24, _ =>
    obtain rfl : { dst := some 161, op := Op.load 25 (Operand.tmp 4), type := 25, pos := "outright.go:31", after := #[{ on := 16, ground := Ground.guard }], guard := some (16, true) } = o := Option.some.inj (show ring17lOps[24]? = some _ from ho)
    obtain ⟨t16, g16⟩ := dep 16 (by kernel_rfl)
    have q16 := t16 153 (by rfl)
    have e16 := eval_at q16
    have v16 : f 16 = .bool true := g16
    have hw := wanted_some (ops := ring17lOps) (o := { dst := some 161, op := Op.load 25 (Operand.tmp 4), type := 25, pos := "outright.go:31", after := #[{ on := 16, ground := Ground.guard }], guard := some (16, true) }) (a := a) (j := 16) (s := 153) (b := true) (c := true) rfl (by rfl) (by rw [← v16]; exact q16)
    have qb4 := (bas 4 (by kernel_rfl)).trans h4
    have eb4 := eval_at qb4
    obtain ⟨xc, hc, hk⟩ := C4.below hR
    refine inv_val (G := Kd.ok z (ring17lK A B C 24)) (R := fun x y => Below x.heap.size x y) (hw.trans (by decide)) (v := .agg #[xc]) (w2 := x) (by simp only [execOp, eb4]; go_simp) hK hk (Below.refl _ _)
  | 25, _ =>
    obtain rfl : { dst := some 162, op := Op.load 25 (Operand.tmp 5), type := 25, pos := "outright.go:31", after := #[{ on := 16, ground := Ground.guard }], guard := some (16, true) } = o := Option.some.inj (show ring17lOps[25]? = some _ from ho)
    obtain ⟨t16, g16⟩ := dep 16 (by kernel_rfl)
    have q16 := t16 153 (by rfl)
    have e16 := eval_at q16
    have v16 : f 16 = .bool true := g16
    have hw := wanted_some (ops := ring17lOps) (o := { dst := some 162, op := Op.load 25 (Operand.tmp 5), type := 25, pos := "outright.go:31", after := #[{ on := 16, ground := Ground.guard }], guard := some (16, true) }) (a := a) (j := 16) (s := 153) (b := true) (c := true) rfl (by rfl) (by rw [← v16]; exact q16)
    have qb5 := (bas 5 (by kernel_rfl)).trans h5
    have eb5 := eval_at qb5
    obtain ⟨xc, hc, hk⟩ := C5.below hR
    refine inv_val (G := Kd.ok z (ring17lK A B C 25)) (R := fun x y => Below x.heap.size x y) (hw.trans (by decide)) (v := .agg #[xc]) (w2 := x) (by simp only [execOp, eb5]; go_simp) hK hk (Below.refl _ _)
  | 26, _ =>
    obtain rfl : { dst := some 163, op := Op.buildSlice 32 2 #[(0, Operand.tmp 161), (1, Operand.tmp 162)], type := 32, pos := "outright.go:31", after := #[{ on := 24, ground := Ground.data }, { on := 25, ground := Ground.data }, { on := 16, ground := Ground.guard }], guard := some (16, true) } = o := Option.some.inj (show ring17lOps[26]? = some _ from ho)
    obtain ⟨t16, g16⟩ := dep 16 (by kernel_rfl)
    have q16 := t16 153 (by rfl)
    have e16 := eval_at q16
    have v16 : f 16 = .bool true := g16
    have hw := wanted_some (ops := ring17lOps) (o := { dst := some 163, op := Op.buildSlice 32 2 #[(0, Operand.tmp 161), (1, Operand.tmp 162)], type := 32, pos := "outright.go:31", after := #[{ on := 24, ground := Ground.data }, { on := 25, ground := Ground.data }, { on := 16, ground := Ground.guard }], guard := some (16, true) }) (a := a) (j := 16) (s := 153) (b := true) (c := true) rfl (by rfl) (by rw [← v16]; exact q16)
    obtain ⟨t24, g24⟩ := dep 24 (by kernel_rfl)
    have q24 := t24 161 (by rfl)
    have e24 := eval_at q24
    obtain ⟨t25, g25⟩ := dep 25 (by kernel_rfl)
    have q25 := t25 162 (by rfl)
    have e25 := eval_at q25
    obtain ⟨v, w2, hr, hrow, hb⟩ := st_build2 g24 g25
    refine inv_val (G := Kd.ok z (ring17lK A B C 26)) (R := fun x y => Below x.heap.size x y) (hw.trans (by decide)) (v := v) (w2 := w2) (by simp [execOp, e24, e25, hr]) hK hrow hb
  | 27, _ =>
    obtain rfl : { dst := some 164, op := Op.call { callee := Callee.value (Operand.func 11), args := #[Operand.tmp 163], argTypes := #[32] }, type := 25, pos := "outright.go:31", after := #[{ on := 26, ground := Ground.data }, { on := 23, ground := Ground.chain }, { on := 16, ground := Ground.guard }], guard := some (16, true) } = o := Option.some.inj (show ring17lOps[27]? = some _ from ho)
    obtain ⟨t16, g16⟩ := dep 16 (by kernel_rfl)
    have q16 := t16 153 (by rfl)
    have e16 := eval_at q16
    have v16 : f 16 = .bool true := g16
    have hw := wanted_some (ops := ring17lOps) (o := { dst := some 164, op := Op.call { callee := Callee.value (Operand.func 11), args := #[Operand.tmp 163], argTypes := #[32] }, type := 25, pos := "outright.go:31", after := #[{ on := 26, ground := Ground.data }, { on := 23, ground := Ground.chain }, { on := 16, ground := Ground.guard }], guard := some (16, true) }) (a := a) (j := 16) (s := 153) (b := true) (c := true) rfl (by rfl) (by rw [← v16]; exact q16)
    obtain ⟨t26, g26⟩ := dep 26 (by kernel_rfl)
    have q26 := t26 163 (by rfl)
    have e26 := eval_at q26
    refine inv_call (G := Kd.ok z (ring17lK A B C 27)) (R := fun x y => Below x.heap.size x y) (hw.trans (by decide)) (F := 11) (args := #[f 26]) (by simp [go_sem, q26]) hK ?_
    exact k_add g26 (by simp) N2 hka hzx
  | 28, _ =>
    obtain rfl : { dst := some 165, op := Op.call { callee := Callee.value (Operand.func 16), args := #[Operand.tmp 160, Operand.tmp 164], argTypes := #[25, 25] }, type := 3, pos := "outright.go:31", after := #[{ on := 23, ground := Ground.data }, { on := 27, ground := Ground.data }, { on := 27, ground := Ground.chain }, { on := 16, ground := Ground.guard }], guard := some (16, true) } = o := Option.some.inj (show ring17lOps[28]? = some _ from ho)
    obtain ⟨t16, g16⟩ := dep 16 (by kernel_rfl)
    have q16 := t16 153 (by rfl)
    have e16 := eval_at q16
    have v16 : f 16 = .bool true := g16
    have hw := wanted_some (ops := ring17lOps) (o := { dst := some 165, op := Op.call { callee := Callee.value (Operand.func 16), args := #[Operand.tmp 160, Operand.tmp 164], argTypes := #[25, 25] }, type := 3, pos := "outright.go:31", after := #[{ on := 23, ground := Ground.data }, { on := 27, ground := Ground.data }, { on := 27, ground := Ground.chain }, { on := 16, ground := Ground.guard }], guard := some (16, true) }) (a := a) (j := 16) (s := 153) (b := true) (c := true) rfl (by rfl) (by rw [← v16]; exact q16)
    obtain ⟨t23, g23⟩ := dep 23 (by kernel_rfl)
    have q23 := t23 160 (by rfl)
    have e23 := eval_at q23
    obtain ⟨t27, g27⟩ := dep 27 (by kernel_rfl)
    have q27 := t27 164 (by rfl)
    have e27 := eval_at q27
    refine inv_call (G := Kd.ok z (ring17lK A B C 28)) (R := fun x y => Below x.heap.size x y) (hw.trans (by decide)) (F := 16) (args := #[f 23, f 27]) (by simp [go_sem, q23, q27]) hK ?_
    exact (by have h := k_cmp (z := z) g23.2 g27.2; rw [O2] at h; exact h)
  | 29, _ =>
    obtain rfl : { dst := some 166, op := Op.binOp BinOp.eql 3 (Operand.tmp 156) (Operand.tmp 165) 3, type := 4, pos := "outright.go:31", after := #[{ on := 19, ground := Ground.data }, { on := 28, ground := Ground.data }, { on := 16, ground := Ground.guard }], guard := some (16, true) } = o := Option.some.inj (show ring17lOps[29]? = some _ from ho)
    obtain ⟨t16, g16⟩ := dep 16 (by kernel_rfl)
    have q16 := t16 153 (by rfl)
    have e16 := eval_at q16
    have v16 : f 16 = .bool true := g16
    have hw := wanted_some (ops := ring17lOps) (o := { dst := some 166, op := Op.binOp BinOp.eql 3 (Operand.tmp 156) (Operand.tmp 165) 3, type := 4, pos := "outright.go:31", after := #[{ on := 19, ground := Ground.data }, { on := 28, ground := Ground.data }, { on := 16, ground := Ground.guard }], guard := some (16, true) }) (a := a) (j := 16) (s := 153) (b := true) (c := true) rfl (by rfl) (by rw [← v16]; exact q16)
    obtain ⟨t19, g19⟩ := dep 19 (by kernel_rfl)
    have q19 := t19 156 (by rfl)
    have e19 := eval_at q19
    obtain ⟨t28, g28⟩ := dep 28 (by kernel_rfl)
    have q28 := t28 165 (by rfl)
    have e28 := eval_at q28
    have w16 : f 16 = (.bool true) := g16
    have w19 : f 19 = (.int .i64 (-1)) := g19
    have w28 : f 28 = (.int .i64 (-1)) := g28
    rw [w19] at e19
    rw [w28] at e28
    refine inv_val (G := Kd.ok z (ring17lK A B C 29)) (R := fun x y => Below x.heap.size x y) (hw.trans (by decide)) (v := (.bool true)) (w2 := x) (by simp only [execOp, e19, e28]; go_simp) hK rfl (Below.refl _ _)
  | 30, _ =>
    obtain rfl : { dst := some 167, op := Op.pick (Operand.tmp 153) (Operand.tmp 166) (Operand.const (Value.bool false)), type := 4, pos := "outright.go:31", after := #[{ on := 16, ground := Ground.data }, { on := 29, ground := Ground.data }], guard := none } = o := Option.some.inj (show ring17lOps[30]? = some _ from ho)
    obtain ⟨t16, g16⟩ := dep 16 (by kernel_rfl)
    have q16 := t16 153 (by rfl)
    have e16 := eval_at q16
    obtain ⟨t29, g29⟩ := dep 29 (by kernel_rfl)
    have q29 := t29 166 (by rfl)
    have e29 := eval_at q29
    have w16 : f 16 = (.bool true) := g16
    have w29 : f 29 = (.bool true) := g29
    rw [w16] at e16
    rw [w29] at e29
    refine inv_val (G := Kd.ok z (ring17lK A B C 30)) (R := fun x y => Below x.heap.size x y) (wanted_none rfl) (v := (.bool true)) (w2 := x) (by simp only [execOp, e16, e29]; go_simp) hK rfl (Below.refl _ _)
  | 31, _ =>
    obtain rfl : { dst := some 168, op := Op.move (Operand.tmp 167), type := 4, pos := "outright.go:31", after := #[{ on := 30, ground := Ground.data }, { on := 28, ground := Ground.chain }], guard := none } = o := Option.some.inj (show ring17lOps[31]? = some _ from ho)
    obtain ⟨t30, g30⟩ := dep 30 (by kernel_rfl)
    have q30 := t30 167 (by rfl)
    have e30 := eval_at q30
    have w30 : f 30 = (.bool true) := g30
    rw [w30] at e30
    refine inv_val (G := Kd.ok z (ring17lK A B C 31)) (R := fun x y => Below x.heap.size x y) (wanted_none rfl) (v := (.bool true)) (w2 := x) (by simp only [execOp, e30]; go_simp) hK rfl (Below.refl _ _)
  | 32, _ =>
    obtain rfl : { dst := some 169, op := Op.load 25 (Operand.tmp 3), type := 25, pos := "outright.go:31", after := #[{ on := 31, ground := Ground.guard }], guard := some (31, true) } = o := Option.some.inj (show ring17lOps[32]? = some _ from ho)
    obtain ⟨t31, g31⟩ := dep 31 (by kernel_rfl)
    have q31 := t31 168 (by rfl)
    have e31 := eval_at q31
    have v31 : f 31 = .bool true := g31
    have hw := wanted_some (ops := ring17lOps) (o := { dst := some 169, op := Op.load 25 (Operand.tmp 3), type := 25, pos := "outright.go:31", after := #[{ on := 31, ground := Ground.guard }], guard := some (31, true) }) (a := a) (j := 31) (s := 168) (b := true) (c := true) rfl (by rfl) (by rw [← v31]; exact q31)
    have qb3 := (bas 3 (by kernel_rfl)).trans h3
    have eb3 := eval_at qb3
    obtain ⟨xc, hc, hk⟩ := C3.below hR
    refine inv_val (G := Kd.ok z (ring17lK A B C 32)) (R := fun x y => Below x.heap.size x y) (hw.trans (by decide)) (v := .agg #[xc]) (w2 := x) (by simp only [execOp, eb3]; go_simp) hK hk (Below.refl _ _)
  | 33, _ =>
    obtain rfl : { dst := some 170, op := Op.load 25 (Operand.tmp 4), type := 25, pos := "outright.go:31", after := #[{ on := 31, ground := Ground.guard }], guard := some (31, true) } = o := Option.some.inj (show ring17lOps[33]? = some _ from ho)
    obtain ⟨t31, g31⟩ := dep 31 (by kernel_rfl)
    have q31 := t31 168 (by rfl)
    have e31 := eval_at q31
    have v31 : f 31 = .bool true := g31
    have hw := wanted_some (ops := ring17lOps) (o := { dst := some 170, op := Op.load 25 (Operand.tmp 4), type := 25, pos := "outright.go:31", after := #[{ on := 31, ground := Ground.guard }], guard := some (31, true) }) (a := a) (j := 31) (s := 168) (b := true) (c := true) rfl (by rfl) (by rw [← v31]; exact q31)
    have qb4 := (bas 4 (by kernel_rfl)).trans h4
    have eb4 := eval_at qb4
    obtain ⟨xc, hc, hk⟩ := C4.below hR
    refine inv_val (G := Kd.ok z (ring17lK A B C 33)) (R := fun x y => Below x.heap.size x y) (hw.trans (by decide)) (v := .agg #[xc]) (w2 := x) (by simp only [execOp, eb4]; go_simp) hK hk (Below.refl _ _)
  | 34, _ =>
    obtain rfl : { dst := some 171, op := Op.call { callee := Callee.value (Operand.func 16), args := #[Operand.tmp 169, Operand.tmp 170], argTypes := #[25, 25] }, type := 3, pos := "outright.go:31", after := #[{ on := 32, ground := Ground.data }, { on := 33, ground := Ground.data }, { on := 31, ground := Ground.chain }, { on := 31, ground := Ground.guard }], guard := some (31, true) } = o := Option.some.inj (show ring17lOps[34]? = some _ from ho)
    obtain ⟨t31, g31⟩ := dep 31 (by kernel_rfl)
    have q31 := t31 168 (by rfl)
    have e31 := eval_at q31
    have v31 : f 31 = .bool true := g31
    have hw := wanted_some (ops := ring17lOps) (o := { dst := some 171, op := Op.call { callee := Callee.value (Operand.func 16), args := #[Operand.tmp 169, Operand.tmp 170], argTypes := #[25, 25] }, type := 3, pos := "outright.go:31", after := #[{ on := 32, ground := Ground.data }, { on := 33, ground := Ground.data }, { on := 31, ground := Ground.chain }, { on := 31, ground := Ground.guard }], guard := some (31, true) }) (a := a) (j := 31) (s := 168) (b := true) (c := true) rfl (by rfl) (by rw [← v31]; exact q31)
    obtain ⟨t32, g32⟩ := dep 32 (by kernel_rfl)
    have q32 := t32 169 (by rfl)
    have e32 := eval_at q32
    obtain ⟨t33, g33⟩ := dep 33 (by kernel_rfl)
    have q33 := t33 170 (by rfl)
    have e33 := eval_at q33
    refine inv_call (G := Kd.ok z (ring17lK A B C 34)) (R := fun x y => Below x.heap.size x y) (hw.trans (by decide)) (F := 16) (args := #[f 32, f 33]) (by simp [go_sem, q32, q33]) hK ?_
    exact (by have h := k_cmp (z := z) g32 g33; rw [O1] at h; exact h)
  | 35, _ =>
    obtain rfl : { dst := some 172, op := Op.load 25 (Operand.tmp 4), type := 25, pos := "outright.go:31", after := #[{ on := 31, ground := Ground.guard }], guard := some (31, true) } = o := Option.some.inj (show ring17lOps[35]? = some _ from ho)
    obtain ⟨t31, g31⟩ := dep 31 (by kernel_rfl)
    have q31 := t31 168 (by rfl)
    have e31 := eval_at q31
    have v31 : f 31 = .bool true := g31
    have hw := wanted_some (ops := ring17lOps) (o := { dst := some 172, op := Op.load 25 (Operand.tmp 4), type := 25, pos := "outright.go:31", after := #[{ on := 31, ground := Ground.guard }], guard := some (31, true) }) (a := a) (j := 31) (s := 168) (b := true) (c := true) rfl (by rfl) (by rw [← v31]; exact q31)
    have qb4 := (bas 4 (by kernel_rfl)).trans h4
    have eb4 := eval_at qb4
    obtain ⟨xc, hc, hk⟩ := C4.below hR
    refine inv_val (G := Kd.ok z (ring17lK A B C 35)) (R := fun x y => Below x.heap.size x y) (hw.trans (by decide)) (v := .agg #[xc]) (w2 := x) (by simp only [execOp, eb4]; go_simp) hK hk (Below.refl _ _)
  | 36, _ =>
    obtain rfl : { dst := some 173, op := Op.load 25 (Operand.tmp 3), type := 25, pos := "outright.go:31", after := #[{ on := 31, ground := Ground.guard }], guard := some (31, true) } = o := Option.some.inj (show ring17lOps[36]? = some _ from ho)
    obtain ⟨t31, g31⟩ := dep 31 (by kernel_rfl)
    have q31 := t31 168 (by rfl)
    have e31 := eval_at q31
    have v31 : f 31 = .bool true := g31
    have hw := wanted_some (ops := ring17lOps) (o := { dst := some 173, op := Op.load 25 (Operand.tmp 3), type := 25, pos := "outright.go:31", after := #[{ on := 31, ground := Ground.guard }], guard := some (31, true) }) (a := a) (j := 31) (s := 168) (b := true) (c := true) rfl (by rfl) (by rw [← v31]; exact q31)
    have qb3 := (bas 3 (by kernel_rfl)).trans h3
    have eb3 := eval_at qb3
    obtain ⟨xc, hc, hk⟩ := C3.below hR
    refine inv_val (G := Kd.ok z (ring17lK A B C 36)) (R := fun x y => Below x.heap.size x y) (hw.trans (by decide)) (v := .agg #[xc]) (w2 := x) (by simp only [execOp, eb3]; go_simp) hK hk (Below.refl _ _)
  | 37, _ =>
    obtain rfl : { dst := some 174, op := Op.call { callee := Callee.value (Operand.func 16), args := #[Operand.tmp 172, Operand.tmp 173], argTypes := #[25, 25] }, type := 3, pos := "outright.go:31", after := #[{ on := 35, ground := Ground.data }, { on := 36, ground := Ground.data }, { on := 34, ground := Ground.chain }, { on := 31, ground := Ground.guard }], guard := some (31, true) } = o := Option.some.inj (show ring17lOps[37]? = some _ from ho)
    obtain ⟨t31, g31⟩ := dep 31 (by kernel_rfl)
    have q31 := t31 168 (by rfl)
    have e31 := eval_at q31
    have v31 : f 31 = .bool true := g31
    have hw := wanted_some (ops := ring17lOps) (o := { dst := some 174, op := Op.call { callee := Callee.value (Operand.func 16), args := #[Operand.tmp 172, Operand.tmp 173], argTypes := #[25, 25] }, type := 3, pos := "outright.go:31", after := #[{ on := 35, ground := Ground.data }, { on := 36, ground := Ground.data }, { on := 34, ground := Ground.chain }, { on := 31, ground := Ground.guard }], guard := some (31, true) }) (a := a) (j := 31) (s := 168) (b := true) (c := true) rfl (by rfl) (by rw [← v31]; exact q31)
    obtain ⟨t35, g35⟩ := dep 35 (by kernel_rfl)
    have q35 := t35 172 (by rfl)
    have e35 := eval_at q35
    obtain ⟨t36, g36⟩ := dep 36 (by kernel_rfl)
    have q36 := t36 173 (by rfl)
    have e36 := eval_at q36
    refine inv_call (G := Kd.ok z (ring17lK A B C 37)) (R := fun x y => Below x.heap.size x y) (hw.trans (by decide)) (F := 16) (args := #[f 35, f 36]) (by simp [go_sem, q35, q36]) hK ?_
    exact (by have h := k_cmp (z := z) g35 g36; rw [O3] at h; exact h)
  | 38, _ =>
    obtain rfl : { dst := some 175, op := Op.unOp UnOp.neg 3 (Operand.tmp 174), type := 3, pos := "outright.go:31", after := #[{ on := 37, ground := Ground.data }, { on := 31, ground := Ground.guard }], guard := some (31, true) } = o := Option.some.inj (show ring17lOps[38]? = some _ from ho)
    obtain ⟨t31, g31⟩ := dep 31 (by kernel_rfl)
    have q31 := t31 168 (by rfl)
    have e31 := eval_at q31
    have v31 : f 31 = .bool true := g31
    have hw := wanted_some (ops := ring17lOps) (o := { dst := some 175, op := Op.unOp UnOp.neg 3 (Operand.tmp 174), type := 3, pos := "outright.go:31", after := #[{ on := 37, ground := Ground.data }, { on := 31, ground := Ground.guard }], guard := some (31, true) }) (a := a) (j := 31) (s := 168) (b := true) (c := true) rfl (by rfl) (by rw [← v31]; exact q31)
    obtain ⟨t37, g37⟩ := dep 37 (by kernel_rfl)
    have q37 := t37 174 (by rfl)
    have e37 := eval_at q37
    have w31 : f 31 = (.bool true) := g31
    have w37 : f 37 = (.int .i64 (1)) := g37
    rw [w37] at e37
    refine inv_val (G := Kd.ok z (ring17lK A B C 38)) (R := fun x y => Below x.heap.size x y) (hw.trans (by decide)) (v := (.int .i64 (-1))) (w2 := x) (by simp only [execOp, e37]; go_simp <;> decide) hK rfl (Below.refl _ _)
  | 39, _ =>
    obtain rfl : { dst := some 176, op := Op.binOp BinOp.eql 3 (Operand.tmp 171) (Operand.tmp 175) 3, type := 4, pos := "outright.go:31", after := #[{ on := 34, ground := Ground.data }, { on := 38, ground := Ground.data }, { on := 31, ground := Ground.guard }], guard := some (31, true) } = o := Option.some.inj (show ring17lOps[39]? = some _ from ho)
    obtain ⟨t31, g31⟩ := dep 31 (by kernel_rfl)
    have q31 := t31 168 (by rfl)
    have e31 := eval_at q31
    have v31 : f 31 = .bool true := g31
    have hw := wanted_some (ops := ring17lOps) (o := { dst := some 176, op := Op.binOp BinOp.eql 3 (Operand.tmp 171) (Operand.tmp 175) 3, type := 4, pos := "outright.go:31", after := #[{ on := 34, ground := Ground.data }, { on := 38, ground := Ground.data }, { on := 31, ground := Ground.guard }], guard := some (31, true) }) (a := a) (j := 31) (s := 168) (b := true) (c := true) rfl (by rfl) (by rw [← v31]; exact q31)
    obtain ⟨t34, g34⟩ := dep 34 (by kernel_rfl)
    have q34 := t34 171 (by rfl)
    have e34 := eval_at q34
    obtain ⟨t38, g38⟩ := dep 38 (by kernel_rfl)
    have q38 := t38 175 (by rfl)
    have e38 := eval_at q38
    have w31 : f 31 = (.bool true) := g31
    have w34 : f 34 = (.int .i64 (-1)) := g34
    have w38 : f 38 = (.int .i64 (-1)) := g38
    rw [w34] at e34
    rw [w38] at e38
    refine inv_val (G := Kd.ok z (ring17lK A B C 39)) (R := fun x y => Below x.heap.size x y) (hw.trans (by decide)) (v := (.bool true)) (w2 := x) (by simp only [execOp, e34, e38]; go_simp) hK rfl (Below.refl _ _)
  | 40, _ =>
    obtain rfl : { dst := some 177, op := Op.pick (Operand.tmp 168) (Operand.tmp 176) (Operand.const (Value.bool false)), type := 4, pos := "outright.go:31", after := #[{ on := 31, ground := Ground.data }, { on := 39, ground := Ground.data }], guard := none } = o := Option.some.inj (show ring17lOps[40]? = some _ from ho)
    obtain ⟨t31, g31⟩ := dep 31 (by kernel_rfl)
    have q31 := t31 168 (by rfl)
    have e31 := eval_at q31
    obtain ⟨t39, g39⟩ := dep 39 (by kernel_rfl)
    have q39 := t39 176 (by rfl)
    have e39 := eval_at q39
    have w31 : f 31 = (.bool true) := g31
    have w39 : f 39 = (.bool true) := g39
    rw [w31] at e31
    rw [w39] at e39
    refine inv_val (G := Kd.ok z (ring17lK A B C 40)) (R := fun x y => Below x.heap.size x y) (wanted_none rfl) (v := (.bool true)) (w2 := x) (by simp only [execOp, e31, e39]; go_simp) hK rfl (Below.refl _ _)
  | 41, _ =>
    obtain rfl : { dst := some 178, op := Op.move (Operand.tmp 177), type := 4, pos := "outright.go:31", after := #[{ on := 40, ground := Ground.data }, { on := 37, ground := Ground.chain }], guard := none } = o := Option.some.inj (show ring17lOps[41]? = some _ from ho)
    obtain ⟨t40, g40⟩ := dep 40 (by kernel_rfl)
    have q40 := t40 177 (by rfl)
    have e40 := eval_at q40
    have w40 : f 40 = (.bool true) := g40
    rw [w40] at e40
    refine inv_val (G := Kd.ok z (ring17lK A B C 41)) (R := fun x y => Below x.heap.size x y) (wanted_none rfl) (v := (.bool true)) (w2 := x) (by simp only [execOp, e40]; go_simp) hK rfl (Below.refl _ _)
  | 42, _ =>
    obtain rfl : { dst := some 179, op := Op.load 25 (Operand.tmp 3), type := 25, pos := "outright.go:31", after := #[{ on := 41, ground := Ground.guard }], guard := some (41, true) } = o := Option.some.inj (show ring17lOps[42]? = some _ from ho)
    obtain ⟨t41, g41⟩ := dep 41 (by kernel_rfl)
    have q41 := t41 178 (by rfl)
    have e41 := eval_at q41
    have v41 : f 41 = .bool true := g41
    have hw := wanted_some (ops := ring17lOps) (o := { dst := some 179, op := Op.load 25 (Operand.tmp 3), type := 25, pos := "outright.go:31", after := #[{ on := 41, ground := Ground.guard }], guard := some (41, true) }) (a := a) (j := 41) (s := 178) (b := true) (c := true) rfl (by rfl) (by rw [← v41]; exact q41)
    have qb3 := (bas 3 (by kernel_rfl)).trans h3
    have eb3 := eval_at qb3
    obtain ⟨xc, hc, hk⟩ := C3.below hR
    refine inv_val (G := Kd.ok z (ring17lK A B C 42)) (R := fun x y => Below x.heap.size x y) (hw.trans (by decide)) (v := .agg #[xc]) (w2 := x) (by simp only [execOp, eb3]; go_simp) hK hk (Below.refl _ _)
  | 43, _ =>
    obtain rfl : { dst := some 180, op := Op.load 25 (Operand.tmp 4), type := 25, pos := "outright.go:31", after := #[{ on := 41, ground := Ground.guard }], guard := some (41, true) } = o := Option.some.inj (show ring17lOps[43]? = some _ from ho)
    obtain ⟨t41, g41⟩ := dep 41 (by kernel_rfl)
    have q41 := t41 178 (by rfl)
    have e41 := eval_at q41
    have v41 : f 41 = .bool true := g41
    have hw := wanted_some (ops := ring17lOps) (o := { dst := some 180, op := Op.load 25 (Operand.tmp 4), type := 25, pos := "outright.go:31", after := #[{ on := 41, ground := Ground.guard }], guard := some (41, true) }) (a := a) (j := 41) (s := 178) (b := true) (c := true) rfl (by rfl) (by rw [← v41]; exact q41)
    have qb4 := (bas 4 (by kernel_rfl)).trans h4
    have eb4 := eval_at qb4
    obtain ⟨xc, hc, hk⟩ := C4.below hR
    refine inv_val (G := Kd.ok z (ring17lK A B C 43)) (R := fun x y => Below x.heap.size x y) (hw.trans (by decide)) (v := .agg #[xc]) (w2 := x) (by simp only [execOp, eb4]; go_simp) hK hk (Below.refl _ _)
  | 44, _ =>
    obtain rfl : { dst := some 181, op := Op.call { callee := Callee.value (Operand.func 16), args := #[Operand.tmp 179, Operand.tmp 180], argTypes := #[25, 25] }, type := 3, pos := "outright.go:31", after := #[{ on := 42, ground := Ground.data }, { on := 43, ground := Ground.data }, { on := 41, ground := Ground.chain }, { on := 41, ground := Ground.guard }], guard := some (41, true) } = o := Option.some.inj (show ring17lOps[44]? = some _ from ho)
    obtain ⟨t41, g41⟩ := dep 41 (by kernel_rfl)
    have q41 := t41 178 (by rfl)
    have e41 := eval_at q41
    have v41 : f 41 = .bool true := g41
    have hw := wanted_some (ops := ring17lOps) (o := { dst := some 181, op := Op.call { callee := Callee.value (Operand.func 16), args := #[Operand.tmp 179, Operand.tmp 180], argTypes := #[25, 25] }, type := 3, pos := "outright.go:31", after := #[{ on := 42, ground := Ground.data }, { on := 43, ground := Ground.data }, { on := 41, ground := Ground.chain }, { on := 41, ground := Ground.guard }], guard := some (41, true) }) (a := a) (j := 41) (s := 178) (b := true) (c := true) rfl (by rfl) (by rw [← v41]; exact q41)
    obtain ⟨t42, g42⟩ := dep 42 (by kernel_rfl)
    have q42 := t42 179 (by rfl)
    have e42 := eval_at q42
    obtain ⟨t43, g43⟩ := dep 43 (by kernel_rfl)
    have q43 := t43 180 (by rfl)
    have e43 := eval_at q43
    refine inv_call (G := Kd.ok z (ring17lK A B C 44)) (R := fun x y => Below x.heap.size x y) (hw.trans (by decide)) (F := 16) (args := #[f 42, f 43]) (by simp [go_sem, q42, q43]) hK ?_
    exact (by have h := k_cmp (z := z) g42 g43; rw [O1] at h; exact h)
  | 45, _ =>
    obtain rfl : { dst := some 182, op := Op.binOp BinOp.neq 3 (Operand.tmp 181) (Operand.const (Value.int IntKind.i64 0)) 3, type := 4, pos := "outright.go:31", after := #[{ on := 44, ground := Ground.data }, { on := 41, ground := Ground.guard }], guard := some (41, true) } = o := Option.some.inj (show ring17lOps[45]? = some _ from ho)
    obtain ⟨t41, g41⟩ := dep 41 (by kernel_rfl)
    have q41 := t41 178 (by rfl)
    have e41 := eval_at q41
    have v41 : f 41 = .bool true := g41
    have hw := wanted_some (ops := ring17lOps) (o := { dst := some 182, op := Op.binOp BinOp.neq 3 (Operand.tmp 181) (Operand.const (Value.int IntKind.i64 0)) 3, type := 4, pos := "outright.go:31", after := #[{ on := 44, ground := Ground.data }, { on := 41, ground := Ground.guard }], guard := some (41, true) }) (a := a) (j := 41) (s := 178) (b := true) (c := true) rfl (by rfl) (by rw [← v41]; exact q41)
    obtain ⟨t44, g44⟩ := dep 44 (by kernel_rfl)
    have q44 := t44 181 (by rfl)
    have e44 := eval_at q44
    have w41 : f 41 = (.bool true) := g41
    have w44 : f 44 = (.int .i64 (-1)) := g44
    rw [w44] at e44
    refine inv_val (G := Kd.ok z (ring17lK A B C 45)) (R := fun x y => Below x.heap.size x y) (hw.trans (by decide)) (v := (.bool true)) (w2 := x) (by simp only [execOp, e44]; go_simp) hK rfl (Below.refl _ _)
  | 46, _ =>
    obtain rfl : { dst := some 183, op := Op.move (Operand.tmp 182), type := 4, pos := "outright.go:31", after := #[{ on := 45, ground := Ground.data }, { on := 44, ground := Ground.chain }, { on := 41, ground := Ground.guard }], guard := some (41, true) } = o := Option.some.inj (show ring17lOps[46]? = some _ from ho)
    obtain ⟨t41, g41⟩ := dep 41 (by kernel_rfl)
    have q41 := t41 178 (by rfl)
    have e41 := eval_at q41
    have v41 : f 41 = .bool true := g41
    have hw := wanted_some (ops := ring17lOps) (o := { dst := some 183, op := Op.move (Operand.tmp 182), type := 4, pos := "outright.go:31", after := #[{ on := 45, ground := Ground.data }, { on := 44, ground := Ground.chain }, { on := 41, ground := Ground.guard }], guard := some (41, true) }) (a := a) (j := 41) (s := 178) (b := true) (c := true) rfl (by rfl) (by rw [← v41]; exact q41)
    obtain ⟨t45, g45⟩ := dep 45 (by kernel_rfl)
    have q45 := t45 182 (by rfl)
    have e45 := eval_at q45
    have w41 : f 41 = (.bool true) := g41
    have w45 : f 45 = (.bool true) := g45
    rw [w45] at e45
    refine inv_val (G := Kd.ok z (ring17lK A B C 46)) (R := fun x y => Below x.heap.size x y) (hw.trans (by decide)) (v := (.bool true)) (w2 := x) (by simp only [execOp, e45]; go_simp) hK rfl (Below.refl _ _)
  | 47, _ =>
    obtain rfl : { dst := some 184, op := Op.load 25 (Operand.tmp 3), type := 25, pos := "outright.go:31", after := #[{ on := 46, ground := Ground.guard }], guard := some (46, false) } = o := Option.some.inj (show ring17lOps[47]? = some _ from ho)
    obtain ⟨t46, g46⟩ := dep 46 (by kernel_rfl)
    have q46 := t46 183 (by rfl)
    have e46 := eval_at q46
    have v46 : f 46 = .bool true := g46
    have hw := wanted_some (ops := ring17lOps) (o := { dst := some 184, op := Op.load 25 (Operand.tmp 3), type := 25, pos := "outright.go:31", after := #[{ on := 46, ground := Ground.guard }], guard := some (46, false) }) (a := a) (j := 46) (s := 183) (b := false) (c := true) rfl (by rfl) (by rw [← v46]; exact q46)
    exact inv_left (G := Kd.ok z (ring17lK A B C 47)) (R := fun x y => Below x.heap.size x y) (hw.trans (by decide)) hK rfl (Below.refl _ _)
  | 48, _ =>
    obtain rfl : { dst := some 185, op := Op.call { callee := Callee.value (Operand.func 13), args := #[Operand.tmp 184], argTypes := #[25] }, type := 9, pos := "outright.go:31", after := #[{ on := 47, ground := Ground.data }, { on := 46, ground := Ground.chain }, { on := 46, ground := Ground.guard }], guard := some (46, false) } = o := Option.some.inj (show ring17lOps[48]? = some _ from ho)
    obtain ⟨t46, g46⟩ := dep 46 (by kernel_rfl)
    have q46 := t46 183 (by rfl)
    have e46 := eval_at q46
    have v46 : f 46 = .bool true := g46
    have hw := wanted_some (ops := ring17lOps) (o := { dst := some 185, op := Op.call { callee := Callee.value (Operand.func 13), args := #[Operand.tmp 184], argTypes := #[25] }, type := 9, pos := "outright.go:31", after := #[{ on := 47, ground := Ground.data }, { on := 46, ground := Ground.chain }, { on := 46, ground := Ground.guard }], guard := some (46, false) }) (a := a) (j := 46) (s := 183) (b := false) (c := true) rfl (by rfl) (by rw [← v46]; exact q46)
    exact inv_left (G := Kd.ok z (ring17lK A B C 48)) (R := fun x y => Below x.heap.size x y) (hw.trans (by decide)) hK rfl (Below.refl _ _)
  | 49, _ =>
    obtain rfl : { dst := some 186, op := Op.load 25 (Operand.tmp 4), type := 25, pos := "outright.go:31", after := #[{ on := 46, ground := Ground.guard }], guard := some (46, false) } = o := Option.some.inj (show ring17lOps[49]? = some _ from ho)
    obtain ⟨t46, g46⟩ := dep 46 (by kernel_rfl)
    have q46 := t46 183 (by rfl)
    have e46 := eval_at q46
    have v46 : f 46 = .bool true := g46
    have hw := wanted_some (ops := ring17lOps) (o := { dst := some 186, op := Op.load 25 (Operand.tmp 4), type := 25, pos := "outright.go:31", after := #[{ on := 46, ground := Ground.guard }], guard := some (46, false) }) (a := a) (j := 46) (s := 183) (b := false) (c := true) rfl (by rfl) (by rw [← v46]; exact q46)
    exact inv_left (G := Kd.ok z (ring17lK A B C 49)) (R := fun x y => Below x.heap.size x y) (hw.trans (by decide)) hK rfl (Below.refl _ _)
  | 50, _ =>
    obtain rfl : { dst := some 187, op := Op.call { callee := Callee.value (Operand.func 13), args := #[Operand.tmp 186], argTypes := #[25] }, type := 9, pos := "outright.go:31", after := #[{ on := 49, ground := Ground.data }, { on := 48, ground := Ground.chain }, { on := 46, ground := Ground.guard }], guard := some (46, false) } = o := Option.some.inj (show ring17lOps[50]? = some _ from ho)
    obtain ⟨t46, g46⟩ := dep 46 (by kernel_rfl)
    have q46 := t46 183 (by rfl)
    have e46 := eval_at q46
    have v46 : f 46 = .bool true := g46
    have hw := wanted_some (ops := ring17lOps) (o := { dst := some 187, op := Op.call { callee := Callee.value (Operand.func 13), args := #[Operand.tmp 186], argTypes := #[25] }, type := 9, pos := "outright.go:31", after := #[{ on := 49, ground := Ground.data }, { on := 48, ground := Ground.chain }, { on := 46, ground := Ground.guard }], guard := some (46, false) }) (a := a) (j := 46) (s := 183) (b := false) (c := true) rfl (by rfl) (by rw [← v46]; exact q46)
    exact inv_left (G := Kd.ok z (ring17lK A B C 50)) (R := fun x y => Below x.heap.size x y) (hw.trans (by decide)) hK rfl (Below.refl _ _)
  | 51, _ =>
    obtain rfl : { dst := some 188, op := Op.binOp BinOp.eql 9 (Operand.tmp 185) (Operand.tmp 187) 9, type := 4, pos := "outright.go:31", after := #[{ on := 48, ground := Ground.data }, { on := 50, ground := Ground.data }, { on := 46, ground := Ground.guard }], guard := some (46, false) } = o := Option.some.inj (show ring17lOps[51]? = some _ from ho)
    obtain ⟨t46, g46⟩ := dep 46 (by kernel_rfl)
    have q46 := t46 183 (by rfl)
    have e46 := eval_at q46
    have v46 : f 46 = .bool true := g46
    have hw := wanted_some (ops := ring17lOps) (o := { dst := some 188, op := Op.binOp BinOp.eql 9 (Operand.tmp 185) (Operand.tmp 187) 9, type := 4, pos := "outright.go:31", after := #[{ on := 48, ground := Ground.data }, { on := 50, ground := Ground.data }, { on := 46, ground := Ground.guard }], guard := some (46, false) }) (a := a) (j := 46) (s := 183) (b := false) (c := true) rfl (by rfl) (by rw [← v46]; exact q46)
    exact inv_left (G := Kd.ok z (ring17lK A B C 51)) (R := fun x y => Below x.heap.size x y) (hw.trans (by decide)) hK rfl (Below.refl _ _)
  | 52, _ =>
    obtain rfl : { dst := some 189, op := Op.pick (Operand.tmp 183) (Operand.const (Value.bool true)) (Operand.tmp 188), type := 4, pos := "outright.go:31", after := #[{ on := 46, ground := Ground.data }, { on := 51, ground := Ground.data }, { on := 41, ground := Ground.guard }], guard := some (41, true) } = o := Option.some.inj (show ring17lOps[52]? = some _ from ho)
    obtain ⟨t41, g41⟩ := dep 41 (by kernel_rfl)
    have q41 := t41 178 (by rfl)
    have e41 := eval_at q41
    have v41 : f 41 = .bool true := g41
    have hw := wanted_some (ops := ring17lOps) (o := { dst := some 189, op := Op.pick (Operand.tmp 183) (Operand.const (Value.bool true)) (Operand.tmp 188), type := 4, pos := "outright.go:31", after := #[{ on := 46, ground := Ground.data }, { on := 51, ground := Ground.data }, { on := 41, ground := Ground.guard }], guard := some (41, true) }) (a := a) (j := 41) (s := 178) (b := true) (c := true) rfl (by rfl) (by rw [← v41]; exact q41)
    obtain ⟨t46, g46⟩ := dep 46 (by kernel_rfl)
    have q46 := t46 183 (by rfl)
    have e46 := eval_at q46
    obtain ⟨t51, g51⟩ := dep 51 (by kernel_rfl)
    have q51 := t51 188 (by rfl)
    have e51 := eval_at q51
    have w41 : f 41 = (.bool true) := g41
    have w46 : f 46 = (.bool true) := g46
    have w51 : f 51 = undef := g51
    rw [w46] at e46
    refine inv_val (G := Kd.ok z (ring17lK A B C 52)) (R := fun x y => Below x.heap.size x y) (hw.trans (by decide)) (v := (.bool true)) (w2 := x) (by simp only [execOp, e46, e51]; go_simp) hK rfl (Below.refl _ _)
  | 53, _ =>
    obtain rfl : { dst := some 190, op := Op.pick (Operand.tmp 178) (Operand.tmp 189) (Operand.const (Value.bool false)), type := 4, pos := "outright.go:31", after := #[{ on := 41, ground := Ground.data }, { on := 52, ground := Ground.data }], guard := none } = o := Option.some.inj (show ring17lOps[53]? = some _ from ho)
    obtain ⟨t41, g41⟩ := dep 41 (by kernel_rfl)
    have q41 := t41 178 (by rfl)
    have e41 := eval_at q41
    obtain ⟨t52, g52⟩ := dep 52 (by kernel_rfl)
    have q52 := t52 189 (by rfl)
    have e52 := eval_at q52
    have w41 : f 41 = (.bool true) := g41
    have w52 : f 52 = (.bool true) := g52
    rw [w41] at e41
    rw [w52] at e52
    refine inv_val (G := Kd.ok z (ring17lK A B C 53)) (R := fun x y => Below x.heap.size x y) (wanted_none rfl) (v := (.bool true)) (w2 := x) (by simp only [execOp, e41, e52]; go_simp) hK rfl (Below.refl _ _)
  | 54, _ =>
    obtain rfl : { dst := some 6, op := Op.assign (Operand.tmp 190), type := 4, pos := "outright.go:31", after := #[{ on := 53, ground := Ground.data }, { on := 50, ground := Ground.chain }, { on := 0, ground := Ground.phase }, { on := 1, ground := Ground.phase }, { on := 2, ground := Ground.phase }, { on := 3, ground := Ground.phase }, { on := 4, ground := Ground.phase }, { on := 5, ground := Ground.phase }, { on := 6, ground := Ground.phase }, { on := 7, ground := Ground.phase }, { on := 8, ground := Ground.phase }, { on := 9, ground := Ground.phase }, { on := 10, ground := Ground.phase }, { on := 11, ground := Ground.phase }, { on := 12, ground := Ground.phase }, { on := 13, ground := Ground.phase }, { on := 14, ground := Ground.phase }, { on := 15, ground := Ground.phase }, { on := 16, ground := Ground.phase }, { on := 17, ground := Ground.phase }, { on := 18, ground := Ground.phase }, { on := 19, ground := Ground.phase }, { on := 20, ground := Ground.phase }, { on := 21, ground := Ground.phase }, { on := 22, ground := Ground.phase }, { on := 23, ground := Ground.phase }, { on := 24, ground := Ground.phase }, { on := 25, ground := Ground.phase }, { on := 26, ground := Ground.phase }, { on := 27, ground := Ground.phase }, { on := 28, ground := Ground.phase }, { on := 29, ground := Ground.phase }, { on := 30, ground := Ground.phase }, { on := 31, ground := Ground.phase }, { on := 32, ground := Ground.phase }, { on := 33, ground := Ground.phase }, { on := 34, ground := Ground.phase }, { on := 35, ground := Ground.phase }, { on := 36, ground := Ground.phase }, { on := 37, ground := Ground.phase }, { on := 38, ground := Ground.phase }, { on := 39, ground := Ground.phase }, { on := 40, ground := Ground.phase }, { on := 41, ground := Ground.phase }, { on := 42, ground := Ground.phase }, { on := 43, ground := Ground.phase }, { on := 44, ground := Ground.phase }, { on := 45, ground := Ground.phase }, { on := 46, ground := Ground.phase }, { on := 47, ground := Ground.phase }, { on := 48, ground := Ground.phase }, { on := 49, ground := Ground.phase }, { on := 50, ground := Ground.phase }, { on := 51, ground := Ground.phase }, { on := 52, ground := Ground.phase }, { on := 53, ground := Ground.phase }], guard := none } = o := Option.some.inj (show ring17lOps[54]? = some _ from ho)
    obtain ⟨t53, g53⟩ := dep 53 (by kernel_rfl)
    have q53 := t53 190 (by rfl)
    have e53 := eval_at q53
    have w53 : f 53 = (.bool true) := g53
    rw [w53] at e53
    refine inv_val (G := Kd.ok z (ring17lK A B C 54)) (R := fun x y => Below x.heap.size x y) (wanted_none rfl) (v := (.bool true)) (w2 := x) (by simp only [execOp, e53]; go_simp) hK rfl (Below.refl _ _)
def ring17eOps : Array Oper := #[{ dst := some 137, op := Op.move (Operand.tmp 14), type := 4, pos := "outright.go:31", after := #[], guard := none },
  { dst := some 138, op := Op.move (Operand.tmp 137), type := 4, pos := "outright.go:31", after := #[{ on := 0, ground := Ground.data }], guard := none },
  { dst := some 139, op := Op.load 25 (Operand.tmp 13), type := 25, pos := "outright.go:31", after := #[{ on := 1, ground := Ground.guard }], guard := some (1, true) },
  { dst := some 140, op := Op.load 25 (Operand.tmp 3), type := 25, pos := "outright.go:31", after := #[{ on := 1, ground := Ground.guard }], guard := some (1, true) },
  { dst := some 141, op := Op.buildSlice 32 1 #[(0, Operand.tmp 140)], type := 32, pos := "outright.go:31", after := #[{ on := 3, ground := Ground.data }, { on := 1, ground := Ground.guard }], guard := some (1, true) },
  { dst := some 142, op := Op.call { callee := Callee.value (Operand.func 11), args := #[Operand.tmp 141], argTypes := #[32] }, type := 25, pos := "outright.go:31", after := #[{ on := 4, ground := Ground.data }, { on := 1, ground := Ground.chain }, { on := 1, ground := Ground.guard }], guard := some (1, true) },
  { dst := some 143, op := Op.call { callee := Callee.value (Operand.func 9), args := #[Operand.tmp 139, Operand.tmp 142], argTypes := #[25, 25] }, type := 4, pos := "outright.go:31", after := #[{ on := 2, ground := Ground.data }, { on := 5, ground := Ground.data }, { on := 5, ground := Ground.chain }, { on := 1, ground := Ground.guard }], guard := some (1, true) },
  { dst := some 144, op := Op.pick (Operand.tmp 138) (Operand.tmp 143) (Operand.const (Value.bool false)), type := 4, pos := "outright.go:31", after := #[{ on := 1, ground := Ground.data }, { on := 6, ground := Ground.data }], guard := none },
  { dst := some 145, op := Op.move (Operand.tmp 144), type := 4, pos := "outright.go:31", after := #[{ on := 7, ground := Ground.data }, { on := 6, ground := Ground.chain }], guard := none },
  { dst := some 146, op := Op.move (Operand.tmp 16), type := 4, pos := "outright.go:31", after := #[{ on := 8, ground := Ground.guard }], guard := some (8, true) },
  { dst := some 147, op := Op.load 25 (Operand.tmp 3), type := 25, pos := "outright.go:31", after := #[{ on := 8, ground := Ground.guard }], guard := some (8, true) },
  { dst := some 148, op := Op.load 25 (Operand.tmp 4), type := 25, pos := "outright.go:31", after := #[{ on := 8, ground := Ground.guard }], guard := some (8, true) },
  { dst := some 149, op := Op.call { callee := Callee.value (Operand.func 16), args := #[Operand.tmp 147, Operand.tmp 148], argTypes := #[25, 25] }, type := 3, pos := "outright.go:31", after := #[{ on := 10, ground := Ground.data }, { on := 11, ground := Ground.data }, { on := 8, ground := Ground.chain }, { on := 8, ground := Ground.guard }], guard := some (8, true) },
  { dst := some 150, op := Op.binOp BinOp.geq 3 (Operand.tmp 149) (Operand.const (Value.int IntKind.i64 0)) 3, type := 4, pos := "outright.go:31", after := #[{ on := 12, ground := Ground.data }, { on := 8, ground := Ground.guard }], guard := some (8, true) },
  { dst := some 151, op := Op.binOp BinOp.eql 4 (Operand.tmp 146) (Operand.tmp 150) 4, type := 4, pos := "outright.go:31", after := #[{ on := 9, ground := Ground.data }, { on := 13, ground := Ground.data }, { on := 8, ground := Ground.guard }], guard := some (8, true) },
  { dst := some 152, op := Op.pick (Operand.tmp 145) (Operand.tmp 151) (Operand.const (Value.bool false)), type := 4, pos := "outright.go:31", after := #[{ on := 8, ground := Ground.data }, { on := 14, ground := Ground.data }], guard := none },
  { dst := some 153, op := Op.move (Operand.tmp 152), type := 4, pos := "outright.go:31", after := #[{ on := 15, ground := Ground.data }, { on := 12, ground := Ground.chain }], guard := none },
  { dst := some 154, op := Op.load 25 (Operand.tmp 3), type := 25, pos := "outright.go:31", after := #[{ on := 16, ground := Ground.guard }], guard := some (16, true) },
  { dst := some 155, op := Op.load 25 (Operand.tmp 4), type := 25, pos := "outright.go:31", after := #[{ on := 16, ground := Ground.guard }], guard := some (16, true) },
  { dst := some 156, op := Op.call { callee := Callee.value (Operand.func 16), args := #[Operand.tmp 154, Operand.tmp 155], argTypes := #[25, 25] }, type := 3, pos := "outright.go:31", after := #[{ on := 17, ground := Ground.data }, { on := 18, ground := Ground.data }, { on := 16, ground := Ground.chain }, { on := 16, ground := Ground.guard }], guard := some (16, true) },
  { dst := some 157, op := Op.load 25 (Operand.tmp 3), type := 25, pos := "outright.go:31", after := #[{ on := 16, ground := Ground.guard }], guard := some (16, true) },
  { dst := some 158, op := Op.load 25 (Operand.tmp 5), type := 25, pos := "outright.go:31", after := #[{ on := 16, ground := Ground.guard }], guard := some (16, true) },
  { dst := some 159, op := Op.buildSlice 32 2 #[(0, Operand.tmp 157), (1, Operand.tmp 158)], type := 32, pos := "outright.go:31", after := #[{ on := 20, ground := Ground.data }, { on := 21, ground := Ground.data }, { on := 16, ground := Ground.guard }], guard := some (16, true) },
  { dst := some 160, op := Op.call { callee := Callee.value (Operand.func 11), args := #[Operand.tmp 159], argTypes := #[32] }, type := 25, pos := "outright.go:31", after := #[{ on := 22, ground := Ground.data }, { on := 19, ground := Ground.chain }, { on := 16, ground := Ground.guard }], guard := some (16, true) },
  { dst := some 161, op := Op.load 25 (Operand.tmp 4), type := 25, pos := "outright.go:31", after := #[{ on := 16, ground := Ground.guard }], guard := some (16, true) },
  { dst := some 162, op := Op.load 25 (Operand.tmp 5), type := 25, pos := "outright.go:31", after := #[{ on := 16, ground := Ground.guard }], guard := some (16, true) },
  { dst := some 163, op := Op.buildSlice 32 2 #[(0, Operand.tmp 161), (1, Operand.tmp 162)], type := 32, pos := "outright.go:31", after := #[{ on := 24, ground := Ground.data }, { on := 25, ground := Ground.data }, { on := 16, ground := Ground.guard }], guard := some (16, true) },
  { dst := some 164, op := Op.call { callee := Callee.value (Operand.func 11), args := #[Operand.tmp 163], argTypes := #[32] }, type := 25, pos := "outright.go:31", after := #[{ on := 26, ground := Ground.data }, { on := 23, ground := Ground.chain }, { on := 16, ground := Ground.guard }], guard := some (16, true) },
  { dst := some 165, op := Op.call { callee := Callee.value (Operand.func 16), args := #[Operand.tmp 160, Operand.tmp 164], argTypes := #[25, 25] }, type := 3, pos := "outright.go:31", after := #[{ on := 23, ground := Ground.data }, { on := 27, ground := Ground.data }, { on := 27, ground := Ground.chain }, { on := 16, ground := Ground.guard }], guard := some (16, true) },
  { dst := some 166, op := Op.binOp BinOp.eql 3 (Operand.tmp 156) (Operand.tmp 165) 3, type := 4, pos := "outright.go:31", after := #[{ on := 19, ground := Ground.data }, { on := 28, ground := Ground.data }, { on := 16, ground := Ground.guard }], guard := some (16, true) },
  { dst := some 167, op := Op.pick (Operand.tmp 153) (Operand.tmp 166) (Operand.const (Value.bool false)), type := 4, pos := "outright.go:31", after := #[{ on := 16, ground := Ground.data }, { on := 29, ground := Ground.data }], guard := none },
  { dst := some 168, op := Op.move (Operand.tmp 167), type := 4, pos := "outright.go:31", after := #[{ on := 30, ground := Ground.data }, { on := 28, ground := Ground.chain }], guard := none },
  { dst := some 169, op := Op.load 25 (Operand.tmp 3), type := 25, pos := "outright.go:31", after := #[{ on := 31, ground := Ground.guard }], guard := some (31, true) },
  { dst := some 170, op := Op.load 25 (Operand.tmp 4), type := 25, pos := "outright.go:31", after := #[{ on := 31, ground := Ground.guard }], guard := some (31, true) },
  { dst := some 171, op := Op.call { callee := Callee.value (Operand.func 16), args := #[Operand.tmp 169, Operand.tmp 170], argTypes := #[25, 25] }, type := 3, pos := "outright.go:31", after := #[{ on := 32, ground := Ground.data }, { on := 33, ground := Ground.data }, { on := 31, ground := Ground.chain }, { on := 31, ground := Ground.guard }], guard := some (31, true) },
  { dst := some 172, op := Op.load 25 (Operand.tmp 4), type := 25, pos := "outright.go:31", after := #[{ on := 31, ground := Ground.guard }], guard := some (31, true) },
  { dst := some 173, op := Op.load 25 (Operand.tmp 3), type := 25, pos := "outright.go:31", after := #[{ on := 31, ground := Ground.guard }], guard := some (31, true) },
  { dst := some 174, op := Op.call { callee := Callee.value (Operand.func 16), args := #[Operand.tmp 172, Operand.tmp 173], argTypes := #[25, 25] }, type := 3, pos := "outright.go:31", after := #[{ on := 35, ground := Ground.data }, { on := 36, ground := Ground.data }, { on := 34, ground := Ground.chain }, { on := 31, ground := Ground.guard }], guard := some (31, true) },
  { dst := some 175, op := Op.unOp UnOp.neg 3 (Operand.tmp 174), type := 3, pos := "outright.go:31", after := #[{ on := 37, ground := Ground.data }, { on := 31, ground := Ground.guard }], guard := some (31, true) },
  { dst := some 176, op := Op.binOp BinOp.eql 3 (Operand.tmp 171) (Operand.tmp 175) 3, type := 4, pos := "outright.go:31", after := #[{ on := 34, ground := Ground.data }, { on := 38, ground := Ground.data }, { on := 31, ground := Ground.guard }], guard := some (31, true) },
  { dst := some 177, op := Op.pick (Operand.tmp 168) (Operand.tmp 176) (Operand.const (Value.bool false)), type := 4, pos := "outright.go:31", after := #[{ on := 31, ground := Ground.data }, { on := 39, ground := Ground.data }], guard := none },
  { dst := some 178, op := Op.move (Operand.tmp 177), type := 4, pos := "outright.go:31", after := #[{ on := 40, ground := Ground.data }, { on := 37, ground := Ground.chain }], guard := none },
  { dst := some 179, op := Op.load 25 (Operand.tmp 3), type := 25, pos := "outright.go:31", after := #[{ on := 41, ground := Ground.guard }], guard := some (41, true) },
  { dst := some 180, op := Op.load 25 (Operand.tmp 4), type := 25, pos := "outright.go:31", after := #[{ on := 41, ground := Ground.guard }], guard := some (41, true) },
  { dst := some 181, op := Op.call { callee := Callee.value (Operand.func 16), args := #[Operand.tmp 179, Operand.tmp 180], argTypes := #[25, 25] }, type := 3, pos := "outright.go:31", after := #[{ on := 42, ground := Ground.data }, { on := 43, ground := Ground.data }, { on := 41, ground := Ground.chain }, { on := 41, ground := Ground.guard }], guard := some (41, true) },
  { dst := some 182, op := Op.binOp BinOp.neq 3 (Operand.tmp 181) (Operand.const (Value.int IntKind.i64 0)) 3, type := 4, pos := "outright.go:31", after := #[{ on := 44, ground := Ground.data }, { on := 41, ground := Ground.guard }], guard := some (41, true) },
  { dst := some 183, op := Op.move (Operand.tmp 182), type := 4, pos := "outright.go:31", after := #[{ on := 45, ground := Ground.data }, { on := 44, ground := Ground.chain }, { on := 41, ground := Ground.guard }], guard := some (41, true) },
  { dst := some 184, op := Op.load 25 (Operand.tmp 3), type := 25, pos := "outright.go:31", after := #[{ on := 46, ground := Ground.guard }], guard := some (46, false) },
  { dst := some 185, op := Op.call { callee := Callee.value (Operand.func 13), args := #[Operand.tmp 184], argTypes := #[25] }, type := 9, pos := "outright.go:31", after := #[{ on := 47, ground := Ground.data }, { on := 46, ground := Ground.chain }, { on := 46, ground := Ground.guard }], guard := some (46, false) },
  { dst := some 186, op := Op.load 25 (Operand.tmp 4), type := 25, pos := "outright.go:31", after := #[{ on := 46, ground := Ground.guard }], guard := some (46, false) },
  { dst := some 187, op := Op.call { callee := Callee.value (Operand.func 13), args := #[Operand.tmp 186], argTypes := #[25] }, type := 9, pos := "outright.go:31", after := #[{ on := 49, ground := Ground.data }, { on := 48, ground := Ground.chain }, { on := 46, ground := Ground.guard }], guard := some (46, false) },
  { dst := some 188, op := Op.binOp BinOp.eql 9 (Operand.tmp 185) (Operand.tmp 187) 9, type := 4, pos := "outright.go:31", after := #[{ on := 48, ground := Ground.data }, { on := 50, ground := Ground.data }, { on := 46, ground := Ground.guard }], guard := some (46, false) },
  { dst := some 189, op := Op.pick (Operand.tmp 183) (Operand.const (Value.bool true)) (Operand.tmp 188), type := 4, pos := "outright.go:31", after := #[{ on := 46, ground := Ground.data }, { on := 51, ground := Ground.data }, { on := 41, ground := Ground.guard }], guard := some (41, true) },
  { dst := some 190, op := Op.pick (Operand.tmp 178) (Operand.tmp 189) (Operand.const (Value.bool false)), type := 4, pos := "outright.go:31", after := #[{ on := 41, ground := Ground.data }, { on := 52, ground := Ground.data }], guard := none },
  { dst := some 6, op := Op.assign (Operand.tmp 190), type := 4, pos := "outright.go:31", after := #[{ on := 53, ground := Ground.data }, { on := 50, ground := Ground.chain }, { on := 0, ground := Ground.phase }, { on := 1, ground := Ground.phase }, { on := 2, ground := Ground.phase }, { on := 3, ground := Ground.phase }, { on := 4, ground := Ground.phase }, { on := 5, ground := Ground.phase }, { on := 6, ground := Ground.phase }, { on := 7, ground := Ground.phase }, { on := 8, ground := Ground.phase }, { on := 9, ground := Ground.phase }, { on := 10, ground := Ground.phase }, { on := 11, ground := Ground.phase }, { on := 12, ground := Ground.phase }, { on := 13, ground := Ground.phase }, { on := 14, ground := Ground.phase }, { on := 15, ground := Ground.phase }, { on := 16, ground := Ground.phase }, { on := 17, ground := Ground.phase }, { on := 18, ground := Ground.phase }, { on := 19, ground := Ground.phase }, { on := 20, ground := Ground.phase }, { on := 21, ground := Ground.phase }, { on := 22, ground := Ground.phase }, { on := 23, ground := Ground.phase }, { on := 24, ground := Ground.phase }, { on := 25, ground := Ground.phase }, { on := 26, ground := Ground.phase }, { on := 27, ground := Ground.phase }, { on := 28, ground := Ground.phase }, { on := 29, ground := Ground.phase }, { on := 30, ground := Ground.phase }, { on := 31, ground := Ground.phase }, { on := 32, ground := Ground.phase }, { on := 33, ground := Ground.phase }, { on := 34, ground := Ground.phase }, { on := 35, ground := Ground.phase }, { on := 36, ground := Ground.phase }, { on := 37, ground := Ground.phase }, { on := 38, ground := Ground.phase }, { on := 39, ground := Ground.phase }, { on := 40, ground := Ground.phase }, { on := 41, ground := Ground.phase }, { on := 42, ground := Ground.phase }, { on := 43, ground := Ground.phase }, { on := 44, ground := Ground.phase }, { on := 45, ground := Ground.phase }, { on := 46, ground := Ground.phase }, { on := 47, ground := Ground.phase }, { on := 48, ground := Ground.phase }, { on := 49, ground := Ground.phase }, { on := 50, ground := Ground.phase }, { on := 51, ground := Ground.phase }, { on := 52, ground := Ground.phase }, { on := 53, ground := Ground.phase }], guard := none }]
def ring17ePre : Array Bool := #[true, true, true, true, true, true, true, true, true, true, true, true, true, true, true, true, true, true, true, true, true, true, true, true, true, true, true, true, true, true, true, true, true, true, true, true, true, true, true, true, true, true, true, true, true, true, true, true, true, true, true, true, true, true, true]
def ring17eK (A B C : Nat) : Nat → Kd
  | 0 => .val (.bool true)
  | 1 => .val (.bool true)
  | 2 => .fre A
  | 3 => .num A
  | 4 => .row [A]
  | 5 => .fre A
  | 6 => .val (.bool true)
  | 7 => .val (.bool true)
  | 8 => .val (.bool true)
  | 9 => .val (.bool true)
  | 10 => .num A
  | 11 => .num B
  | 12 => .val (.int .i64 (0))
  | 13 => .val (.bool true)
  | 14 => .val (.bool true)
  | 15 => .val (.bool true)
  | 16 => .val (.bool true)
  | 17 => .num A
  | 18 => .num B
  | 19 => .val (.int .i64 (0))
  | 20 => .num A
  | 21 => .num C
  | 22 => .row [A, C]
  | 23 => .fre (sumn [A, C])
  | 24 => .num B
  | 25 => .num C
  | 26 => .row [B, C]
  | 27 => .fre (sumn [B, C])
  | 28 => .val (.int .i64 (0))
  | 29 => .val (.bool true)
  | 30 => .val (.bool true)
  | 31 => .val (.bool true)
  | 32 => .num A
  | 33 => .num B
  | 34 => .val (.int .i64 (0))
  | 35 => .num B
  | 36 => .num A
  | 37 => .val (.int .i64 (0))
  | 38 => .val (.int .i64 (0))
  | 39 => .val (.bool true)
  | 40 => .val (.bool true)
  | 41 => .val (.bool true)
  | 42 => .num A
  | 43 => .num B
  | 44 => .val (.int .i64 (0))
  | 45 => .val (.bool false)
  | 46 => .val (.bool false)
  | 47 => .num A
  | 48 => .val (.string ⟨(Lib.decDigits A).toArray⟩)
  | 49 => .num B
  | 50 => .val (.string ⟨(Lib.decDigits A).toArray⟩)
  | 51 => .val (.bool true)
  | 52 => .val (.bool true)
  | 53 => .val (.bool true)
  | 54 => .val (.bool true)
  | _ => .val undef
theorem ring17e_slots (f : Nat → Value) : slotsOf ring17eOps ring17ePre f = [(137, f 0), (138, f 1), (139, f 2), (140, f 3), (141, f 4), (142, f 5), (143, f 6), (144, f 7), (145, f 8), (146, f 9), (147, f 10), (148, f 11), (149, f 12), (150, f 13), (151, f 14), (152, f 15), (153, f 16), (154, f 17), (155, f 18), (156, f 19), (157, f 20), (158, f 21), (159, f 22), (160, f 23), (161, f 24), (162, f 25), (163, f 26), (164, f 27), (165, f 28), (166, f 29), (167, f 30), (168, f 31), (169, f 32), (170, f 33), (171, f 34), (172, f 35), (173, f 36), (174, f 37), (175, f 38), (176, f 39), (177, f 40), (178, f 41), (179, f 42), (180, f 43), (181, f 44), (182, f 45), (183, f 46), (184, f 47), (185, f 48), (186, f 49), (187, f 50), (188, f 51), (189, f 52), (190, f 53), (6, f 54)] := by kernel_rfl
set_option maxHeartbeats 6400000 in
set_option maxRecDepth 100000 in
theorem ring17e_wp {Q : Exit → Act → World → Prop} {a0 : Act} {w : World} {z : Nat} (A B C : Nat) (hz : z ≤ w.drew.heap.size) (hsize : a0.tmps.size = 191) (b3 b4 b5 : Nat) (h3 : a0.tmps[3]? = some (.pointer (some ⟨b3, 0, none⟩))) (h4 : a0.tmps[4]? = some (.pointer (some ⟨b4, 0, none⟩))) (h5 : a0.tmps[5]? = some (.pointer (some ⟨b5, 0, none⟩))) (C3 : Held z w.drew b3 (.num A)) (C4 : Held z w.drew b4 (.num B)) (C5 : Held z w.drew b5 (.num C)) (ka : Nat) (hka : ka ≤ 100000) (b13 : Nat) (h13 : a0.tmps[13]? = some (.pointer (some ⟨b13, 0, none⟩))) (C13 : Held z w.drew b13 (.fre A)) (h14 : a0.tmps[14]? = some (.bool true)) (h16 : a0.tmps[16]? = some (.bool true)) (N0 : sumn [A] < 2 ^ ka) (E0 : sumn [A] = A) (N1 : sumn [A, C] < 2 ^ ka) (N2 : sumn [B, C] < 2 ^ ka) (O1 : ord A B = 0) (O2 : ord (sumn [A, C]) (sumn [B, C]) = 0) (O3 : ord B A = 0) (EB : B = A) (htab : Lib.TabIs Tryd.prog w.drew "internal/strconv.uint64pow10" .u64 Lib.pow10Tab)
    (fin : ∀ (f : Nat → Value) (y : World), (∀ j, j < 55 → ring17ePre.getD j false = true → Kd.ok z (ring17eK A B C j) (f j) y) → Below w.drew.heap.size w.drew y → Q .normal (putL a0 [(137, f 0), (138, f 1), (139, f 2), (140, f 3), (141, f 4), (142, f 5), (143, f 6), (144, f 7), (145, f 8), (146, f 9), (147, f 10), (148, f 11), (149, f 12), (150, f 13), (151, f 14), (152, f 15), (153, f 16), (154, f 17), (155, f 18), (156, f 19), (157, f 20), (158, f 21), (159, f 22), (160, f 23), (161, f 24), (162, f 25), (163, f 26), (164, f 27), (165, f 28), (166, f 29), (167, f 30), (168, f 31), (169, f 32), (170, f 33), (171, f 34), (172, f 35), (173, f 36), (174, f 37), (175, f 38), (176, f 39), (177, f 40), (178, f 41), (179, f 42), (180, f 43), (181, f 44), (182, f 45), (183, f 46), (184, f 47), (185, f 48), (186, f 49), (187, f 50), (188, f 51), (189, f 52), (190, f 53), (6, f 54)]) y) (id : Nat) :
    (Code.region id ring17eOps true).wp Tryd.prog Q a0 w := by
  refine wp_region_inv ring17ePre (fun j => Kd.ok z (ring17eK A B C j)) (fun x y => Below x.heap.size x y) 55 0 (by kernel_rfl) (by kernel_rfl) (by rw [hsize]; kernel_rfl) (by kernel_rfl) (by kernel_rfl) (Below.refl _ _) (fun _ _ _ h1 h2 => bl_trans h1 h2) (fun _ _ _ _ h1 h2 => Kd.below h1 h2) ?_ (fun f y h1 h2 => by rw [ring17e_slots]; exact any_end (by kernel_rfl) (fin f y h1 h2) 0)
  intro i o ho hp f a x hR hbase hdeps K hK
  have hi : i < 55 := by
    rcases Nat.lt_or_ge i 55 with h | h
    · exact h
    · have : ring17eOps.size ≤ i := h
      rw [Array.getElem?_eq_none this] at ho; cases ho
  have hzx : z ≤ x.heap.size := Nat.le_trans hz hR.size
  have dep : ∀ j, (o.after.any fun e => Region.binds .any e && e.on == j) = true → (∀ s, slotOf ring17eOps j = some s → a.tmps[s]? = some (f j)) ∧ Kd.ok z (ring17eK A B C j) (f j) x := by
    intro j h
    obtain ⟨e, he, h2⟩ := Array.any_eq_true'.1 h
    simp only [Bool.and_eq_true, beq_iff_eq] at h2
    obtain ⟨h3, rfl⟩ := h2
    exact hdeps e he h3
  have bas : ∀ s, ((List.range ring17eOps.size).all fun j => slotOf ring17eOps j != some s) = true → a.tmps[s]? = a0.tmps[s]? := by
    intro s h
    refine hbase s fun j hj _ e => ?_
    have h2 := (List.all_eq_true.1 h) j (List.mem_range.2 hj)
    rw [e] at h2; simp at h2
  match i, hi with
  | 0, _ =>
    obtain rfl : { dst := some 137, op := Op.move (Operand.tmp 14), type := 4, pos := "outright.go:31", after := #[], guard := none } = o := Option.some.inj (show ring17eOps[0]? = some _ from ho)
    have qb14 := (bas 14 (by kernel_rfl)).trans h14
    have eb14 := eval_at qb14
    refine inv_val (G := Kd.ok z (ring17eK A B C 0)) (R := fun x y => Below x.heap.size x y) (wanted_none rfl) (v := (.bool true)) (w2 := x) (by simp only [execOp, eb14]; go_simp) hK rfl (Below.refl _ _)
  | 1, _ =>
    obtain rfl : { dst := some 138, op := Op.move (Operand.tmp 137), type := 4, pos := "outright.go:31", after := #[{ on := 0, ground := Ground.data }], guard := none } = o := Option.some.inj (show ring17eOps[1]? = some _ from ho)
    obtain ⟨t0, g0⟩ := dep 0 (by kernel_rfl)
    have q0 := t0 137 (by rfl)
    have e0 := eval_at q0
    have w0 : f 0 = (.bool true) := g0
    rw [w0] at e0
    refine inv_val (G := Kd.ok z (ring17eK A B C 1)) (R := fun x y => Below x.heap.size x y) (wanted_none rfl) (v := (.bool true)) (w2 := x) (by simp only [execOp, e0]; go_simp) hK rfl (Below.refl _ _)
  | 2, _ =>
    obtain rfl : { dst := some 139, op := Op.load 25 (Operand.tmp 13), type := 25, pos := "outright.go:31", after := #[{ on := 1, ground := Ground.guard }], guard := some (1, true) } = o := Option.some.inj (show ring17eOps[2]? = some _ from ho)
    obtain ⟨t1, g1⟩ := dep 1 (by kernel_rfl)
    have q1 := t1 138 (by rfl)
    have e1 := eval_at q1
    have v1 : f 1 = .bool true := g1
    have hw := wanted_some (ops := ring17eOps) (o := { dst := some 139, op := Op.load 25 (Operand.tmp 13), type := 25, pos := "outright.go:31", after := #[{ on := 1, ground := Ground.guard }], guard := some (1, true) }) (a := a) (j := 1) (s := 138) (b := true) (c := true) rfl (by rfl) (by rw [← v1]; exact q1)
    have qb13 := (bas 13 (by kernel_rfl)).trans h13
    have eb13 := eval_at qb13
    obtain ⟨xc, hc, hk⟩ := C13.below hR
    refine inv_val (G := Kd.ok z (ring17eK A B C 2)) (R := fun x y => Below x.heap.size x y) (hw.trans (by decide)) (v := .agg #[xc]) (w2 := x) (by simp only [execOp, eb13]; go_simp) hK hk (Below.refl _ _)
  | 3, _ =>
    obtain rfl : { dst := some 140, op := Op.load 25 (Operand.tmp 3), type := 25, pos := "outright.go:31", after := #[{ on := 1, ground := Ground.guard }], guard := some (1, true) } = o := Option.some.inj (show ring17eOps[3]? = some _ from ho)
    obtain ⟨t1, g1⟩ := dep 1 (by kernel_rfl)
    have q1 := t1 138 (by rfl)
    have e1 := eval_at q1
    have v1 : f 1 = .bool true := g1
    have hw := wanted_some (ops := ring17eOps) (o := { dst := some 140, op := Op.load 25 (Operand.tmp 3), type := 25, pos := "outright.go:31", after := #[{ on := 1, ground := Ground.guard }], guard := some (1, true) }) (a := a) (j := 1) (s := 138) (b := true) (c := true) rfl (by rfl) (by rw [← v1]; exact q1)
    have qb3 := (bas 3 (by kernel_rfl)).trans h3
    have eb3 := eval_at qb3
    obtain ⟨xc, hc, hk⟩ := C3.below hR
    refine inv_val (G := Kd.ok z (ring17eK A B C 3)) (R := fun x y => Below x.heap.size x y) (hw.trans (by decide)) (v := .agg #[xc]) (w2 := x) (by simp only [execOp, eb3]; go_simp) hK hk (Below.refl _ _)
  | 4, _ =>
    obtain rfl : { dst := some 141, op := Op.buildSlice 32 1 #[(0, Operand.tmp 140)], type := 32, pos := "outright.go:31", after := #[{ on := 3, ground := Ground.data }, { on := 1, ground := Ground.guard }], guard := some (1, true) } = o := Option.some.inj (show ring17eOps[4]? = some _ from ho)
    obtain ⟨t1, g1⟩ := dep 1 (by kernel_rfl)
    have q1 := t1 138 (by rfl)
    have e1 := eval_at q1
    have v1 : f 1 = .bool true := g1
    have hw := wanted_some (ops := ring17eOps) (o := { dst := some 141, op := Op.buildSlice 32 1 #[(0, Operand.tmp 140)], type := 32, pos := "outright.go:31", after := #[{ on := 3, ground := Ground.data }, { on := 1, ground := Ground.guard }], guard := some (1, true) }) (a := a) (j := 1) (s := 138) (b := true) (c := true) rfl (by rfl) (by rw [← v1]; exact q1)
    obtain ⟨t3, g3⟩ := dep 3 (by kernel_rfl)
    have q3 := t3 140 (by rfl)
    have e3 := eval_at q3
    obtain ⟨v, w2, hr, hrow, hb⟩ := st_build1 g3
    refine inv_val (G := Kd.ok z (ring17eK A B C 4)) (R := fun x y => Below x.heap.size x y) (hw.trans (by decide)) (v := v) (w2 := w2) (by simp [execOp, e3, hr]) hK hrow hb
  | 5, _ =>
    obtain rfl : { dst := some 142, op := Op.call { callee := Callee.value (Operand.func 11), args := #[Operand.tmp 141], argTypes := #[32] }, type := 25, pos := "outright.go:31", after := #[{ on := 4, ground := Ground.data }, { on := 1, ground := Ground.chain }, { on := 1, ground := Ground.guard }], guard := some (1, true) } = o := Option.some.inj (show ring17eOps[5]? = some _ from ho)
    obtain ⟨t1, g1⟩ := dep 1 (by kernel_rfl)
    have q1 := t1 138 (by rfl)
    have e1 := eval_at q1
    have v1 : f 1 = .bool true := g1
    have hw := wanted_some (ops := ring17eOps) (o := { dst := some 142, op := Op.call { callee := Callee.value (Operand.func 11), args := #[Operand.tmp 141], argTypes := #[32] }, type := 25, pos := "outright.go:31", after := #[{ on := 4, ground := Ground.data }, { on := 1, ground := Ground.chain }, { on := 1, ground := Ground.guard }], guard := some (1, true) }) (a := a) (j := 1) (s := 138) (b := true) (c := true) rfl (by rfl) (by rw [← v1]; exact q1)
    obtain ⟨t4, g4⟩ := dep 4 (by kernel_rfl)
    have q4 := t4 141 (by rfl)
    have e4 := eval_at q4
    refine inv_call (G := Kd.ok z (ring17eK A B C 5)) (R := fun x y => Below x.heap.size x y) (hw.trans (by decide)) (F := 11) (args := #[f 4]) (by simp [go_sem, q4]) hK ?_
    exact (by have h := k_add (z := z) g4 (by simp) N0 hka hzx; rw [E0] at h; exact h)
  | 6, _ =>
    obtain rfl : { dst := some 143, op := Op.call { callee := Callee.value (Operand.func 9), args := #[Operand.tmp 139, Operand.tmp 142], argTypes := #[25, 25] }, type := 4, pos := "outright.go:31", after := #[{ on := 2, ground := Ground.data }, { on := 5, ground := Ground.data }, { on := 5, ground := Ground.chain }, { on := 1, ground := Ground.guard }], guard := some (1, true) } = o := Option.some.inj (show ring17eOps[6]? = some _ from ho)
    obtain ⟨t1, g1⟩ := dep 1 (by kernel_rfl)
    have q1 := t1 138 (by rfl)
    have e1 := eval_at q1
    have v1 : f 1 = .bool true := g1
    have hw := wanted_some (ops := ring17eOps) (o := { dst := some 143, op := Op.call { callee := Callee.value (Operand.func 9), args := #[Operand.tmp 139, Operand.tmp 142], argTypes := #[25, 25] }, type := 4, pos := "outright.go:31", after := #[{ on := 2, ground := Ground.data }, { on := 5, ground := Ground.data }, { on := 5, ground := Ground.chain }, { on := 1, ground := Ground.guard }], guard := some (1, true) }) (a := a) (j := 1) (s := 138) (b := true) (c := true) rfl (by rfl) (by rw [← v1]; exact q1)
    obtain ⟨t2, g2⟩ := dep 2 (by kernel_rfl)
    have q2 := t2 139 (by rfl)
    have e2 := eval_at q2
    obtain ⟨t5, g5⟩ := dep 5 (by kernel_rfl)
    have q5 := t5 142 (by rfl)
    have e5 := eval_at q5
    refine inv_call (G := Kd.ok z (ring17eK A B C 6)) (R := fun x y => Below x.heap.size x y) (hw.trans (by decide)) (F := 9) (args := #[f 2, f 5]) (by simp [go_sem, q2, q5]) hK ?_
    exact k_same g2 g5
  | 7, _ =>
    obtain rfl : { dst := some 144, op := Op.pick (Operand.tmp 138) (Operand.tmp 143) (Operand.const (Value.bool false)), type := 4, pos := "outright.go:31", after := #[{ on := 1, ground := Ground.data }, { on := 6, ground := Ground.data }], guard := none } = o := Option.some.inj (show ring17eOps[7]? = some _ from ho)
    obtain ⟨t1, g1⟩ := dep 1 (by kernel_rfl)
    have q1 := t1 138 (by rfl)
    have e1 := eval_at q1
    obtain ⟨t6, g6⟩ := dep 6 (by kernel_rfl)
    have q6 := t6 143 (by rfl)
    have e6 := eval_at q6
    have w1 : f 1 = (.bool true) := g1
    have w6 : f 6 = (.bool true) := g6
    rw [w1] at e1
    rw [w6] at e6
    refine inv_val (G := Kd.ok z (ring17eK A B C 7)) (R := fun x y => Below x.heap.size x y) (wanted_none rfl) (v := (.bool true)) (w2 := x) (by simp only [execOp, e1, e6]; go_simp) hK rfl (Below.refl _ _)
  | 8, _ =>
    obtain rfl : { dst := some 145, op := Op.move (Operand.tmp 144), type := 4, pos := "outright.go:31", after := #[{ on := 7, ground := Ground.data }, { on := 6, ground := Ground.chain }], guard := none } = o := Option.some.inj (show ring17eOps[8]? = some _ from ho)
    obtain ⟨t7, g7⟩ := dep 7 (by kernel_rfl)
    have q7 := t7 144 (by rfl)
    have e7 := eval_at q7
    have w7 : f 7 = (.bool true) := g7
    rw [w7] at e7
    refine inv_val (G := Kd.ok z (ring17eK A B C 8)) (R := fun x y => Below x.heap.size x y) (wanted_none rfl) (v := (.bool true)) (w2 := x) (by simp only [execOp, e7]; go_simp) hK rfl (Below.refl _ _)
  | 9, _ =>
    obtain rfl : { dst := some 146, op := Op.move (Operand.tmp 16), type := 4, pos := "outright.go:31", after := #[{ on := 8, ground := Ground.guard }], guard := some (8, true) } = o := Option.some.inj (show ring17eOps[9]? = some _ from ho)
    obtain ⟨t8, g8⟩ := dep 8 (by kernel_rfl)
    have q8 := t8 145 (by rfl)
    have e8 := eval_at q8
    have v8 : f 8 = .bool true := g8
    have hw := wanted_some (ops := ring17eOps) (o := { dst := some 146, op := Op.move (Operand.tmp 16), type := 4, pos := "outright.go:31", after := #[{ on := 8, ground := Ground.guard }], guard := some (8, true) }) (a := a) (j := 8) (s := 145) (b := true) (c := true) rfl (by rfl) (by rw [← v8]; exact q8)
    have qb16 := (bas 16 (by kernel_rfl)).trans h16
    have eb16 := eval_at qb16
    have w8 : f 8 = (.bool true) := g8
    refine inv_val (G := Kd.ok z (ring17eK A B C 9)) (R := fun x y => Below x.heap.size x y) (hw.trans (by decide)) (v := (.bool true)) (w2 := x) (by simp only [execOp, eb16]; go_simp) hK rfl (Below.refl _ _)
  | 10, _ =>
    obtain rfl : { dst := some 147, op := Op.load 25 (Operand.tmp 3), type := 25, pos := "outright.go:31", after := #[{ on := 8, ground := Ground.guard }], guard := some (8, true) } = o := Option.some.inj (show ring17eOps[10]? = some _ from ho)
    obtain ⟨t8, g8⟩ := dep 8 (by kernel_rfl)
    have q8 := t8 145 (by rfl)
    have e8 := eval_at q8
    have v8 : f 8 = .bool true := g8
    have hw := wanted_some (ops := ring17eOps) (o := { dst := some 147, op := Op.load 25 (Operand.tmp 3), type := 25, pos := "outright.go:31", after := #[{ on := 8, ground := Ground.guard }], guard := some (8, true) }) (a := a) (j := 8) (s := 145) (b := true) (c := true) rfl (by rfl) (by rw [← v8]; exact q8)
    have qb3 := (bas 3 (by kernel_rfl)).trans h3
    have eb3 := eval_at qb3
    obtain ⟨xc, hc, hk⟩ := C3.below hR
    refine inv_val (G := Kd.ok z (ring17eK A B C 10)) (R := fun x y => Below x.heap.size x y) (hw.trans (by decide)) (v := .agg #[xc]) (w2 := x) (by simp only [execOp, eb3]; go_simp) hK hk (Below.refl _ _)
  | 11, _ =>
    obtain rfl : { dst := some 148, op := Op.load 25 (Operand.tmp 4), type := 25, pos := "outright.go:31", after := #[{ on := 8, ground := Ground.guard }], guard := some (8, true) } = o := Option.some.inj (show ring17eOps[11]? = some _ from ho)
    obtain ⟨t8, g8⟩ := dep 8 (by kernel_rfl)
    have q8 := t8 145 (by rfl)
    have e8 := eval_at q8
    have v8 : f 8 = .bool true := g8
    have hw := wanted_some (ops := ring17eOps) (o := { dst := some 148, op := Op.load 25 (Operand.tmp 4), type := 25, pos := "outright.go:31", after := #[{ on := 8, ground := Ground.guard }], guard := some (8, true) }) (a := a) (j := 8) (s := 145) (b := true) (c := true) rfl (by rfl) (by rw [← v8]; exact q8)
    have qb4 := (bas 4 (by kernel_rfl)).trans h4
    have eb4 := eval_at qb4
    obtain ⟨xc, hc, hk⟩ := C4.below hR
    refine inv_val (G := Kd.ok z (ring17eK A B C 11)) (R := fun x y => Below x.heap.size x y) (hw.trans (by decide)) (v := .agg #[xc]) (w2 := x) (by simp only [execOp, eb4]; go_simp) hK hk (Below.refl _ _)
  | 12, _ =>
    obtain rfl : { dst := some 149, op := Op.call { callee := Callee.value (Operand.func 16), args := #[Operand.tmp 147, Operand.tmp 148], argTypes := #[25, 25] }, type := 3, pos := "outright.go:31", after := #[{ on := 10, ground := Ground.data }, { on := 11, ground := Ground.data }, { on := 8, ground := Ground.chain }, { on := 8, ground := Ground.guard }], guard := some (8, true) } = o := Option.some.inj (show ring17eOps[12]? = some _ from ho)
    obtain ⟨t8, g8⟩ := dep 8 (by kernel_rfl)
    have q8 := t8 145 (by rfl)
    have e8 := eval_at q8
    have v8 : f 8 = .bool true := g8
    have hw := wanted_some (ops := ring17eOps) (o := { dst := some 149, op := Op.call { callee := Callee.value (Operand.func 16), args := #[Operand.tmp 147, Operand.tmp 148], argTypes := #[25, 25] }, type := 3, pos := "outright.go:31", after := #[{ on := 10, ground := Ground.data }, { on := 11, ground := Ground.data }, { on := 8, ground := Ground.chain }, { on := 8, ground := Ground.guard }], guard := some (8, true) }) (a := a) (j := 8) (s := 145) (b := true) (c := true) rfl (by rfl) (by rw [← v8]; exact q8)
    obtain ⟨t10, g10⟩ := dep 10 (by kernel_rfl)
    have q10 := t10 147 (by rfl)
    have e10 := eval_at q10
    obtain ⟨t11, g11⟩ := dep 11 (by kernel_rfl)
    have q11 := t11 148 (by rfl)
    have e11 := eval_at q11
    refine inv_call (G := Kd.ok z (ring17eK A B C 12)) (R := fun x y => Below x.heap.size x y) (hw.trans (by decide)) (F := 16) (args := #[f 10, f 11]) (by simp [go_sem, q10, q11]) hK ?_
    exact (by have h := k_cmp (z := z) g10 g11; rw [O1] at h; exact h)
  | 13, _ =>
    obtain rfl : { dst := some 150, op := Op.binOp BinOp.geq 3 (Operand.tmp 149) (Operand.const (Value.int IntKind.i64 0)) 3, type := 4, pos := "outright.go:31", after := #[{ on := 12, ground := Ground.data }, { on := 8, ground := Ground.guard }], guard := some (8, true) } = o := Option.some.inj (show ring17eOps[13]? = some _ from ho)
    obtain ⟨t8, g8⟩ := dep 8 (by kernel_rfl)
    have q8 := t8 145 (by rfl)
    have e8 := eval_at q8
    have v8 : f 8 = .bool true := g8
    have hw := wanted_some (ops := ring17eOps) (o := { dst := some 150, op := Op.binOp BinOp.geq 3 (Operand.tmp 149) (Operand.const (Value.int IntKind.i64 0)) 3, type := 4, pos := "outright.go:31", after := #[{ on := 12, ground := Ground.data }, { on := 8, ground := Ground.guard }], guard := some (8, true) }) (a := a) (j := 8) (s := 145) (b := true) (c := true) rfl (by rfl) (by rw [← v8]; exact q8)
    obtain ⟨t12, g12⟩ := dep 12 (by kernel_rfl)
    have q12 := t12 149 (by rfl)
    have e12 := eval_at q12
    have w8 : f 8 = (.bool true) := g8
    have w12 : f 12 = (.int .i64 (0)) := g12
    rw [w12] at e12
    refine inv_val (G := Kd.ok z (ring17eK A B C 13)) (R := fun x y => Below x.heap.size x y) (hw.trans (by decide)) (v := (.bool true)) (w2 := x) (by simp only [execOp, e12]; go_simp) hK rfl (Below.refl _ _)
  | 14, _ =>
    obtain rfl : { dst := some 151, op := Op.binOp BinOp.eql 4 (Operand.tmp 146) (Operand.tmp 150) 4, type := 4, pos := "outright.go:31", after := #[{ on := 9, ground := Ground.data }, { on := 13, ground := Ground.data }, { on := 8, ground := Ground.guard }], guard := some (8, true) } = o := Option.some.inj (show ring17eOps[14]? = some _ from ho)
    obtain ⟨t8, g8⟩ := dep 8 (by kernel_rfl)
    have q8 := t8 145 (by rfl)
    have e8 := eval_at q8
    have v8 : f 8 = .bool true := g8
    have hw := wanted_some (ops := ring17eOps) (o := { dst := some 151, op := Op.binOp BinOp.eql 4 (Operand.tmp 146) (Operand.tmp 150) 4, type := 4, pos := "outright.go:31", after := #[{ on := 9, ground := Ground.data }, { on := 13, ground := Ground.data }, { on := 8, ground := Ground.guard }], guard := some (8, true) }) (a := a) (j := 8) (s := 145) (b := true) (c := true) rfl (by rfl) (by rw [← v8]; exact q8)
    obtain ⟨t9, g9⟩ := dep 9 (by kernel_rfl)
    have q9 := t9 146 (by rfl)
    have e9 := eval_at q9
    obtain ⟨t13, g13⟩ := dep 13 (by kernel_rfl)
    have q13 := t13 150 (by rfl)
    have e13 := eval_at q13
    have w8 : f 8 = (.bool true) := g8
    have w9 : f 9 = (.bool true) := g9
    have w13 : f 13 = (.bool true) := g13
    rw [w9] at e9
    rw [w13] at e13
    refine inv_val (G := Kd.ok z (ring17eK A B C 14)) (R := fun x y => Below x.heap.size x y) (hw.trans (by decide)) (v := (.bool true)) (w2 := x) (by simp only [execOp, e9, e13]; go_simp) hK rfl (Below.refl _ _)
  | 15, _ =>
    obtain rfl : { dst := some 152, op := Op.pick (Operand.tmp 145) (Operand.tmp 151) (Operand.const (Value.bool false)), type := 4, pos := "outright.go:31", after := #[{ on := 8, ground := Ground.data }, { on := 14, ground := Ground.data }], guard := none } = o := Option.some.inj (show ring17eOps[15]? = some _ from ho)
    obtain ⟨t8, g8⟩ := dep 8 (by kernel_rfl)
    have q8 := t8 145 (by rfl)
    have e8 := eval_at q8
    obtain ⟨t14, g14⟩ := dep 14 (by kernel_rfl)
    have q14 := t14 151 (by rfl)
    have e14 := eval_at q14
    have w8 : f 8 = (.bool true) := g8
    have w14 : f 14 = (.bool true) := g14
    rw [w8] at e8
    rw [w14] at e14
    refine inv_val (G := Kd.ok z (ring17eK A B C 15)) (R := fun x y => Below x.heap.size x y) (wanted_none rfl) (v := (.bool true)) (w2 := x) (by simp only [execOp, e8, e14]; go_simp) hK rfl (Below.refl _ _)
  | 16, _ =>
    obtain rfl : { dst := some 153, op := Op.move (Operand.tmp 152), type := 4, pos := "outright.go:31", after := #[{ on := 15, ground := Ground.data }, { on := 12, ground := Ground.chain }], guard := none } = o := Option.some.inj (show ring17eOps[16]? = some _ from ho)
    obtain ⟨t15, g15⟩ := dep 15 (by kernel_rfl)
    have q15 := t15 152 (by rfl)
    have e15 := eval_at q15
    have w15 : f 15 = (.bool true) := g15
    rw [w15] at e15
    refine inv_val (G := Kd.ok z (ring17eK A B C 16)) (R := fun x y => Below x.heap.size x y) (wanted_none rfl) (v := (.bool true)) (w2 := x) (by simp only [execOp, e15]; go_simp) hK rfl (Below.refl _ _)
  | 17, _ =>
    obtain rfl : { dst := some 154, op := Op.load 25 (Operand.tmp 3), type := 25, pos := "outright.go:31", after := #[{ on := 16, ground := Ground.guard }], guard := some (16, true) } = o := Option.some.inj (show ring17eOps[17]? = some _ from ho)
    obtain ⟨t16, g16⟩ := dep 16 (by kernel_rfl)
    have q16 := t16 153 (by rfl)
    have e16 := eval_at q16
    have v16 : f 16 = .bool true := g16
    have hw := wanted_some (ops := ring17eOps) (o := { dst := some 154, op := Op.load 25 (Operand.tmp 3), type := 25, pos := "outright.go:31", after := #[{ on := 16, ground := Ground.guard }], guard := some (16, true) }) (a := a) (j := 16) (s := 153) (b := true) (c := true) rfl (by rfl) (by rw [← v16]; exact q16)
    have qb3 := (bas 3 (by kernel_rfl)).trans h3
    have eb3 := eval_at qb3
    obtain ⟨xc, hc, hk⟩ := C3.below hR
    refine inv_val (G := Kd.ok z (ring17eK A B C 17)) (R := fun x y => Below x.heap.size x y) (hw.trans (by decide)) (v := .agg #[xc]) (w2 := x) (by simp only [execOp, eb3]; go_simp) hK hk (Below.refl _ _)
  | 18, _ =>
    obtain rfl : { dst := some 155, op := Op.load 25 (Operand.tmp 4), type := 25, pos := "outright.go:31", after := #[{ on := 16, ground := Ground.guard }], guard := some (16, true) } = o := Option.some.inj (show ring17eOps[18]? = some _ from ho)
    obtain ⟨t16, g16⟩ := dep 16 (by kernel_rfl)
    have q16 := t16 153 (by rfl)
    have e16 := eval_at q16
    have v16 : f 16 = .bool true := g16
    have hw := wanted_some (ops := ring17eOps) (o := { dst := some 155, op := Op.load 25 (Operand.tmp 4), type := 25, pos := "outright.go:31", after := #[{ on := 16, ground := Ground.guard }], guard := some (16, true) }) (a := a) (j := 16) (s := 153) (b := true) (c := true) rfl (by rfl) (by rw [← v16]; exact q16)
    have qb4 := (bas 4 (by kernel_rfl)).trans h4
    have eb4 := eval_at qb4
    obtain ⟨xc, hc, hk⟩ := C4.below hR
    refine inv_val (G := Kd.ok z (ring17eK A B C 18)) (R := fun x y => Below x.heap.size x y) (hw.trans (by decide)) (v := .agg #[xc]) (w2 := x) (by simp only [execOp, eb4]; go_simp) hK hk (Below.refl _ _)
  | 19, _ =>
    obtain rfl : { dst := some 156, op := Op.call { callee := Callee.value (Operand.func 16), args := #[Operand.tmp 154, Operand.tmp 155], argTypes := #[25, 25] }, type := 3, pos := "outright.go:31", after := #[{ on := 17, ground := Ground.data }, { on := 18, ground := Ground.data }, { on := 16, ground := Ground.chain }, { on := 16, ground := Ground.guard }], guard := some (16, true) } = o := Option.some.inj (show ring17eOps[19]? = some _ from ho)
    obtain ⟨t16, g16⟩ := dep 16 (by kernel_rfl)
    have q16 := t16 153 (by rfl)
    have e16 := eval_at q16
    have v16 : f 16 = .bool true := g16
    have hw := wanted_some (ops := ring17eOps) (o := { dst := some 156, op := Op.call { callee := Callee.value (Operand.func 16), args := #[Operand.tmp 154, Operand.tmp 155], argTypes := #[25, 25] }, type := 3, pos := "outright.go:31", after := #[{ on := 17, ground := Ground.data }, { on := 18, ground := Ground.data }, { on := 16, ground := Ground.chain }, { on := 16, ground := Ground.guard }], guard := some (16, true) }) (a := a) (j := 16) (s := 153) (b := true) (c := true) rfl (by rfl) (by rw [← v16]; exact q16)
    obtain ⟨t17, g17⟩ := dep 17 (by kernel_rfl)
    have q17 := t17 154 (by rfl)
    have e17 := eval_at q17
    obtain ⟨t18, g18⟩ := dep 18 (by kernel_rfl)
    have q18 := t18 155 (by rfl)
    have e18 := eval_at q18
    refine inv_call (G := Kd.ok z (ring17eK A B C 19)) (R := fun x y => Below x.heap.size x y) (hw.trans (by decide)) (F := 16) (args := #[f 17, f 18]) (by simp [go_sem, q17, q18]) hK ?_
    exact (by have h := k_cmp (z := z) g17 g18; rw [O1] at h; exact h)
  | 20, _ =>
    obtain rfl : { dst := some 157, op := Op.load 25 (Operand.tmp 3), type := 25, pos := "outright.go:31", after := #[{ on := 16, ground := Ground.guard }], guard := some (16, true) } = o := Option.some.inj (show ring17eOps[20]? = some _ from ho)
    obtain ⟨t16, g16⟩ := dep 16 (by kernel_rfl)
    have q16 := t16 153 (by rfl)
    have e16 := eval_at q16
    have v16 : f 16 = .bool true := g16
    have hw := wanted_some (ops := ring17eOps) (o := { dst := some 157, op := Op.load 25 (Operand.tmp 3), type := 25, pos := "outright.go:31", after := #[{ on := 16, ground := Ground.guard }], guard := some (16, true) }) (a := a) (j := 16) (s := 153) (b := true) (c := true) rfl (by rfl) (by rw [← v16]; exact q16)
    have qb3 := (bas 3 (by kernel_rfl)).trans h3
    have eb3 := eval_at qb3
    obtain ⟨xc, hc, hk⟩ := C3.below hR
    refine inv_val (G := Kd.ok z (ring17eK A B C 20)) (R := fun x y => Below x.heap.size x y) (hw.trans (by decide)) (v := .agg #[xc]) (w2 := x) (by simp only [execOp, eb3]; go_simp) hK hk (Below.refl _ _)
  | 21, _ =>
    obtain rfl : { dst := some 158, op := Op.load 25 (Operand.tmp 5), type := 25, pos := "outright.go:31", after := #[{ on := 16, ground := Ground.guard }], guard := some (16, true) } = o := Option.some.inj (show ring17eOps[21]? = some _ from ho)
    obtain ⟨t16, g16⟩ := dep 16 (by kernel_rfl)
    have q16 := t16 153 (by rfl)
    have e16 := eval_at q16
    have v16 : f 16 = .bool true := g16
    have hw := wanted_some (ops := ring17eOps) (o := { dst := some 158, op := Op.load 25 (Operand.tmp 5), type := 25, pos := "outright.go:31", after := #[{ on := 16, ground := Ground.guard }], guard := some (16, true) }) (a := a) (j := 16) (s := 153) (b := true) (c := true) rfl (by rfl) (by rw [← v16]; exact q16)
    have qb5 := (bas 5 (by kernel_rfl)).trans h5
    have eb5 := eval_at qb5
    obtain ⟨xc, hc, hk⟩ := C5.below hR
    refine inv_val (G := Kd.ok z (ring17eK A B C 21)) (R := fun x y => Below x.heap.size x y) (hw.trans (by decide)) (v := .agg #[xc]) (w2 := x) (by simp only [execOp, eb5]; go_simp) hK hk (Below.refl _ _)
  | 22, _ =>
    obtain rfl : { dst := some 159, op := Op.buildSlice 32 2 #[(0, Operand.tmp 157), (1, Operand.tmp 158)], type := 32, pos := "outright.go:31", after := #[{ on := 20, ground := Ground.data }, { on := 21, ground := Ground.data }, { on := 16, ground := Ground.guard }], guard := some (16, true) } = o := Option.some.inj (show ring17eOps[22]? = some _ from ho)
    obtain ⟨t16, g16⟩ := dep 16 (by kernel_rfl)
    have q16 := t16 153 (by rfl)
    have e16 := eval_at q16
    have v16 : f 16 = .bool true := g16
    have hw := wanted_some (ops := ring17eOps) (o := { dst := some 159, op := Op.buildSlice 32 2 #[(0, Operand.tmp 157), (1, Operand.tmp 158)], type := 32, pos := "outright.go:31", after := #[{ on := 20, ground := Ground.data }, { on := 21, ground := Ground.data }, { on := 16, ground := Ground.guard }], guard := some (16, true) }) (a := a) (j := 16) (s := 153) (b := true) (c := true) rfl (by rfl) (by rw [← v16]; exact q16)
    obtain ⟨t20, g20⟩ := dep 20 (by kernel_rfl)
    have q20 := t20 157 (by rfl)
    have e20 := eval_at q20
    obtain ⟨t21, g21⟩ := dep 21 (by kernel_rfl)
    have q21 := t21 158 (by rfl)
    have e21 := eval_at q21
    obtain ⟨v, w2, hr, hrow, hb⟩ := st_build2 g20 g21
    refine inv_val (G := Kd.ok z (ring17eK A B C 22)) (R := fun x y => Below x.heap.size x y) (hw.trans (by decide)) (v := v) (w2 := w2) (by simp [execOp, e20, e21, hr]) hK hrow hb
  | 23, _ =>
    obtain rfl : { dst := some 160, op := Op.call { callee := Callee.value (Operand.func 11), args := #[Operand.tmp 159], argTypes := #[32] }, type := 25, pos := "outright.go:31", after := #[{ on := 22, ground := Ground.data }, { on := 19, ground := Ground.chain }, { on := 16, ground := Ground.guard }], guard := some (16, true) } = o := Option.some.inj (show ring17eOps[23]? = some _ from ho)
    obtain ⟨t16, g16⟩ := dep 16 (by kernel_rfl)
    have q16 := t16 153 (by rfl)
    have e16 := eval_at q16
    have v16 : f 16 = .bool true := g16
    have hw := wanted_some (ops := ring17eOps) (o := { dst := some 160, op := Op.call { callee := Callee.value (Operand.func 11), args := #[Operand.tmp 159], argTypes := #[32] }, type := 25, pos := "outright.go:31", after := #[{ on := 22, ground := Ground.data }, { on := 19, ground := Ground.chain }, { on := 16, ground := Ground.guard }], guard := some (16, true) }) (a := a) (j := 16) (s := 153) (b := true) (c := true) rfl (by rfl) (by rw [← v16]; exact q16)
    obtain ⟨t22, g22⟩ := dep 22 (by kernel_rfl)
    have q22 := t22 159 (by rfl)
    have e22 := eval_at q22
    refine inv_call (G := Kd.ok z (ring17eK A B C 23)) (R := fun x y => Below x.heap.size x y) (hw.trans (by decide)) (F := 11) (args := #[f 22]) (by simp [go_sem, q22]) hK ?_
    exact k_add g22 (by simp) N1 hka hzx
  | 24, _ =>
    obtain rfl : { dst := some 161, op := Op.load 25 (Operand.tmp 4), type := 25, pos := "outright.go:31", after := #[{ on := 16, ground := Ground.guard }], guard := some (16, true) } = o := Option.some.inj (show ring17eOps[24]? = some _ from ho)
    obtain ⟨t16, g16⟩ := dep 16 (by kernel_rfl)
    have q16 := t16 153 (by rfl)
    have e16 := eval_at q16
    have v16 : f 16 = .bool true := g16
    have hw := wanted_some (ops := ring17eOps) (o := { dst := some 161, op := Op.load 25 (Operand.tmp 4), type := 25, pos := "outright.go:31", after := #[{ on := 16, ground := Ground.guard }], guard := some (16, true) }) (a := a) (j := 16) (s := 153) (b := true) (c := true) rfl (by rfl) (by rw [← v16]; exact q16)
    have qb4 := (bas 4 (by kernel_rfl)).trans h4
    have eb4 := eval_at qb4
    obtain ⟨xc, hc, hk⟩ := C4.below hR
    refine inv_val (G := Kd.ok z (ring17eK A B C 24)) (R := fun x y => Below x.heap.size x y) (hw.trans (by decide)) (v := .agg #[xc]) (w2 := x) (by simp only [execOp, eb4]; go_simp) hK hk (Below.refl _ _)
  | 25, _ =>
    obtain rfl : { dst := some 162, op := Op.load 25 (Operand.tmp 5), type := 25, pos := "outright.go:31", after := #[{ on := 16, ground := Ground.guard }], guard := some (16, true) } = o := Option.some.inj (show ring17eOps[25]? = some _ from ho)
    obtain ⟨t16, g16⟩ := dep 16 (by kernel_rfl)
    have q16 := t16 153 (by rfl)
    have e16 := eval_at q16
    have v16 : f 16 = .bool true := g16
    have hw := wanted_some (ops := ring17eOps) (o := { dst := some 162, op := Op.load 25 (Operand.tmp 5), type := 25, pos := "outright.go:31", after := #[{ on := 16, ground := Ground.guard }], guard := some (16, true) }) (a := a) (j := 16) (s := 153) (b := true) (c := true) rfl (by rfl) (by rw [← v16]; exact q16)
    have qb5 := (bas 5 (by kernel_rfl)).trans h5
    have eb5 := eval_at qb5
    obtain ⟨xc, hc, hk⟩ := C5.below hR
    refine inv_val (G := Kd.ok z (ring17eK A B C 25)) (R := fun x y => Below x.heap.size x y) (hw.trans (by decide)) (v := .agg #[xc]) (w2 := x) (by simp only [execOp, eb5]; go_simp) hK hk (Below.refl _ _)
  | 26, _ =>
    obtain rfl : { dst := some 163, op := Op.buildSlice 32 2 #[(0, Operand.tmp 161), (1, Operand.tmp 162)], type := 32, pos := "outright.go:31", after := #[{ on := 24, ground := Ground.data }, { on := 25, ground := Ground.data }, { on := 16, ground := Ground.guard }], guard := some (16, true) } = o := Option.some.inj (show ring17eOps[26]? = some _ from ho)
    obtain ⟨t16, g16⟩ := dep 16 (by kernel_rfl)
    have q16 := t16 153 (by rfl)
    have e16 := eval_at q16
    have v16 : f 16 = .bool true := g16
    have hw := wanted_some (ops := ring17eOps) (o := { dst := some 163, op := Op.buildSlice 32 2 #[(0, Operand.tmp 161), (1, Operand.tmp 162)], type := 32, pos := "outright.go:31", after := #[{ on := 24, ground := Ground.data }, { on := 25, ground := Ground.data }, { on := 16, ground := Ground.guard }], guard := some (16, true) }) (a := a) (j := 16) (s := 153) (b := true) (c := true) rfl (by rfl) (by rw [← v16]; exact q16)
    obtain ⟨t24, g24⟩ := dep 24 (by kernel_rfl)
    have q24 := t24 161 (by rfl)
    have e24 := eval_at q24
    obtain ⟨t25, g25⟩ := dep 25 (by kernel_rfl)
    have q25 := t25 162 (by rfl)
    have e25 := eval_at q25
    obtain ⟨v, w2, hr, hrow, hb⟩ := st_build2 g24 g25
    refine inv_val (G := Kd.ok z (ring17eK A B C 26)) (R := fun x y => Below x.heap.size x y) (hw.trans (by decide)) (v := v) (w2 := w2) (by simp [execOp, e24, e25, hr]) hK hrow hb
  | 27, _ =>
    obtain rfl : { dst := some 164, op := Op.call { callee := Callee.value (Operand.func 11), args := #[Operand.tmp 163], argTypes := #[32] }, type := 25, pos := "outright.go:31", after := #[{ on := 26, ground := Ground.data }, { on := 23, ground := Ground.chain }, { on := 16, ground := Ground.guard }], guard := some (16, true) } = o := Option.some.inj (show ring17eOps[27]? = some _ from ho)
    obtain ⟨t16, g16⟩ := dep 16 (by kernel_rfl)
    have q16 := t16 153 (by rfl)
    have e16 := eval_at q16
    have v16 : f 16 = .bool true := g16
    have hw := wanted_some (ops := ring17eOps) (o := { dst := some 164, op := Op.call { callee := Callee.value (Operand.func 11), args := #[Operand.tmp 163], argTypes := #[32] }, type := 25, pos := "outright.go:31", after := #[{ on := 26, ground := Ground.data }, { on := 23, ground := Ground.chain }, { on := 16, ground := Ground.guard }], guard := some (16, true) }) (a := a) (j := 16) (s := 153) (b := true) (c := true) rfl (by rfl) (by rw [← v16]; exact q16)
    obtain ⟨t26, g26⟩ := dep 26 (by kernel_rfl)
    have q26 := t26 163 (by rfl)
    have e26 := eval_at q26
    refine inv_call (G := Kd.ok z (ring17eK A B C 27)) (R := fun x y => Below x.heap.size x y) (hw.trans (by decide)) (F := 11) (args := #[f 26]) (by simp [go_sem, q26]) hK ?_
    exact k_add g26 (by simp) N2 hka hzx
  | 28, _ =>
    obtain rfl : { dst := some 165, op := Op.call { callee := Callee.value (Operand.func 16), args := #[Operand.tmp 160, Operand.tmp 164], argTypes := #[25, 25] }, type := 3, pos := "outright.go:31", after := #[{ on := 23, ground := Ground.data }, { on := 27, ground := Ground.data }, { on := 27, ground := Ground.chain }, { on := 16, ground := Ground.guard }], guard := some (16, true) } = o := Option.some.inj (show ring17eOps[28]? = some _ from ho)
    obtain ⟨t16, g16⟩ := dep 16 (by kernel_rfl)
    have q16 := t16 153 (by rfl)
    have e16 := eval_at q16
    have v16 : f 16 = .bool true := g16
    have hw := wanted_some (ops := ring17eOps) (o := { dst := some 165, op := Op.call { callee := Callee.value (Operand.func 16), args := #[Operand.tmp 160, Operand.tmp 164], argTypes := #[25, 25] }, type := 3, pos := "outright.go:31", after := #[{ on := 23, ground := Ground.data }, { on := 27, ground := Ground.data }, { on := 27, ground := Ground.chain }, { on := 16, ground := Ground.guard }], guard := some (16, true) }) (a := a) (j := 16) (s := 153) (b := true) (c := true) rfl (by rfl) (by rw [← v16]; exact q16)
    obtain ⟨t23, g23⟩ := dep 23 (by kernel_rfl)
    have q23 := t23 160 (by rfl)
    have e23 := eval_at q23
    obtain ⟨t27, g27⟩ := dep 27 (by kernel_rfl)
    have q27 := t27 164 (by rfl)
    have e27 := eval_at q27
    refine inv_call (G := Kd.ok z (ring17eK A B C 28)) (R := fun x y => Below x.heap.size x y) (hw.trans (by decide)) (F := 16) (args := #[f 23, f 27]) (by simp [go_sem, q23, q27]) hK ?_
    exact (by have h := k_cmp (z := z) g23.2 g27.2; rw [O2] at h; exact h)
  | 29, _ =>
    obtain rfl : { dst := some 166, op := Op.binOp BinOp.eql 3 (Operand.tmp 156) (Operand.tmp 165) 3, type := 4, pos := "outright.go:31", after := #[{ on := 19, ground := Ground.data }, { on := 28, ground := Ground.data }, { on := 16, ground := Ground.guard }], guard := some (16, true) } = o := Option.some.inj (show ring17eOps[29]? = some _ from ho)
    obtain ⟨t16, g16⟩ := dep 16 (by kernel_rfl)
    have q16 := t16 153 (by rfl)
    have e16 := eval_at q16
    have v16 : f 16 = .bool true := g16
    have hw := wanted_some (ops := ring17eOps) (o := { dst := some 166, op := Op.binOp BinOp.eql 3 (Operand.tmp 156) (Operand.tmp 165) 3, type := 4, pos := "outright.go:31", after := #[{ on := 19, ground := Ground.data }, { on := 28, ground := Ground.data }, { on := 16, ground := Ground.guard }], guard := some (16, true) }) (a := a) (j := 16) (s := 153) (b := true) (c := true) rfl (by rfl) (by rw [← v16]; exact q16)
    obtain ⟨t19, g19⟩ := dep 19 (by kernel_rfl)
    have q19 := t19 156 (by rfl)
    have e19 := eval_at q19
    obtain ⟨t28, g28⟩ := dep 28 (by kernel_rfl)
    have q28 := t28 165 (by rfl)
    have e28 := eval_at q28
    have w16 : f 16 = (.bool true) := g16
    have w19 : f 19 = (.int .i64 (0)) := g19
    have w28 : f 28 = (.int .i64 (0)) := g28
    rw [w19] at e19
    rw [w28] at e28
    refine inv_val (G := Kd.ok z (ring17eK A B C 29)) (R := fun x y => Below x.heap.size x y) (hw.trans (by decide)) (v := (.bool true)) (w2 := x) (by simp only [execOp, e19, e28]; go_simp) hK rfl (Below.refl _ _)
  | 30, _ =>
    obtain rfl : { dst := some 167, op := Op.pick (Operand.tmp 153) (Operand.tmp 166) (Operand.const (Value.bool false)), type := 4, pos := "outright.go:31", after := #[{ on := 16, ground := Ground.data }, { on := 29, ground := Ground.data }], guard := none } = o := Option.some.inj (show ring17eOps[30]? = some _ from ho)
    obtain ⟨t16, g16⟩ := dep 16 (by kernel_rfl)
    have q16 := t16 153 (by rfl)
    have e16 := eval_at q16
    obtain ⟨t29, g29⟩ := dep 29 (by kernel_rfl)
    have q29 := t29 166 (by rfl)
    have e29 := eval_at q29
    have w16 : f 16 = (.bool true) := g16
    have w29 : f 29 = (.bool true) := g29
    rw [w16] at e16
    rw [w29] at e29
    refine inv_val (G := Kd.ok z (ring17eK A B C 30)) (R := fun x y => Below x.heap.size x y) (wanted_none rfl) (v := (.bool true)) (w2 := x) (by simp only [execOp, e16, e29]; go_simp) hK rfl (Below.refl _ _)
  | 31, _ =>
    obtain rfl : { dst := some 168, op := Op.move (Operand.tmp 167), type := 4, pos := "outright.go:31", after := #[{ on := 30, ground := Ground.data }, { on := 28, ground := Ground.chain }], guard := none } = o := Option.some.inj (show ring17eOps[31]? = some _ from ho)
    obtain ⟨t30, g30⟩ := dep 30 (by kernel_rfl)
    have q30 := t30 167 (by rfl)
    have e30 := eval_at q30
    have w30 : f 30 = (.bool true) := g30
    rw [w30] at e30
    refine inv_val (G := Kd.ok z (ring17eK A B C 31)) (R := fun x y => Below x.heap.size x y) (wanted_none rfl) (v := (.bool true)) (w2 := x) (by simp only [execOp, e30]; go_simp) hK rfl (Below.refl _ _)
  | 32, _ =>
    obtain rfl : { dst := some 169, op := Op.load 25 (Operand.tmp 3), type := 25, pos := "outright.go:31", after := #[{ on := 31, ground := Ground.guard }], guard := some (31, true) } = o := Option.some.inj (show ring17eOps[32]? = some _ from ho)
    obtain ⟨t31, g31⟩ := dep 31 (by kernel_rfl)
    have q31 := t31 168 (by rfl)
    have e31 := eval_at q31
    have v31 : f 31 = .bool true := g31
    have hw := wanted_some (ops := ring17eOps) (o := { dst := some 169, op := Op.load 25 (Operand.tmp 3), type := 25, pos := "outright.go:31", after := #[{ on := 31, ground := Ground.guard }], guard := some (31, true) }) (a := a) (j := 31) (s := 168) (b := true) (c := true) rfl (by rfl) (by rw [← v31]; exact q31)
    have qb3 := (bas 3 (by kernel_rfl)).trans h3
    have eb3 := eval_at qb3
    obtain ⟨xc, hc, hk⟩ := C3.below hR
    refine inv_val (G := Kd.ok z (ring17eK A B C 32)) (R := fun x y => Below x.heap.size x y) (hw.trans (by decide)) (v := .agg #[xc]) (w2 := x) (by simp only [execOp, eb3]; go_simp) hK hk (Below.refl _ _)
  | 33, _ =>
    obtain rfl : { dst := some 170, op := Op.load 25 (Operand.tmp 4), type := 25, pos := "outright.go:31", after := #[{ on := 31, ground := Ground.guard }], guard := some (31, true) } = o := Option.some.inj (show ring17eOps[33]? = some _ from ho)
    obtain ⟨t31, g31⟩ := dep 31 (by kernel_rfl)
    have q31 := t31 168 (by rfl)
    have e31 := eval_at q31
    have v31 : f 31 = .bool true := g31
    have hw := wanted_some (ops := ring17eOps) (o := { dst := some 170, op := Op.load 25 (Operand.tmp 4), type := 25, pos := "outright.go:31", after := #[{ on := 31, ground := Ground.guard }], guard := some (31, true) }) (a := a) (j := 31) (s := 168) (b := true) (c := true) rfl (by rfl) (by rw [← v31]; exact q31)
    have qb4 := (bas 4 (by kernel_rfl)).trans h4
    have eb4 := eval_at qb4
    obtain ⟨xc, hc, hk⟩ := C4.below hR
    refine inv_val (G := Kd.ok z (ring17eK A B C 33)) (R := fun x y => Below x.heap.size x y) (hw.trans (by decide)) (v := .agg #[xc]) (w2 := x) (by simp only [execOp, eb4]; go_simp) hK hk (Below.refl _ _)
  | 34, _ =>
    obtain rfl : { dst := some 171, op := Op.call { callee := Callee.value (Operand.func 16), args := #[Operand.tmp 169, Operand.tmp 170], argTypes := #[25, 25] }, type := 3, pos := "outright.go:31", after := #[{ on := 32, ground := Ground.data }, { on := 33, ground := Ground.data }, { on := 31, ground := Ground.chain }, { on := 31, ground := Ground.guard }], guard := some (31, true) } = o := Option.some.inj (show ring17eOps[34]? = some _ from ho)
    obtain ⟨t31, g31⟩ := dep 31 (by kernel_rfl)
    have q31 := t31 168 (by rfl)
    have e31 := eval_at q31
    have v31 : f 31 = .bool true := g31
    have hw := wanted_some (ops := ring17eOps) (o := { dst := some 171, op := Op.call { callee := Callee.value (Operand.func 16), args := #[Operand.tmp 169, Operand.tmp 170], argTypes := #[25, 25] }, type := 3, pos := "outright.go:31", after := #[{ on := 32, ground := Ground.data }, { on := 33, ground := Ground.data }, { on := 31, ground := Ground.chain }, { on := 31, ground := Ground.guard }], guard := some (31, true) }) (a := a) (j := 31) (s := 168) (b := true) (c := true) rfl (by rfl) (by rw [← v31]; exact q31)
    obtain ⟨t32, g32⟩ := dep 32 (by kernel_rfl)
    have q32 := t32 169 (by rfl)
    have e32 := eval_at q32
    obtain ⟨t33, g33⟩ := dep 33 (by kernel_rfl)
    have q33 := t33 170 (by rfl)
    have e33 := eval_at q33
    refine inv_call (G := Kd.ok z (ring17eK A B C 34)) (R := fun x y => Below x.heap.size x y) (hw.trans (by decide)) (F := 16) (args := #[f 32, f 33]) (by simp [go_sem, q32, q33]) hK ?_
    exact (by have h := k_cmp (z := z) g32 g33; rw [O1] at h; exact h)
  | 35, _ =>
    obtain rfl : { dst := some 172, op := Op.load 25 (Operand.tmp 4), type := 25, pos := "outright.go:31", after := #[{ on := 31, ground := Ground.guard }], guard := some (31, true) } = o := Option.some.inj (show ring17eOps[35]? = some _ from ho)
    obtain ⟨t31, g31⟩ := dep 31 (by kernel_rfl)
    have q31 := t31 168 (by rfl)
    have e31 := eval_at q31
    have v31 : f 31 = .bool true := g31
    have hw := wanted_some (ops := ring17eOps) (o := { dst := some 172, op := Op.load 25 (Operand.tmp 4), type := 25, pos := "outright.go:31", after := #[{ on := 31, ground := Ground.guard }], guard := some (31, true) }) (a := a) (j := 31) (s := 168) (b := true) (c := true) rfl (by rfl) (by rw [← v31]; exact q31)
    have qb4 := (bas 4 (by kernel_rfl)).trans h4
    have eb4 := eval_at qb4
    obtain ⟨xc, hc, hk⟩ := C4.below hR
    refine inv_val (G := Kd.ok z (ring17eK A B C 35)) (R := fun x y => Below x.heap.size x y) (hw.trans (by decide)) (v := .agg #[xc]) (w2 := x) (by simp only [execOp, eb4]; go_simp) hK hk (Below.refl _ _)
  | 36, _ =>
    obtain rfl : { dst := some 173, op := Op.load 25 (Operand.tmp 3), type := 25, pos := "outright.go:31", after := #[{ on := 31, ground := Ground.guard }], guard := some (31, true) } = o := Option.some.inj (show ring17eOps[36]? = some _ from ho)
    obtain ⟨t31, g31⟩ := dep 31 (by kernel_rfl)
    have q31 := t31 168 (by rfl)
    have e31 := eval_at q31
    have v31 : f 31 = .bool true := g31
    have hw := wanted_some (ops := ring17eOps) (o := { dst := some 173, op := Op.load 25 (Operand.tmp 3), type := 25, pos := "outright.go:31", after := #[{ on := 31, ground := Ground.guard }], guard := some (31, true) }) (a := a) (j := 31) (s := 168) (b := true) (c := true) rfl (by rfl) (by rw [← v31]; exact q31)
    have qb3 := (bas 3 (by kernel_rfl)).trans h3
    have eb3 := eval_at qb3
    obtain ⟨xc, hc, hk⟩ := C3.below hR
    refine inv_val (G := Kd.ok z (ring17eK A B C 36)) (R := fun x y => Below x.heap.size x y) (hw.trans (by decide)) (v := .agg #[xc]) (w2 := x) (by simp only [execOp, eb3]; go_simp) hK hk (Below.refl _ _)
  | 37, _ =>
    obtain rfl : { dst := some 174, op := Op.call { callee := Callee.value (Operand.func 16), args := #[Operand.tmp 172, Operand.tmp 173], argTypes := #[25, 25] }, type := 3, pos := "outright.go:31", after := #[{ on := 35, ground := Ground.data }, { on := 36, ground := Ground.data }, { on := 34, ground := Ground.chain }, { on := 31, ground := Ground.guard }], guard := some (31, true) } = o := Option.some.inj (show ring17eOps[37]? = some _ from ho)
    obtain ⟨t31, g31⟩ := dep 31 (by kernel_rfl)
    have q31 := t31 168 (by rfl)
    have e31 := eval_at q31
    have v31 : f 31 = .bool true := g31
    have hw := wanted_some (ops := ring17eOps) (o := { dst := some 174, op := Op.call { callee := Callee.value (Operand.func 16), args := #[Operand.tmp 172, Operand.tmp 173], argTypes := #[25, 25] }, type := 3, pos := "outright.go:31", after := #[{ on := 35, ground := Ground.data }, { on := 36, ground := Ground.data }, { on := 34, ground := Ground.chain }, { on := 31, ground := Ground.guard }], guard := some (31, true) }) (a := a) (j := 31) (s := 168) (b := true) (c := true) rfl (by rfl) (by rw [← v31]; exact q31)
    obtain ⟨t35, g35⟩ := dep 35 (by kernel_rfl)
    have q35 := t35 172 (by rfl)
    have e35 := eval_at q35
    obtain ⟨t36, g36⟩ := dep 36 (by kernel_rfl)
    have q36 := t36 173 (by rfl)
    have e36 := eval_at q36
    refine inv_call (G := Kd.ok z (ring17eK A B C 37)) (R := fun x y => Below x.heap.size x y) (hw.trans (by decide)) (F := 16) (args := #[f 35, f 36]) (by simp [go_sem, q35, q36]) hK ?_
    exact (by have h := k_cmp (z := z) g35 g36; rw [O3] at h; exact h)
  | 38, _ =>
    obtain rfl : { dst := some 175, op := Op.unOp UnOp.neg 3 (Operand.tmp 174), type := 3, pos := "outright.go:31", after := #[{ on := 37, ground := Ground.data }, { on := 31, ground := Ground.guard }], guard := some (31, true) } = o := Option.some.inj (show ring17eOps[38]? = some _ from ho)
    obtain ⟨t31, g31⟩ := dep 31 (by kernel_rfl)
    have q31 := t31 168 (by rfl)
    have e31 := eval_at q31
    have v31 : f 31 = .bool true := g31
    have hw := wanted_some (ops := ring17eOps) (o := { dst := some 175, op := Op.unOp UnOp.neg 3 (Operand.tmp 174), type := 3, pos := "outright.go:31", after := #[{ on := 37, ground := Ground.data }, { on := 31, ground := Ground.guard }], guard := some (31, true) }) (a := a) (j := 31) (s := 168) (b := true) (c := true) rfl (by rfl) (by rw [← v31]; exact q31)
    obtain ⟨t37, g37⟩ := dep 37 (by kernel_rfl)
    have q37 := t37 174 (by rfl)
    have e37 := eval_at q37
    have w31 : f 31 = (.bool true) := g31
    have w37 : f 37 = (.int .i64 (0)) := g37
    rw [w37] at e37
    refine inv_val (G := Kd.ok z (ring17eK A B C 38)) (R := fun x y => Below x.heap.size x y) (hw.trans (by decide)) (v := (.int .i64 (0))) (w2 := x) (by simp only [execOp, e37]; go_simp <;> decide) hK rfl (Below.refl _ _)
  | 39, _ =>
    obtain rfl : { dst := some 176, op := Op.binOp BinOp.eql 3 (Operand.tmp 171) (Operand.tmp 175) 3, type := 4, pos := "outright.go:31", after := #[{ on := 34, ground := Ground.data }, { on := 38, ground := Ground.data }, { on := 31, ground := Ground.guard }], guard := some (31, true) } = o := Option.some.inj (show ring17eOps[39]? = some _ from ho)
    obtain ⟨t31, g31⟩ := dep 31 (by kernel_rfl)
    have q31 := t31 168 (by rfl)
    have e31 := eval_at q31
    have v31 : f 31 = .bool true := g31
    have hw := wanted_some (ops := ring17eOps) (o := { dst := some 176, op := Op.binOp BinOp.eql 3 (Operand.tmp 171) (Operand.tmp 175) 3, type := 4, pos := "outright.go:31", after := #[{ on := 34, ground := Ground.data }, { on := 38, ground := Ground.data }, { on := 31, ground := Ground.guard }], guard := some (31, true) }) (a := a) (j := 31) (s := 168) (b := true) (c := true) rfl (by rfl) (by rw [← v31]; exact q31)
    obtain ⟨t34, g34⟩ := dep 34 (by kernel_rfl)
    have q34 := t34 171 (by rfl)
    have e34 := eval_at q34
    obtain ⟨t38, g38⟩ := dep 38 (by kernel_rfl)
    have q38 := t38 175 (by rfl)
    have e38 := eval_at q38
    have w31 : f 31 = (.bool true) := g31
    have w34 : f 34 = (.int .i64 (0)) := g34
    have w38 : f 38 = (.int .i64 (0)) := g38
    rw [w34] at e34
    rw [w38] at e38
    refine inv_val (G := Kd.ok z (ring17eK A B C 39)) (R := fun x y => Below x.heap.size x y) (hw.trans (by decide)) (v := (.bool true)) (w2 := x) (by simp only [execOp, e34, e38]; go_simp) hK rfl (Below.refl _ _)
  | 40, _ =>
    obtain rfl : { dst := some 177, op := Op.pick (Operand.tmp 168) (Operand.tmp 176) (Operand.const (Value.bool false)), type := 4, pos := "outright.go:31", after := #[{ on := 31, ground := Ground.data }, { on := 39, ground := Ground.data }], guard := none } = o := Option.some.inj (show ring17eOps[40]? = some _ from ho)
    obtain ⟨t31, g31⟩ := dep 31 (by kernel_rfl)
    have q31 := t31 168 (by rfl)
    have e31 := eval_at q31
    obtain ⟨t39, g39⟩ := dep 39 (by kernel_rfl)
    have q39 := t39 176 (by rfl)
    have e39 := eval_at q39
    have w31 : f 31 = (.bool true) := g31
    have w39 : f 39 = (.bool true) := g39
    rw [w31] at e31
    rw [w39] at e39
    refine inv_val (G := Kd.ok z (ring17eK A B C 40)) (R := fun x y => Below x.heap.size x y) (wanted_none rfl) (v := (.bool true)) (w2 := x) (by simp only [execOp, e31, e39]; go_simp) hK rfl (Below.refl _ _)
  | 41, _ =>
    obtain rfl : { dst := some 178, op := Op.move (Operand.tmp 177), type := 4, pos := "outright.go:31", after := #[{ on := 40, ground := Ground.data }, { on := 37, ground := Ground.chain }], guard := none } = o := Option.some.inj (show ring17eOps[41]? = some _ from ho)
    obtain ⟨t40, g40⟩ := dep 40 (by kernel_rfl)
    have q40 := t40 177 (by rfl)
    have e40 := eval_at q40
    have w40 : f 40 = (.bool true) := g40
    rw [w40] at e40
    refine inv_val (G := Kd.ok z (ring17eK A B C 41)) (R := fun x y => Below x.heap.size x y) (wanted_none rfl) (v := (.bool true)) (w2 := x) (by simp only [execOp, e40]; go_simp) hK rfl (Below.refl _ _)
  | 42, _ =>
    obtain rfl : { dst := some 179, op := Op.load 25 (Operand.tmp 3), type := 25, pos := "outright.go:31", after := #[{ on := 41, ground := Ground.guard }], guard := some (41, true) } = o := Option.some.inj (show ring17eOps[42]? = some _ from ho)
    obtain ⟨t41, g41⟩ := dep 41 (by kernel_rfl)
    have q41 := t41 178 (by rfl)
    have e41 := eval_at q41
    have v41 : f 41 = .bool true := g41
    have hw := wanted_some (ops := ring17eOps) (o := { dst := some 179, op := Op.load 25 (Operand.tmp 3), type := 25, pos := "outright.go:31", after := #[{ on := 41, ground := Ground.guard }], guard := some (41, true) }) (a := a) (j := 41) (s := 178) (b := true) (c := true) rfl (by rfl) (by rw [← v41]; exact q41)
    have qb3 := (bas 3 (by kernel_rfl)).trans h3
    have eb3 := eval_at qb3
    obtain ⟨xc, hc, hk⟩ := C3.below hR
    refine inv_val (G := Kd.ok z (ring17eK A B C 42)) (R := fun x y => Below x.heap.size x y) (hw.trans (by decide)) (v := .agg #[xc]) (w2 := x) (by simp only [execOp, eb3]; go_simp) hK hk (Below.refl _ _)
  | 43, _ =>
    obtain rfl : { dst := some 180, op := Op.load 25 (Operand.tmp 4), type := 25, pos := "outright.go:31", after := #[{ on := 41, ground := Ground.guard }], guard := some (41, true) } = o := Option.some.inj (show ring17eOps[43]? = some _ from ho)
    obtain ⟨t41, g41⟩ := dep 41 (by kernel_rfl)
    have q41 := t41 178 (by rfl)
    have e41 := eval_at q41
    have v41 : f 41 = .bool true := g41
    have hw := wanted_some (ops := ring17eOps) (o := { dst := some 180, op := Op.load 25 (Operand.tmp 4), type := 25, pos := "outright.go:31", after := #[{ on := 41, ground := Ground.guard }], guard := some (41, true) }) (a := a) (j := 41) (s := 178) (b := true) (c := true) rfl (by rfl) (by rw [← v41]; exact q41)
    have qb4 := (bas 4 (by kernel_rfl)).trans h4
    have eb4 := eval_at qb4
    obtain ⟨xc, hc, hk⟩ := C4.below hR
    refine inv_val (G := Kd.ok z (ring17eK A B C 43)) (R := fun x y => Below x.heap.size x y) (hw.trans (by decide)) (v := .agg #[xc]) (w2 := x) (by simp only [execOp, eb4]; go_simp) hK hk (Below.refl _ _)
  | 44, _ =>
    obtain rfl : { dst := some 181, op := Op.call { callee := Callee.value (Operand.func 16), args := #[Operand.tmp 179, Operand.tmp 180], argTypes := #[25, 25] }, type := 3, pos := "outright.go:31", after := #[{ on := 42, ground := Ground.data }, { on := 43, ground := Ground.data }, { on := 41, ground := Ground.chain }, { on := 41, ground := Ground.guard }], guard := some (41, true) } = o := Option.some.inj (show ring17eOps[44]? = some _ from ho)
    obtain ⟨t41, g41⟩ := dep 41 (by kernel_rfl)
    have q41 := t41 178 (by rfl)
    have e41 := eval_at q41
    have v41 : f 41 = .bool true := g41
    have hw := wanted_some (ops := ring17eOps) (o := { dst := some 181, op := Op.call { callee := Callee.value (Operand.func 16), args := #[Operand.tmp 179, Operand.tmp 180], argTypes := #[25, 25] }, type := 3, pos := "outright.go:31", after := #[{ on := 42, ground := Ground.data }, { on := 43, ground := Ground.data }, { on := 41, ground := Ground.chain }, { on := 41, ground := Ground.guard }], guard := some (41, true) }) (a := a) (j := 41) (s := 178) (b := true) (c := true) rfl (by rfl) (by rw [← v41]; exact q41)
    obtain ⟨t42, g42⟩ := dep 42 (by kernel_rfl)
    have q42 := t42 179 (by rfl)
    have e42 := eval_at q42
    obtain ⟨t43, g43⟩ := dep 43 (by kernel_rfl)
    have q43 := t43 180 (by rfl)
    have e43 := eval_at q43
    refine inv_call (G := Kd.ok z (ring17eK A B C 44)) (R := fun x y => Below x.heap.size x y) (hw.trans (by decide)) (F := 16) (args := #[f 42, f 43]) (by simp [go_sem, q42, q43]) hK ?_
    exact (by have h := k_cmp (z := z) g42 g43; rw [O1] at h; exact h)
  | 45, _ =>
    obtain rfl : { dst := some 182, op := Op.binOp BinOp.neq 3 (Operand.tmp 181) (Operand.const (Value.int IntKind.i64 0)) 3, type := 4, pos := "outright.go:31", after := #[{ on := 44, ground := Ground.data }, { on := 41, ground := Ground.guard }], guard := some (41, true) } = o := Option.some.inj (show ring17eOps[45]? = some _ from ho)
    obtain ⟨t41, g41⟩ := dep 41 (by kernel_rfl)
    have q41 := t41 178 (by rfl)
    have e41 := eval_at q41
    have v41 : f 41 = .bool true := g41
    have hw := wanted_some (ops := ring17eOps) (o := { dst := some 182, op := Op.binOp BinOp.neq 3 (Operand.tmp 181) (Operand.const (Value.int IntKind.i64 0)) 3, type := 4, pos := "outright.go:31", after := #[{ on := 44, ground := Ground.data }, { on := 41, ground := Ground.guard }], guard := some (41, true) }) (a := a) (j := 41) (s := 178) (b := true) (c := true) rfl (by rfl) (by rw [← v41]; exact q41)
    obtain ⟨t44, g44⟩ := dep 44 (by kernel_rfl)
    have q44 := t44 181 (by rfl)
    have e44 := eval_at q44
    have w41 : f 41 = (.bool true) := g41
    have w44 : f 44 = (.int .i64 (0)) := g44
    rw [w44] at e44
    refine inv_val (G := Kd.ok z (ring17eK A B C 45)) (R := fun x y => Below x.heap.size x y) (hw.trans (by decide)) (v := (.bool false)) (w2 := x) (by simp only [execOp, e44]; go_simp) hK rfl (Below.refl _ _)
  | 46, _ =>
    obtain rfl : { dst := some 183, op := Op.move (Operand.tmp 182), type := 4, pos := "outright.go:31", after := #[{ on := 45, ground := Ground.data }, { on := 44, ground := Ground.chain }, { on := 41, ground := Ground.guard }], guard := some (41, true) } = o := Option.some.inj (show ring17eOps[46]? = some _ from ho)
    obtain ⟨t41, g41⟩ := dep 41 (by kernel_rfl)
    have q41 := t41 178 (by rfl)
    have e41 := eval_at q41
    have v41 : f 41 = .bool true := g41
    have hw := wanted_some (ops := ring17eOps) (o := { dst := some 183, op := Op.move (Operand.tmp 182), type := 4, pos := "outright.go:31", after := #[{ on := 45, ground := Ground.data }, { on := 44, ground := Ground.chain }, { on := 41, ground := Ground.guard }], guard := some (41, true) }) (a := a) (j := 41) (s := 178) (b := true) (c := true) rfl (by rfl) (by rw [← v41]; exact q41)
    obtain ⟨t45, g45⟩ := dep 45 (by kernel_rfl)
    have q45 := t45 182 (by rfl)
    have e45 := eval_at q45
    have w41 : f 41 = (.bool true) := g41
    have w45 : f 45 = (.bool false) := g45
    rw [w45] at e45
    refine inv_val (G := Kd.ok z (ring17eK A B C 46)) (R := fun x y => Below x.heap.size x y) (hw.trans (by decide)) (v := (.bool false)) (w2 := x) (by simp only [execOp, e45]; go_simp) hK rfl (Below.refl _ _)
  | 47, _ =>
    obtain rfl : { dst := some 184, op := Op.load 25 (Operand.tmp 3), type := 25, pos := "outright.go:31", after := #[{ on := 46, ground := Ground.guard }], guard := some (46, false) } = o := Option.some.inj (show ring17eOps[47]? = some _ from ho)
    obtain ⟨t46, g46⟩ := dep 46 (by kernel_rfl)
    have q46 := t46 183 (by rfl)
    have e46 := eval_at q46
    have v46 : f 46 = .bool false := g46
    have hw := wanted_some (ops := ring17eOps) (o := { dst := some 184, op := Op.load 25 (Operand.tmp 3), type := 25, pos := "outright.go:31", after := #[{ on := 46, ground := Ground.guard }], guard := some (46, false) }) (a := a) (j := 46) (s := 183) (b := false) (c := false) rfl (by rfl) (by rw [← v46]; exact q46)
    have qb3 := (bas 3 (by kernel_rfl)).trans h3
    have eb3 := eval_at qb3
    obtain ⟨xc, hc, hk⟩ := C3.below hR
    refine inv_val (G := Kd.ok z (ring17eK A B C 47)) (R := fun x y => Below x.heap.size x y) (hw.trans (by decide)) (v := .agg #[xc]) (w2 := x) (by simp only [execOp, eb3]; go_simp) hK hk (Below.refl _ _)
  | 48, _ =>
    obtain rfl : { dst := some 185, op := Op.call { callee := Callee.value (Operand.func 13), args := #[Operand.tmp 184], argTypes := #[25] }, type := 9, pos := "outright.go:31", after := #[{ on := 47, ground := Ground.data }, { on := 46, ground := Ground.chain }, { on := 46, ground := Ground.guard }], guard := some (46, false) } = o := Option.some.inj (show ring17eOps[48]? = some _ from ho)
    obtain ⟨t46, g46⟩ := dep 46 (by kernel_rfl)
    have q46 := t46 183 (by rfl)
    have e46 := eval_at q46
    have v46 : f 46 = .bool false := g46
    have hw := wanted_some (ops := ring17eOps) (o := { dst := some 185, op := Op.call { callee := Callee.value (Operand.func 13), args := #[Operand.tmp 184], argTypes := #[25] }, type := 9, pos := "outright.go:31", after := #[{ on := 47, ground := Ground.data }, { on := 46, ground := Ground.chain }, { on := 46, ground := Ground.guard }], guard := some (46, false) }) (a := a) (j := 46) (s := 183) (b := false) (c := false) rfl (by rfl) (by rw [← v46]; exact q46)
    obtain ⟨t47, g47⟩ := dep 47 (by kernel_rfl)
    have q47 := t47 184 (by rfl)
    have e47 := eval_at q47
    refine inv_call (G := Kd.ok z (ring17eK A B C 48)) (R := fun x y => Below x.heap.size x y) (hw.trans (by decide)) (F := 13) (args := #[f 47]) (by simp [go_sem, q47]) hK ?_
    exact k_text g47 (tabIs_below htab hR)
  | 49, _ =>
    obtain rfl : { dst := some 186, op := Op.load 25 (Operand.tmp 4), type := 25, pos := "outright.go:31", after := #[{ on := 46, ground := Ground.guard }], guard := some (46, false) } = o := Option.some.inj (show ring17eOps[49]? = some _ from ho)
    obtain ⟨t46, g46⟩ := dep 46 (by kernel_rfl)
    have q46 := t46 183 (by rfl)
    have e46 := eval_at q46
    have v46 : f 46 = .bool false := g46
    have hw := wanted_some (ops := ring17eOps) (o := { dst := some 186, op := Op.load 25 (Operand.tmp 4), type := 25, pos := "outright.go:31", after := #[{ on := 46, ground := Ground.guard }], guard := some (46, false) }) (a := a) (j := 46) (s := 183) (b := false) (c := false) rfl (by rfl) (by rw [← v46]; exact q46)
    have qb4 := (bas 4 (by kernel_rfl)).trans h4
    have eb4 := eval_at qb4
    obtain ⟨xc, hc, hk⟩ := C4.below hR
    refine inv_val (G := Kd.ok z (ring17eK A B C 49)) (R := fun x y => Below x.heap.size x y) (hw.trans (by decide)) (v := .agg #[xc]) (w2 := x) (by simp only [execOp, eb4]; go_simp) hK hk (Below.refl _ _)
  | 50, _ =>
    obtain rfl : { dst := some 187, op := Op.call { callee := Callee.value (Operand.func 13), args := #[Operand.tmp 186], argTypes := #[25] }, type := 9, pos := "outright.go:31", after := #[{ on := 49, ground := Ground.data }, { on := 48, ground := Ground.chain }, { on := 46, ground := Ground.guard }], guard := some (46, false) } = o := Option.some.inj (show ring17eOps[50]? = some _ from ho)
    obtain ⟨t46, g46⟩ := dep 46 (by kernel_rfl)
    have q46 := t46 183 (by rfl)
    have e46 := eval_at q46
    have v46 : f 46 = .bool false := g46
    have hw := wanted_some (ops := ring17eOps) (o := { dst := some 187, op := Op.call { callee := Callee.value (Operand.func 13), args := #[Operand.tmp 186], argTypes := #[25] }, type := 9, pos := "outright.go:31", after := #[{ on := 49, ground := Ground.data }, { on := 48, ground := Ground.chain }, { on := 46, ground := Ground.guard }], guard := some (46, false) }) (a := a) (j := 46) (s := 183) (b := false) (c := false) rfl (by rfl) (by rw [← v46]; exact q46)
    obtain ⟨t49, g49⟩ := dep 49 (by kernel_rfl)
    have q49 := t49 186 (by rfl)
    have e49 := eval_at q49
    refine inv_call (G := Kd.ok z (ring17eK A B C 50)) (R := fun x y => Below x.heap.size x y) (hw.trans (by decide)) (F := 13) (args := #[f 49]) (by simp [go_sem, q49]) hK ?_
    exact (by have h := k_text (z := z) g49 (tabIs_below htab hR); rw [EB] at h; exact h)
  | 51, _ =>
    obtain rfl : { dst := some 188, op := Op.binOp BinOp.eql 9 (Operand.tmp 185) (Operand.tmp 187) 9, type := 4, pos := "outright.go:31", after := #[{ on := 48, ground := Ground.data }, { on := 50, ground := Ground.data }, { on := 46, ground := Ground.guard }], guard := some (46, false) } = o := Option.some.inj (show ring17eOps[51]? = some _ from ho)
    obtain ⟨t46, g46⟩ := dep 46 (by kernel_rfl)
    have q46 := t46 183 (by rfl)
    have e46 := eval_at q46
    have v46 : f 46 = .bool false := g46
    have hw := wanted_some (ops := ring17eOps) (o := { dst := some 188, op := Op.binOp BinOp.eql 9 (Operand.tmp 185) (Operand.tmp 187) 9, type := 4, pos := "outright.go:31", after := #[{ on := 48, ground := Ground.data }, { on := 50, ground := Ground.data }, { on := 46, ground := Ground.guard }], guard := some (46, false) }) (a := a) (j := 46) (s := 183) (b := false) (c := false) rfl (by rfl) (by rw [← v46]; exact q46)
    obtain ⟨t48, g48⟩ := dep 48 (by kernel_rfl)
    have q48 := t48 185 (by rfl)
    have e48 := eval_at q48
    obtain ⟨t50, g50⟩ := dep 50 (by kernel_rfl)
    have q50 := t50 187 (by rfl)
    have e50 := eval_at q50
    have w46 : f 46 = (.bool false) := g46
    have w48 : f 48 = (.string ⟨(Lib.decDigits A).toArray⟩) := g48
    have w50 : f 50 = (.string ⟨(Lib.decDigits A).toArray⟩) := g50
    rw [w48] at e48
    rw [w50] at e50
    refine inv_val (G := Kd.ok z (ring17eK A B C 51)) (R := fun x y => Below x.heap.size x y) (hw.trans (by decide)) (v := (.bool true)) (w2 := x) (by simp only [execOp, e48, e50]; go_simp) hK rfl (Below.refl _ _)
  | 52, _ =>
    obtain rfl : { dst := some 189, op := Op.pick (Operand.tmp 183) (Operand.const (Value.bool true)) (Operand.tmp 188), type := 4, pos := "outright.go:31", after := #[{ on := 46, ground := Ground.data }, { on := 51, ground := Ground.data }, { on := 41, ground := Ground.guard }], guard := some (41, true) } = o := Option.some.inj (show ring17eOps[52]? = some _ from ho)
    obtain ⟨t41, g41⟩ := dep 41 (by kernel_rfl)
    have q41 := t41 178 (by rfl)
    have e41 := eval_at q41
    have v41 : f 41 = .bool true := g41
    have hw := wanted_some (ops := ring17eOps) (o := { dst := some 189, op := Op.pick (Operand.tmp 183) (Operand.const (Value.bool true)) (Operand.tmp 188), type := 4, pos := "outright.go:31", after := #[{ on := 46, ground := Ground.data }, { on := 51, ground := Ground.data }, { on := 41, ground := Ground.guard }], guard := some (41, true) }) (a := a) (j := 41) (s := 178) (b := true) (c := true) rfl (by rfl) (by rw [← v41]; exact q41)
    obtain ⟨t46, g46⟩ := dep 46 (by kernel_rfl)
    have q46 := t46 183 (by rfl)
    have e46 := eval_at q46
    obtain ⟨t51, g51⟩ := dep 51 (by kernel_rfl)
    have q51 := t51 188 (by rfl)
    have e51 := eval_at q51
    have w41 : f 41 = (.bool true) := g41
    have w46 : f 46 = (.bool false) := g46
    have w51 : f 51 = (.bool true) := g51
    rw [w46] at e46
    rw [w51] at e51
    refine inv_val (G := Kd.ok z (ring17eK A B C 52)) (R := fun x y => Below x.heap.size x y) (hw.trans (by decide)) (v := (.bool true)) (w2 := x) (by simp only [execOp, e46, e51]; go_simp) hK rfl (Below.refl _ _)
  | 53, _ =>
    obtain rfl : { dst := some 190, op := Op.pick (Operand.tmp 178) (Operand.tmp 189) (Operand.const (Value.bool false)), type := 4, pos := "outright.go:31", after := #[{ on := 41, ground := Ground.data }, { on := 52, ground := Ground.data }], guard := none } = o := Option.some.inj (show ring17eOps[53]? = some _ from ho)
    obtain ⟨t41, g41⟩ := dep 41 (by kernel_rfl)
    have q41 := t41 178 (by rfl)
    have e41 := eval_at q41
    obtain ⟨t52, g52⟩ := dep 52 (by kernel_rfl)
    have q52 := t52 189 (by rfl)
    have e52 := eval_at q52
    have w41 : f 41 = (.bool true) := g41
    have w52 : f 52 = (.bool true) := g52
    rw [w41] at e41
    rw [w52] at e52
    refine inv_val (G := Kd.ok z (ring17eK A B C 53)) (R := fun x y => Below x.heap.size x y) (wanted_none rfl) (v := (.bool true)) (w2 := x) (by simp only [execOp, e41, e52]; go_simp) hK rfl (Below.refl _ _)
  | 54, _ =>
    obtain rfl : { dst := some 6, op := Op.assign (Operand.tmp 190), type := 4, pos := "outright.go:31", after := #[{ on := 53, ground := Ground.data }, { on := 50, ground := Ground.chain }, { on := 0, ground := Ground.phase }, { on := 1, ground := Ground.phase }, { on := 2, ground := Ground.phase }, { on := 3, ground := Ground.phase }, { on := 4, ground := Ground.phase }, { on := 5, ground := Ground.phase }, { on := 6, ground := Ground.phase }, { on := 7, ground := Ground.phase }, { on := 8, ground := Ground.phase }, { on := 9, ground := Ground.phase }, { on := 10, ground := Ground.phase }, { on := 11, ground := Ground.phase }, { on := 12, ground := Ground.phase }, { on := 13, ground := Ground.phase }, { on := 14, ground := Ground.phase }, { on := 15, ground := Ground.phase }, { on := 16, ground := Ground.phase }, { on := 17, ground := Ground.phase }, { on := 18, ground := Ground.phase }, { on := 19, ground := Ground.phase }, { on := 20, ground := Ground.phase }, { on := 21, ground := Ground.phase }, { on := 22, ground := Ground.phase }, { on := 23, ground := Ground.phase }, { on := 24, ground := Ground.phase }, { on := 25, ground := Ground.phase }, { on := 26, ground := Ground.phase }, { on := 27, ground := Ground.phase }, { on := 28, ground := Ground.phase }, { on := 29, ground := Ground.phase }, { on := 30, ground := Ground.phase }, { on := 31, ground := Ground.phase }, { on := 32, ground := Ground.phase }, { on := 33, ground := Ground.phase }, { on := 34, ground := Ground.phase }, { on := 35, ground := Ground.phase }, { on := 36, ground := Ground.phase }, { on := 37, ground := Ground.phase }, { on := 38, ground := Ground.phase }, { on := 39, ground := Ground.phase }, { on := 40, ground := Ground.phase }, { on := 41, ground := Ground.phase }, { on := 42, ground := Ground.phase }, { on := 43, ground := Ground.phase }, { on := 44, ground := Ground.phase }, { on := 45, ground := Ground.phase }, { on := 46, ground := Ground.phase }, { on := 47, ground := Ground.phase }, { on := 48, ground := Ground.phase }, { on := 49, ground := Ground.phase }, { on := 50, ground := Ground.phase }, { on := 51, ground := Ground.phase }, { on := 52, ground := Ground.phase }, { on := 53, ground := Ground.phase }], guard := none } = o := Option.some.inj (show ring17eOps[54]? = some _ from ho)
    obtain ⟨t53, g53⟩ := dep 53 (by kernel_rfl)
    have q53 := t53 190 (by rfl)
    have e53 := eval_at q53
    have w53 : f 53 = (.bool true) := g53
    rw [w53] at e53
    refine inv_val (G := Kd.ok z (ring17eK A B C 54)) (R := fun x y => Below x.heap.size x y) (wanted_none rfl) (v := (.bool true)) (w2 := x) (by simp only [execOp, e53]; go_simp) hK rfl (Below.refl _ _)
def ring17gOps : Array Oper := #[{ dst := some 137, op := Op.move (Operand.tmp 14), type := 4, pos := "outright.go:31", after := #[], guard := none },
  { dst := some 138, op := Op.move (Operand.tmp 137), type := 4, pos := "outright.go:31", after := #[{ on := 0, ground := Ground.data }], guard := none },
  { dst := some 139, op := Op.load 25 (Operand.tmp 13), type := 25, pos := "outright.go:31", after := #[{ on := 1, ground := Ground.guard }], guard := some (1, true) },
  { dst := some 140, op := Op.load 25 (Operand.tmp 3), type := 25, pos := "outright.go:31", after := #[{ on := 1, ground := Ground.guard }], guard := some (1, true) },
  { dst := some 141, op := Op.buildSlice 32 1 #[(0, Operand.tmp 140)], type := 32, pos := "outright.go:31", after := #[{ on := 3, ground := Ground.data }, { on := 1, ground := Ground.guard }], guard := some (1, true) },
  { dst := some 142, op := Op.call { callee := Callee.value (Operand.func 11), args := #[Operand.tmp 141], argTypes := #[32] }, type := 25, pos := "outright.go:31", after := #[{ on := 4, ground := Ground.data }, { on := 1, ground := Ground.chain }, { on := 1, ground := Ground.guard }], guard := some (1, true) },
  { dst := some 143, op := Op.call { callee := Callee.value (Operand.func 9), args := #[Operand.tmp 139, Operand.tmp 142], argTypes := #[25, 25] }, type := 4, pos := "outright.go:31", after := #[{ on := 2, ground := Ground.data }, { on := 5, ground := Ground.data }, { on := 5, ground := Ground.chain }, { on := 1, ground := Ground.guard }], guard := some (1, true) },
  { dst := some 144, op := Op.pick (Operand.tmp 138) (Operand.tmp 143) (Operand.const (Value.bool false)), type := 4, pos := "outright.go:31", after := #[{ on := 1, ground := Ground.data }, { on := 6, ground := Ground.data }], guard := none },
  { dst := some 145, op := Op.move (Operand.tmp 144), type := 4, pos := "outright.go:31", after := #[{ on := 7, ground := Ground.data }, { on := 6, ground := Ground.chain }], guard := none },
  { dst := some 146, op := Op.move (Operand.tmp 16), type := 4, pos := "outright.go:31", after := #[{ on := 8, ground := Ground.guard }], guard := some (8, true) },
  { dst := some 147, op := Op.load 25 (Operand.tmp 3), type := 25, pos := "outright.go:31", after := #[{ on := 8, ground := Ground.guard }], guard := some (8, true) },
  { dst := some 148, op := Op.load 25 (Operand.tmp 4), type := 25, pos := "outright.go:31", after := #[{ on := 8, ground := Ground.guard }], guard := some (8, true) },
  { dst := some 149, op := Op.call { callee := Callee.value (Operand.func 16), args := #[Operand.tmp 147, Operand.tmp 148], argTypes := #[25, 25] }, type := 3, pos := "outright.go:31", after := #[{ on := 10, ground := Ground.data }, { on := 11, ground := Ground.data }, { on := 8, ground := Ground.chain }, { on := 8, ground := Ground.guard }], guard := some (8, true) },
  { dst := some 150, op := Op.binOp BinOp.geq 3 (Operand.tmp 149) (Operand.const (Value.int IntKind.i64 0)) 3, type := 4, pos := "outright.go:31", after := #[{ on := 12, ground := Ground.data }, { on := 8, ground := Ground.guard }], guard := some (8, true) },
  { dst := some 151, op := Op.binOp BinOp.eql 4 (Operand.tmp 146) (Operand.tmp 150) 4, type := 4, pos := "outright.go:31", after := #[{ on := 9, ground := Ground.data }, { on := 13, ground := Ground.data }, { on := 8, ground := Ground.guard }], guard := some (8, true) },
  { dst := some 152, op := Op.pick (Operand.tmp 145) (Operand.tmp 151) (Operand.const (Value.bool false)), type := 4, pos := "outright.go:31", after := #[{ on := 8, ground := Ground.data }, { on := 14, ground := Ground.data }], guard := none },
  { dst := some 153, op := Op.move (Operand.tmp 152), type := 4, pos := "outright.go:31", after := #[{ on := 15, ground := Ground.data }, { on := 12, ground := Ground.chain }], guard := none },
  { dst := some 154, op := Op.load 25 (Operand.tmp 3), type := 25, pos := "outright.go:31", after := #[{ on := 16, ground := Ground.guard }], guard := some (16, true) },
  { dst := some 155, op := Op.load 25 (Operand.tmp 4), type := 25, pos := "outright.go:31", after := #[{ on := 16, ground := Ground.guard }], guard := some (16, true) },
  { dst := some 156, op := Op.call { callee := Callee.value (Operand.func 16), args := #[Operand.tmp 154, Operand.tmp 155], argTypes := #[25, 25] }, type := 3, pos := "outright.go:31", after := #[{ on := 17, ground := Ground.data }, { on := 18, ground := Ground.data }, { on := 16, ground := Ground.chain }, { on := 16, ground := Ground.guard }], guard := some (16, true) },
  { dst := some 157, op := Op.load 25 (Operand.tmp 3), type := 25, pos := "outright.go:31", after := #[{ on := 16, ground := Ground.guard }], guard := some (16, true) },
  { dst := some 158, op := Op.load 25 (Operand.tmp 5), type := 25, pos := "outright.go:31", after := #[{ on := 16, ground := Ground.guard }], guard := some (16, true) },
  { dst := some 159, op := Op.buildSlice 32 2 #[(0, Operand.tmp 157), (1, Operand.tmp 158)], type := 32, pos := "outright.go:31", after := #[{ on := 20, ground := Ground.data }, { on := 21, ground := Ground.data }, { on := 16, ground := Ground.guard }], guard := some (16, true) },
  { dst := some 160, op := Op.call { callee := Callee.value (Operand.func 11), args := #[Operand.tmp 159], argTypes := #[32] }, type := 25, pos := "outright.go:31", after := #[{ on := 22, ground := Ground.data }, { on := 19, ground := Ground.chain }, { on := 16, ground := Ground.guard }], guard := some (16, true) },
  { dst := some 161, op := Op.load 25 (Operand.tmp 4), type := 25, pos := "outright.go:31", after := #[{ on := 16, ground := Ground.guard }], guard := some (16, true) },
  { dst := some 162, op := Op.load 25 (Operand.tmp 5), type := 25, pos := "outright.go:31", after := #[{ on := 16, ground := Ground.guard }], guard := some (16, true) },
  { dst := some 163, op := Op.buildSlice 32 2 #[(0, Operand.tmp 161), (1, Operand.tmp 162)], type := 32, pos := "outright.go:31", after := #[{ on := 24, ground := Ground.data }, { on := 25, ground := Ground.data }, { on := 16, ground := Ground.guard }], guard := some (16, true) },
  { dst := some 164, op := Op.call { callee := Callee.value (Operand.func 11), args := #[Operand.tmp 163], argTypes := #[32] }, type := 25, pos := "outright.go:31", after := #[{ on := 26, ground := Ground.data }, { on := 23, ground := Ground.chain }, { on := 16, ground := Ground.guard }], guard := some (16, true) },
  { dst := some 165, op := Op.call { callee := Callee.value (Operand.func 16), args := #[Operand.tmp 160, Operand.tmp 164], argTypes := #[25, 25] }, type := 3, pos := "outright.go:31", after := #[{ on := 23, ground := Ground.data }, { on := 27, ground := Ground.data }, { on := 27, ground := Ground.chain }, { on := 16, ground := Ground.guard }], guard := some (16, true) },
  { dst := some 166, op := Op.binOp BinOp.eql 3 (Operand.tmp 156) (Operand.tmp 165) 3, type := 4, pos := "outright.go:31", after := #[{ on := 19, ground := Ground.data }, { on := 28, ground := Ground.data }, { on := 16, ground := Ground.guard }], guard := some (16, true) },
  { dst := some 167, op := Op.pick (Operand.tmp 153) (Operand.tmp 166) (Operand.const (Value.bool false)), type := 4, pos := "outright.go:31", after := #[{ on := 16, ground := Ground.data }, { on := 29, ground := Ground.data }], guard := none },
  { dst := some 168, op := Op.move (Operand.tmp 167), type := 4, pos := "outright.go:31", after := #[{ on := 30, ground := Ground.data }, { on := 28, ground := Ground.chain }], guard := none },
  { dst := some 169, op := Op.load 25 (Operand.tmp 3), type := 25, pos := "outright.go:31", after := #[{ on := 31, ground := Ground.guard }], guard := some (31, true) },
  { dst := some 170, op := Op.load 25 (Operand.tmp 4), type := 25, pos := "outright.go:31", after := #[{ on := 31, ground := Ground.guard }], guard := some (31, true) },
  { dst := some 171, op := Op.call { callee := Callee.value (Operand.func 16), args := #[Operand.tmp 169, Operand.tmp 170], argTypes := #[25, 25] }, type := 3, pos := "outright.go:31", after := #[{ on := 32, ground := Ground.data }, { on := 33, ground := Ground.data }, { on := 31, ground := Ground.chain }, { on := 31, ground := Ground.guard }], guard := some (31, true) },
  { dst := some 172, op := Op.load 25 (Operand.tmp 4), type := 25, pos := "outright.go:31", after := #[{ on := 31, ground := Ground.guard }], guard := some (31, true) },
  { dst := some 173, op := Op.load 25 (Operand.tmp 3), type := 25, pos := "outright.go:31", after := #[{ on := 31, ground := Ground.guard }], guard := some (31, true) },
  { dst := some 174, op := Op.call { callee := Callee.value (Operand.func 16), args := #[Operand.tmp 172, Operand.tmp 173], argTypes := #[25, 25] }, type := 3, pos := "outright.go:31", after := #[{ on := 35, ground := Ground.data }, { on := 36, ground := Ground.data }, { on := 34, ground := Ground.chain }, { on := 31, ground := Ground.guard }], guard := some (31, true) },
  { dst := some 175, op := Op.unOp UnOp.neg 3 (Operand.tmp 174), type := 3, pos := "outright.go:31", after := #[{ on := 37, ground := Ground.data }, { on := 31, ground := Ground.guard }], guard := some (31, true) },
  { dst := some 176, op := Op.binOp BinOp.eql 3 (Operand.tmp 171) (Operand.tmp 175) 3, type := 4, pos := "outright.go:31", after := #[{ on := 34, ground := Ground.data }, { on := 38, ground := Ground.data }, { on := 31, ground := Ground.guard }], guard := some (31, true) },
  { dst := some 177, op := Op.pick (Operand.tmp 168) (Operand.tmp 176) (Operand.const (Value.bool false)), type := 4, pos := "outright.go:31", after := #[{ on := 31, ground := Ground.data }, { on := 39, ground := Ground.data }], guard := none },
  { dst := some 178, op := Op.move (Operand.tmp 177), type := 4, pos := "outright.go:31", after := #[{ on := 40, ground := Ground.data }, { on := 37, ground := Ground.chain }], guard := none },
  { dst := some 179, op := Op.load 25 (Operand.tmp 3), type := 25, pos := "outright.go:31", after := #[{ on := 41, ground := Ground.guard }], guard := some (41, true) },
  { dst := some 180, op := Op.load 25 (Operand.tmp 4), type := 25, pos := "outright.go:31", after := #[{ on := 41, ground := Ground.guard }], guard := some (41, true) },
  { dst := some 181, op := Op.call { callee := Callee.value (Operand.func 16), args := #[Operand.tmp 179, Operand.tmp 180], argTypes := #[25, 25] }, type := 3, pos := "outright.go:31", after := #[{ on := 42, ground := Ground.data }, { on := 43, ground := Ground.data }, { on := 41, ground := Ground.chain }, { on := 41, ground := Ground.guard }], guard := some (41, true) },
  { dst := some 182, op := Op.binOp BinOp.neq 3 (Operand.tmp 181) (Operand.const (Value.int IntKind.i64 0)) 3, type := 4, pos := "outright.go:31", after := #[{ on := 44, ground := Ground.data }, { on := 41, ground := Ground.guard }], guard := some (41, true) },
  { dst := some 183, op := Op.move (Operand.tmp 182), type := 4, pos := "outright.go:31", after := #[{ on := 45, ground := Ground.data }, { on := 44, ground := Ground.chain }, { on := 41, ground := Ground.guard }], guard := some (41, true) },
  { dst := some 184, op := Op.load 25 (Operand.tmp 3), type := 25, pos := "outright.go:31", after := #[{ on := 46, ground := Ground.guard }], guard := some (46, false) },
  { dst := some 185, op := Op.call { callee := Callee.value (Operand.func 13), args := #[Operand.tmp 184], argTypes := #[25] }, type := 9, pos := "outright.go:31", after := #[{ on := 47, ground := Ground.data }, { on := 46, ground := Ground.chain }, { on := 46, ground := Ground.guard }], guard := some (46, false) },
  { dst := some 186, op := Op.load 25 (Operand.tmp 4), type := 25, pos := "outright.go:31", after := #[{ on := 46, ground := Ground.guard }], guard := some (46, false) },
  { dst := some 187, op := Op.call { callee := Callee.value (Operand.func 13), args := #[Operand.tmp 186], argTypes := #[25] }, type := 9, pos := "outright.go:31", after := #[{ on := 49, ground := Ground.data }, { on := 48, ground := Ground.chain }, { on := 46, ground := Ground.guard }], guard := some (46, false) },
  { dst := some 188, op := Op.binOp BinOp.eql 9 (Operand.tmp 185) (Operand.tmp 187) 9, type := 4, pos := "outright.go:31", after := #[{ on := 48, ground := Ground.data }, { on := 50, ground := Ground.data }, { on := 46, ground := Ground.guard }], guard := some (46, false) },
  { dst := some 189, op := Op.pick (Operand.tmp 183) (Operand.const (Value.bool true)) (Operand.tmp 188), type := 4, pos := "outright.go:31", after := #[{ on := 46, ground := Ground.data }, { on := 51, ground := Ground.data }, { on := 41, ground := Ground.guard }], guard := some (41, true) },
  { dst := some 190, op := Op.pick (Operand.tmp 178) (Operand.tmp 189) (Operand.const (Value.bool false)), type := 4, pos := "outright.go:31", after := #[{ on := 41, ground := Ground.data }, { on := 52, ground := Ground.data }], guard := none },
  { dst := some 6, op := Op.assign (Operand.tmp 190), type := 4, pos := "outright.go:31", after := #[{ on := 53, ground := Ground.data }, { on := 50, ground := Ground.chain }, { on := 0, ground := Ground.phase }, { on := 1, ground := Ground.phase }, { on := 2, ground := Ground.phase }, { on := 3, ground := Ground.phase }, { on := 4, ground := Ground.phase }, { on := 5, ground := Ground.phase }, { on := 6, ground := Ground.phase }, { on := 7, ground := Ground.phase }, { on := 8, ground := Ground.phase }, { on := 9, ground := Ground.phase }, { on := 10, ground := Ground.phase }, { on := 11, ground := Ground.phase }, { on := 12, ground := Ground.phase }, { on := 13, ground := Ground.phase }, { on := 14, ground := Ground.phase }, { on := 15, ground := Ground.phase }, { on := 16, ground := Ground.phase }, { on := 17, ground := Ground.phase }, { on := 18, ground := Ground.phase }, { on := 19, ground := Ground.phase }, { on := 20, ground := Ground.phase }, { on := 21, ground := Ground.phase }, { on := 22, ground := Ground.phase }, { on := 23, ground := Ground.phase }, { on := 24, ground := Ground.phase }, { on := 25, ground := Ground.phase }, { on := 26, ground := Ground.phase }, { on := 27, ground := Ground.phase }, { on := 28, ground := Ground.phase }, { on := 29, ground := Ground.phase }, { on := 30, ground := Ground.phase }, { on := 31, ground := Ground.phase }, { on := 32, ground := Ground.phase }, { on := 33, ground := Ground.phase }, { on := 34, ground := Ground.phase }, { on := 35, ground := Ground.phase }, { on := 36, ground := Ground.phase }, { on := 37, ground := Ground.phase }, { on := 38, ground := Ground.phase }, { on := 39, ground := Ground.phase }, { on := 40, ground := Ground.phase }, { on := 41, ground := Ground.phase }, { on := 42, ground := Ground.phase }, { on := 43, ground := Ground.phase }, { on := 44, ground := Ground.phase }, { on := 45, ground := Ground.phase }, { on := 46, ground := Ground.phase }, { on := 47, ground := Ground.phase }, { on := 48, ground := Ground.phase }, { on := 49, ground := Ground.phase }, { on := 50, ground := Ground.phase }, { on := 51, ground := Ground.phase }, { on := 52, ground := Ground.phase }, { on := 53, ground := Ground.phase }], guard := none }]
def ring17gPre : Array Bool := #[true, true, true, true, true, true, true, true, true, true, true, true, true, true, true, true, true, true, true, true, true, true, true, true, true, true, true, true, true, true, true, true, true, true, true, true, true, true, true, true, true, true, true, true, true, true, true, true, true, true, true, true, true, true, true]
def ring17gK (A B C : Nat) : Nat → Kd
  | 0 => .val (.bool true)
  | 1 => .val (.bool true)
  | 2 => .fre A
  | 3 => .num A
  | 4 => .row [A]
  | 5 => .fre A
  | 6 => .val (.bool true)
  | 7 => .val (.bool true)
  | 8 => .val (.bool true)
  | 9 => .val (.bool true)
  | 10 => .num A
  | 11 => .num B
  | 12 => .val (.int .i64 (1))
  | 13 => .val (.bool true)
  | 14 => .val (.bool true)
  | 15 => .val (.bool true)
  | 16 => .val (.bool true)
  | 17 => .num A
  | 18 => .num B
  | 19 => .val (.int .i64 (1))
  | 20 => .num A
  | 21 => .num C
  | 22 => .row [A, C]
  | 23 => .fre (sumn [A, C])
  | 24 => .num B
  | 25 => .num C
  | 26 => .row [B, C]
  | 27 => .fre (sumn [B, C])
  | 28 => .val (.int .i64 (1))
  | 29 => .val (.bool true)
  | 30 => .val (.bool true)
  | 31 => .val (.bool true)
  | 32 => .num A
  | 33 => .num B
  | 34 => .val (.int .i64 (1))
  | 35 => .num B
  | 36 => .num A
  | 37 => .val (.int .i64 (-1))
  | 38 => .val (.int .i64 (1))
  | 39 => .val (.bool true)
  | 40 => .val (.bool true)
  | 41 => .val (.bool true)
  | 42 => .num A
  | 43 => .num B
  | 44 => .val (.int .i64 (1))
  | 45 => .val (.bool true)
  | 46 => .val (.bool true)
  | 47 => .val undef
  | 48 => .val undef
  | 49 => .val undef
  | 50 => .val undef
  | 51 => .val undef
  | 52 => .val (.bool true)
  | 53 => .val (.bool true)
  | 54 => .val (.bool true)
  | _ => .val undef
theorem ring17g_slots (f : Nat → Value) : slotsOf ring17gOps ring17gPre f = [(137, f 0), (138, f 1), (139, f 2), (140, f 3), (141, f 4), (142, f 5), (143, f 6), (144, f 7), (145, f 8), (146, f 9), (147, f 10), (148, f 11), (149, f 12), (150, f 13), (151, f 14), (152, f 15), (153, f 16), (154, f 17), (155, f 18), (156, f 19), (157, f 20), (158, f 21), (159, f 22), (160, f 23), (161, f 24), (162, f 25), (163, f 26), (164, f 27), (165, f 28), (166, f 29), (167, f 30), (168, f 31), (169, f 32), (170, f 33), (171, f 34), (172, f 35), (173, f 36), (174, f 37), (175, f 38), (176, f 39), (177, f 40), (178, f 41), (179, f 42), (180, f 43), (181, f 44), (182, f 45), (183, f 46), (184, f 47), (185, f 48), (186, f 49), (187, f 50), (188, f 51), (189, f 52), (190, f 53), (6, f 54)] := by kernel_rfl
set_option maxHeartbeats 6400000 in
set_option maxRecDepth 100000 in
theorem ring17g_wp {Q : Exit → Act → World → Prop} {a0 : Act} {w : World} {z : Nat} (A B C : Nat) (hz : z ≤ w.drew.heap.size) (hsize : a0.tmps.size = 191) (b3 b4 b5 : Nat) (h3 : a0.tmps[3]? = some (.pointer (some ⟨b3, 0, none⟩))) (h4 : a0.tmps[4]? = some (.pointer (some ⟨b4, 0, none⟩))) (h5 : a0.tmps[5]? = some (.pointer (some ⟨b5, 0, none⟩))) (C3 : Held z w.drew b3 (.num A)) (C4 : Held z w.drew b4 (.num B)) (C5 : Held z w.drew b5 (.num C)) (ka : Nat) (hka : ka ≤ 100000) (b13 : Nat) (h13 : a0.tmps[13]? = some (.pointer (some ⟨b13, 0, none⟩))) (C13 : Held z w.drew b13 (.fre A)) (h14 : a0.tmps[14]? = some (.bool true)) (h16 : a0.tmps[16]? = some (.bool true)) (N0 : sumn [A] < 2 ^ ka) (E0 : sumn [A] = A) (N1 : sumn [A, C] < 2 ^ ka) (N2 : sumn [B, C] < 2 ^ ka) (O1 : ord A B = 1) (O2 : ord (sumn [A, C]) (sumn [B, C]) = 1) (O3 : ord B A = -1)
    (fin : ∀ (f : Nat → Value) (y : World), (∀ j, j < 55 → ring17gPre.getD j false = true → Kd.ok z (ring17gK A B C j) (f j) y) → Below w.drew.heap.size w.drew y → Q .normal (putL a0 [(137, f 0), (138, f 1), (139, f 2), (140, f 3), (141, f 4), (142, f 5), (143, f 6), (144, f 7), (145, f 8), (146, f 9), (147, f 10), (148, f 11), (149, f 12), (150, f 13), (151, f 14), (152, f 15), (153, f 16), (154, f 17), (155, f 18), (156, f 19), (157, f 20), (158, f 21), (159, f 22), (160, f 23), (161, f 24), (162, f 25), (163, f 26), (164, f 27), (165, f 28), (166, f 29), (167, f 30), (168, f 31), (169, f 32), (170, f 33), (171, f 34), (172, f 35), (173, f 36), (174, f 37), (175, f 38), (176, f 39), (177, f 40), (178, f 41), (179, f 42), (180, f 43), (181, f 44), (182, f 45), (183, f 46), (184, f 47), (185, f 48), (186, f 49), (187, f 50), (188, f 51), (189, f 52), (190, f 53), (6, f 54)]) y) (id : Nat) :
    (Code.region id ring17gOps true).wp Tryd.prog Q a0 w := by
  refine wp_region_inv ring17gPre (fun j => Kd.ok z (ring17gK A B C j)) (fun x y => Below x.heap.size x y) 55 0 (by kernel_rfl) (by kernel_rfl) (by rw [hsize]; kernel_rfl) (by kernel_rfl) (by kernel_rfl) (Below.refl _ _) (fun _ _ _ h1 h2 => bl_trans h1 h2) (fun _ _ _ _ h1 h2 => Kd.below h1 h2) ?_ (fun f y h1 h2 => by rw [ring17g_slots]; exact any_end (by kernel_rfl) (fin f y h1 h2) 0)
  intro i o ho hp f a x hR hbase hdeps K hK
  have hi : i < 55 := by
    rcases Nat.lt_or_ge i 55 with h | h
    · exact h
    · have : ring17gOps.size ≤ i := h
      rw [Array.getElem?_eq_none this] at ho; cases ho
  have hzx : z ≤ x.heap.size := Nat.le_trans hz hR.size
  have dep : ∀ j, (o.after.any fun e => Region.binds .any e && e.on == j) = true → (∀ s, slotOf ring17gOps j = some s → a.tmps[s]? = some (f j)) ∧ Kd.ok z (ring17gK A B C j) (f j) x := by
    intro j h
    obtain ⟨e, he, h2⟩ := Array.any_eq_true'.1 h
    simp only [Bool.and_eq_true, beq_iff_eq] at h2
    obtain ⟨h3, rfl⟩ := h2
    exact hdeps e he h3
  have bas : ∀ s, ((List.range ring17gOps.size).all fun j => slotOf ring17gOps j != some s) = true → a.tmps[s]? = a0.tmps[s]? := by
    intro s h
    refine hbase s fun j hj _ e => ?_
    have h2 := (List.all_eq_true.1 h) j (List.mem_range.2 hj)
    rw [e] at h2; simp at h2
  match i, hi with
  | 0, _ =>
    obtain rfl : { dst := some 137, op := Op.move (Operand.tmp 14), type := 4, pos := "outright.go:31", after := #[], guard := none } = o := Option.some.inj (show ring17gOps[0]? = some _ from ho)
    have qb14 := (bas 14 (by kernel_rfl)).trans h14
    have eb14 := eval_at qb14
    refine inv_val (G := Kd.ok z (ring17gK A B C 0)) (R := fun x y => Below x.heap.size x y) (wanted_none rfl) (v := (.bool true)) (w2 := x) (by simp only [execOp, eb14]; go_simp) hK rfl (Below.refl _ _)
  | 1, _ =>
    obtain rfl : { dst := some 138, op := Op.move (Operand.tmp 137), type := 4, pos := "outright.go:31", after := #[{ on := 0, ground := Ground.data }], guard := none } = o := Option.some.inj (show ring17gOps[1]? = some _ from ho)
    obtain ⟨t0, g0⟩ := dep 0 (by kernel_rfl)
    have q0 := t0 137 (by rfl)
    have e0 := eval_at q0
    have w0 : f 0 = (.bool true) := g0
    rw [w0] at e0
    refine inv_val (G := Kd.ok z (ring17gK A B C 1)) (R := fun x y => Below x.heap.size x y) (wanted_none rfl) (v := (.bool true)) (w2 := x) (by simp only [execOp, e0]; go_simp) hK rfl (Below.refl _ _)
  | 2, _ =>
    obtain rfl : { dst := some 139, op := Op.load 25 (Operand.tmp 13), type := 25, pos := "outright.go:31", after := #[{ on := 1, ground := Ground.guard }], guard := some (1, true) } = o := Option.some.inj (show ring17gOps[2]? = some _ from ho)
    obtain ⟨t1, g1⟩ := dep 1 (by kernel_rfl)
    have q1 := t1 138 (by rfl)
    have e1 := eval_at q1
    have v1 : f 1 = .bool true := g1
    have hw := wanted_some (ops := ring17gOps) (o := { dst := some 139, op := Op.load 25 (Operand.tmp 13), type := 25, pos := "outright.go:31", after := #[{ on := 1, ground := Ground.guard }], guard := some (1, true) }) (a := a) (j := 1) (s := 138) (b := true) (c := true) rfl (by rfl) (by rw [← v1]; exact q1)
    have qb13 := (bas 13 (by kernel_rfl)).trans h13
    have eb13 := eval_at qb13
    obtain ⟨xc, hc, hk⟩ := C13.below hR
    refine inv_val (G := Kd.ok z (ring17gK A B C 2)) (R := fun x y => Below x.heap.size x y) (hw.trans (by decide)) (v := .agg #[xc]) (w2 := x) (by simp only [execOp, eb13]; go_simp) hK hk (Below.refl _ _)
  | 3, _ =>
    obtain rfl : { dst := some 140, op := Op.load 25 (Operand.tmp 3), type := 25, pos := "outright.go:31", after := #[{ on := 1, ground := Ground.guard }], guard := some (1, true) } = o := Option.some.inj (show ring17gOps[3]? = some _ from ho)
    obtain ⟨t1, g1⟩ := dep 1 (by kernel_rfl)
    have q1 := t1 138 (by rfl)
    have e1 := eval_at q1
    have v1 : f 1 = .bool true := g1
    have hw := wanted_some (ops := ring17gOps) (o := { dst := some 140, op := Op.load 25 (Operand.tmp 3), type := 25, pos := "outright.go:31", after := #[{ on := 1, ground := Ground.guard }], guard := some (1, true) }) (a := a) (j := 1) (s := 138) (b := true) (c := true) rfl (by rfl) (by rw [← v1]; exact q1)
    have qb3 := (bas 3 (by kernel_rfl)).trans h3
    have eb3 := eval_at qb3
    obtain ⟨xc, hc, hk⟩ := C3.below hR
    refine inv_val (G := Kd.ok z (ring17gK A B C 3)) (R := fun x y => Below x.heap.size x y) (hw.trans (by decide)) (v := .agg #[xc]) (w2 := x) (by simp only [execOp, eb3]; go_simp) hK hk (Below.refl _ _)
  | 4, _ =>
    obtain rfl : { dst := some 141, op := Op.buildSlice 32 1 #[(0, Operand.tmp 140)], type := 32, pos := "outright.go:31", after := #[{ on := 3, ground := Ground.data }, { on := 1, ground := Ground.guard }], guard := some (1, true) } = o := Option.some.inj (show ring17gOps[4]? = some _ from ho)
    obtain ⟨t1, g1⟩ := dep 1 (by kernel_rfl)
    have q1 := t1 138 (by rfl)
    have e1 := eval_at q1
    have v1 : f 1 = .bool true := g1
    have hw := wanted_some (ops := ring17gOps) (o := { dst := some 141, op := Op.buildSlice 32 1 #[(0, Operand.tmp 140)], type := 32, pos := "outright.go:31", after := #[{ on := 3, ground := Ground.data }, { on := 1, ground := Ground.guard }], guard := some (1, true) }) (a := a) (j := 1) (s := 138) (b := true) (c := true) rfl (by rfl) (by rw [← v1]; exact q1)
    obtain ⟨t3, g3⟩ := dep 3 (by kernel_rfl)
    have q3 := t3 140 (by rfl)
    have e3 := eval_at q3
    obtain ⟨v, w2, hr, hrow, hb⟩ := st_build1 g3
    refine inv_val (G := Kd.ok z (ring17gK A B C 4)) (R := fun x y => Below x.heap.size x y) (hw.trans (by decide)) (v := v) (w2 := w2) (by simp [execOp, e3, hr]) hK hrow hb
  | 5, _ =>
    obtain rfl : { dst := some 142, op := Op.call { callee := Callee.value (Operand.func 11), args := #[Operand.tmp 141], argTypes := #[32] }, type := 25, pos := "outright.go:31", after := #[{ on := 4, ground := Ground.data }, { on := 1, ground := Ground.chain }, { on := 1, ground := Ground.guard }], guard := some (1, true) } = o := Option.some.inj (show ring17gOps[5]? = some _ from ho)
    obtain ⟨t1, g1⟩ := dep 1 (by kernel_rfl)
    have q1 := t1 138 (by rfl)
    have e1 := eval_at q1
    have v1 : f 1 = .bool true := g1
    have hw := wanted_some (ops := ring17gOps) (o := { dst := some 142, op := Op.call { callee := Callee.value (Operand.func 11), args := #[Operand.tmp 141], argTypes := #[32] }, type := 25, pos := "outright.go:31", after := #[{ on := 4, ground := Ground.data }, { on := 1, ground := Ground.chain }, { on := 1, ground := Ground.guard }], guard := some (1, true) }) (a := a) (j := 1) (s := 138) (b := true) (c := true) rfl (by rfl) (by rw [← v1]; exact q1)
    obtain ⟨t4, g4⟩ := dep 4 (by kernel_rfl)
    have q4 := t4 141 (by rfl)
    have e4 := eval_at q4
    refine inv_call (G := Kd.ok z (ring17gK A B C 5)) (R := fun x y => Below x.heap.size x y) (hw.trans (by decide)) (F := 11) (args := #[f 4]) (by simp [go_sem, q4]) hK ?_
    exact (by have h := k_add (z := z) g4 (by simp) N0 hka hzx; rw [E0] at h; exact h)
  | 6, _ =>
    obtain rfl : { dst := some 143, op := Op.call { callee := Callee.value (Operand.func 9), args := #[Operand.tmp 139, Operand.tmp 142], argTypes := #[25, 25] }, type := 4, pos := "outright.go:31", after := #[{ on := 2, ground := Ground.data }, { on := 5, ground := Ground.data }, { on := 5, ground := Ground.chain }, { on := 1, ground := Ground.guard }], guard := some (1, true) } = o := Option.some.inj (show ring17gOps[6]? = some _ from ho)
    obtain ⟨t1, g1⟩ := dep 1 (by kernel_rfl)
    have q1 := t1 138 (by rfl)
    have e1 := eval_at q1
    have v1 : f 1 = .bool true := g1
    have hw := wanted_some (ops := ring17gOps) (o := { dst := some 143, op := Op.call { callee := Callee.value (Operand.func 9), args := #[Operand.tmp 139, Operand.tmp 142], argTypes := #[25, 25] }, type := 4, pos := "outright.go:31", after := #[{ on := 2, ground := Ground.data }, { on := 5, ground := Ground.data }, { on := 5, ground := Ground.chain }, { on := 1, ground := Ground.guard }], guard := some (1, true) }) (a := a) (j := 1) (s := 138) (b := true) (c := true) rfl (by rfl) (by rw [← v1]; exact q1)
    obtain ⟨t2, g2⟩ := dep 2 (by kernel_rfl)
    have q2 := t2 139 (by rfl)
    have e2 := eval_at q2
    obtain ⟨t5, g5⟩ := dep 5 (by kernel_rfl)
    have q5 := t5 142 (by rfl)
    have e5 := eval_at q5
    refine inv_call (G := Kd.ok z (ring17gK A B C 6)) (R := fun x y => Below x.heap.size x y) (hw.trans (by decide)) (F := 9) (args := #[f 2, f 5]) (by simp [go_sem, q2, q5]) hK ?_
    exact k_same g2 g5
  | 7, _ =>
    obtain rfl : { dst := some 144, op := Op.pick (Operand.tmp 138) (Operand.tmp 143) (Operand.const (Value.bool false)), type := 4, pos := "outright.go:31", after := #[{ on := 1, ground := Ground.data }, { on := 6, ground := Ground.data }], guard := none } = o := Option.some.inj (show ring17gOps[7]? = some _ from ho)
    obtain ⟨t1, g1⟩ := dep 1 (by kernel_rfl)
    have q1 := t1 138 (by rfl)
    have e1 := eval_at q1
    obtain ⟨t6, g6⟩ := dep 6 (by kernel_rfl)
    have q6 := t6 143 (by rfl)
    have e6 := eval_at q6
    have w1 : f 1 = (.bool true) := g1
    have w6 : f 6 = (.bool true) := g6
    rw [w1] at e1
    rw [w6] at e6
    refine inv_val (G := Kd.ok z (ring17gK A B C 7)) (R := fun x y => Below x.heap.size x y) (wanted_none rfl) (v := (.bool true)) (w2 := x) (by simp only [execOp, e1, e6]; go_simp) hK rfl (Below.refl _ _)
  | 8, _ =>
    obtain rfl : { dst := some 145, op := Op.move (Operand.tmp 144), type := 4, pos := "outright.go:31", after := #[{ on := 7, ground := Ground.data }, { on := 6, ground := Ground.chain }], guard := none } = o := Option.some.inj (show ring17gOps[8]? = some _ from ho)
    obtain ⟨t7, g7⟩ := dep 7 (by kernel_rfl)
    have q7 := t7 144 (by rfl)
    have e7 := eval_at q7
    have w7 : f 7 = (.bool true) := g7
    rw [w7] at e7
    refine inv_val (G := Kd.ok z (ring17gK A B C 8)) (R := fun x y => Below x.heap.size x y) (wanted_none rfl) (v := (.bool true)) (w2 := x) (by simp only [execOp, e7]; go_simp) hK rfl (Below.refl _ _)
  | 9, _ =>
    obtain rfl : { dst := some 146, op := Op.move (Operand.tmp 16), type := 4, pos := "outright.go:31", after := #[{ on := 8, ground := Ground.guard }], guard := some (8, true) } = o := Option.some.inj (show ring17gOps[9]? = some _ from ho)
    obtain ⟨t8, g8⟩ := dep 8 (by kernel_rfl)
    have q8 := t8 145 (by rfl)
    have e8 := eval_at q8
    have v8 : f 8 = .bool true := g8
    have hw := wanted_some (ops := ring17gOps) (o := { dst := some 146, op := Op.move (Operand.tmp 16), type := 4, pos := "outright.go:31", after := #[{ on := 8, ground := Ground.guard }], guard := some (8, true) }) (a := a) (j := 8) (s := 145) (b := true) (c := true) rfl (by rfl) (by rw [← v8]; exact q8)
    have qb16 := (bas 16 (by kernel_rfl)).trans h16
    have eb16 := eval_at qb16
    have w8 : f 8 = (.bool true) := g8
    refine inv_val (G := Kd.ok z (ring17gK A B C 9)) (R := fun x y => Below x.heap.size x y) (hw.trans (by decide)) (v := (.bool true)) (w2 := x) (by simp only [execOp, eb16]; go_simp) hK rfl (Below.refl _ _)
  | 10, _ =>
    obtain rfl : { dst := some 147, op := Op.load 25 (Operand.tmp 3), type := 25, pos := "outright.go:31", after := #[{ on := 8, ground := Ground.guard }], guard := some (8, true) } = o := Option.some.inj (show ring17gOps[10]? = some _ from ho)
    obtain ⟨t8, g8⟩ := dep 8 (by kernel_rfl)
    have q8 := t8 145 (by rfl)
    have e8 := eval_at q8
    have v8 : f 8 = .bool true := g8
    have hw := wanted_some (ops := ring17gOps) (o := { dst := some 147, op := Op.load 25 (Operand.tmp 3), type := 25, pos := "outright.go:31", after := #[{ on := 8, ground := Ground.guard }], guard := some (8, true) }) (a := a) (j := 8) (s := 145) (b := true) (c := true) rfl (by rfl) (by rw [← v8]; exact q8)
    have qb3 := (bas 3 (by kernel_rfl)).trans h3
    have eb3 := eval_at qb3
    obtain ⟨xc, hc, hk⟩ := C3.below hR
    refine inv_val (G := Kd.ok z (ring17gK A B C 10)) (R := fun x y => Below x.heap.size x y) (hw.trans (by decide)) (v := .agg #[xc]) (w2 := x) (by simp only [execOp, eb3]; go_simp) hK hk (Below.refl _ _)
  | 11, _ =>
    obtain rfl : { dst := some 148, op := Op.load 25 (Operand.tmp 4), type := 25, pos := "outright.go:31", after := #[{ on := 8, ground := Ground.guard }], guard := some (8, true) } = o := Option.some.inj (show ring17gOps[11]? = some _ from ho)
    obtain ⟨t8, g8⟩ := dep 8 (by kernel_rfl)
    have q8 := t8 145 (by rfl)
    have e8 := eval_at q8
    have v8 : f 8 = .bool true := g8
    have hw := wanted_some (ops := ring17gOps) (o := { dst := some 148, op := Op.load 25 (Operand.tmp 4), type := 25, pos := "outright.go:31", after := #[{ on := 8, ground := Ground.guard }], guard := some (8, true) }) (a := a) (j := 8) (s := 145) (b := true) (c := true) rfl (by rfl) (by rw [← v8]; exact q8)
    have qb4 := (bas 4 (by kernel_rfl)).trans h4
    have eb4 := eval_at qb4
    obtain ⟨xc, hc, hk⟩ := C4.below hR
    refine inv_val (G := Kd.ok z (ring17gK A B C 11)) (R := fun x y => Below x.heap.size x y) (hw.trans (by decide)) (v := .agg #[xc]) (w2 := x) (by simp only [execOp, eb4]; go_simp) hK hk (Below.refl _ _)
  | 12, _ =>
    obtain rfl : { dst := some 149, op := Op.call { callee := Callee.value (Operand.func 16), args := #[Operand.tmp 147, Operand.tmp 148], argTypes := #[25, 25] }, type := 3, pos := "outright.go:31", after := #[{ on := 10, ground := Ground.data }, { on := 11, ground := Ground.data }, { on := 8, ground := Ground.chain }, { on := 8, ground := Ground.guard }], guard := some (8, true) } = o := Option.some.inj (show ring17gOps[12]? = some _ from ho)
    obtain ⟨t8, g8⟩ := dep 8 (by kernel_rfl)
    have q8 := t8 145 (by rfl)
    have e8 := eval_at q8
    have v8 : f 8 = .bool true := g8
    have hw := wanted_some (ops := ring17gOps) (o := { dst := some 149, op := Op.call { callee := Callee.value (Operand.func 16), args := #[Operand.tmp 147, Operand.tmp 148], argTypes := #[25, 25] }, type := 3, pos := "outright.go:31", after := #[{ on := 10, ground := Ground.data }, { on := 11, ground := Ground.data }, { on := 8, ground := Ground.chain }, { on := 8, ground := Ground.guard }], guard := some (8, true) }) (a := a) (j := 8) (s := 145) (b := true) (c := true) rfl (by rfl) (by rw [← v8]; exact q8)
    obtain ⟨t10, g10⟩ := dep 10 (by kernel_rfl)
    have q10 := t10 147 (by rfl)
    have e10 := eval_at q10
    obtain ⟨t11, g11⟩ := dep 11 (by kernel_rfl)
    have q11 := t11 148 (by rfl)
    have e11 := eval_at q11
    refine inv_call (G := Kd.ok z (ring17gK A B C 12)) (R := fun x y => Below x.heap.size x y) (hw.trans (by decide)) (F := 16) (args := #[f 10, f 11]) (by simp [go_sem, q10, q11]) hK ?_
    exact (by have h := k_cmp (z := z) g10 g11; rw [O1] at h; exact h)
  | 13, _ =>
    obtain rfl : { dst := some 150, op := Op.binOp BinOp.geq 3 (Operand.tmp 149) (Operand.const (Value.int IntKind.i64 0)) 3, type := 4, pos := "outright.go:31", after := #[{ on := 12, ground := Ground.data }, { on := 8, ground := Ground.guard }], guard := some (8, true) } = o := Option.some.inj (show ring17gOps[13]? = some _ from ho)
    obtain ⟨t8, g8⟩ := dep 8 (by kernel_rfl)
    have q8 := t8 145 (by rfl)
    have e8 := eval_at q8
    have v8 : f 8 = .bool true := g8
    have hw := wanted_some (ops := ring17gOps) (o := { dst := some 150, op := Op.binOp BinOp.geq 3 (Operand.tmp 149) (Operand.const (Value.int IntKind.i64 0)) 3, type := 4, pos := "outright.go:31", after := #[{ on := 12, ground := Ground.data }, { on := 8, ground := Ground.guard }], guard := some (8, true) }) (a := a) (j := 8) (s := 145) (b := true) (c := true) rfl (by rfl) (by rw [← v8]; exact q8)
    obtain ⟨t12, g12⟩ := dep 12 (by kernel_rfl)
    have q12 := t12 149 (by rfl)
    have e12 := eval_at q12
    have w8 : f 8 = (.bool true) := g8
    have w12 : f 12 = (.int .i64 (1)) := g12
    rw [w12] at e12
    refine inv_val (G := Kd.ok z (ring17gK A B C 13)) (R := fun x y => Below x.heap.size x y) (hw.trans (by decide)) (v := (.bool true)) (w2 := x) (by simp only [execOp, e12]; go_simp) hK rfl (Below.refl _ _)
  | 14, _ =>
    obtain rfl : { dst := some 151, op := Op.binOp BinOp.eql 4 (Operand.tmp 146) (Operand.tmp 150) 4, type := 4, pos := "outright.go:31", after := #[{ on := 9, ground := Ground.data }, { on := 13, ground := Ground.data }, { on := 8, ground := Ground.guard }], guard := some (8, true) } = o := Option.some.inj (show ring17gOps[14]? = some _ from ho)
    obtain ⟨t8, g8⟩ := dep 8 (by kernel_rfl)
    have q8 := t8 145 (by rfl)
    have e8 := eval_at q8
    have v8 : f 8 = .bool true := g8
    have hw := wanted_some (ops := ring17gOps) (o := { dst := some 151, op := Op.binOp BinOp.eql 4 (Operand.tmp 146) (Operand.tmp 150) 4, type := 4, pos := "outright.go:31", after := #[{ on := 9, ground := Ground.data }, { on := 13, ground := Ground.data }, { on := 8, ground := Ground.guard }], guard := some (8, true) }) (a := a) (j := 8) (s := 145) (b := true) (c := true) rfl (by rfl) (by rw [← v8]; exact q8)
    obtain ⟨t9, g9⟩ := dep 9 (by kernel_rfl)
    have q9 := t9 146 (by rfl)
    have e9 := eval_at q9
    obtain ⟨t13, g13⟩ := dep 13 (by kernel_rfl)
    have q13 := t13 150 (by rfl)
    have e13 := eval_at q13
    have w8 : f 8 = (.bool true) := g8
    have w9 : f 9 = (.bool true) := g9
    have w13 : f 13 = (.bool true) := g13
    rw [w9] at e9
    rw [w13] at e13
    refine inv_val (G := Kd.ok z (ring17gK A B C 14)) (R := fun x y => Below x.heap.size x y) (hw.trans (by decide)) (v := (.bool true)) (w2 := x) (by simp only [execOp, e9, e13]; go_simp) hK rfl (Below.refl _ _)
  | 15, _ =>
    obtain rfl : { dst := some 152, op := Op.pick (Operand.tmp 145) (Operand.tmp 151) (Operand.const (Value.bool false)), type := 4, pos := "outright.go:31", after := #[{ on := 8, ground := Ground.data }, { on := 14, ground := Ground.data }], guard := none } = o := Option.some.inj (show ring17gOps[15]? = some _ from ho)
    obtain ⟨t8, g8⟩ := dep 8 (by kernel_rfl)
    have q8 := t8 145 (by rfl)
    have e8 := eval_at q8
    obtain ⟨t14, g14⟩ := dep 14 (by kernel_rfl)
    have q14 := t14 151 (by rfl)
    have e14 := eval_at q14
    have w8 : f 8 = (.bool true) := g8
    have w14 : f 14 = (.bool true) := g14
    rw [w8] at e8
    rw [w14] at e14
    refine inv_val (G := Kd.ok z (ring17gK A B C 15)) (R := fun x y => Below x.heap.size x y) (wanted_none rfl) (v := (.bool true)) (w2 := x) (by simp only [execOp, e8, e14]; go_simp) hK rfl (Below.refl _ _)
  | 16, _ =>
    obtain rfl : { dst := some 153, op := Op.move (Operand.tmp 152), type := 4, pos := "outright.go:31", after := #[{ on := 15, ground := Ground.data }, { on := 12, ground := Ground.chain }], guard := none } = o := Option.some.inj (show ring17gOps[16]? = some _ from ho)
    obtain ⟨t15, g15⟩ := dep 15 (by kernel_rfl)
    have q15 := t15 152 (by rfl)
    have e15 := eval_at q15
    have w15 : f 15 = (.bool true) := g15
    rw [w15] at e15
    refine inv_val (G := Kd.ok z (ring17gK A B C 16)) (R := fun x y => Below x.heap.size x y) (wanted_none rfl) (v := (.bool true)) (w2 := x) (by simp only [execOp, e15]; go_simp) hK rfl (Below.refl _ _)
  | 17, _ =>
    obtain rfl : { dst := some 154, op := Op.load 25 (Operand.tmp 3), type := 25, pos := "outright.go:31", after := #[{ on := 16, ground := Ground.guard }], guard := some (16, true) } = o := Option.some.inj (show ring17gOps[17]? = some _ from ho)
    obtain ⟨t16, g16⟩ := dep 16 (by kernel_rfl)
    have q16 := t16 153 (by rfl)
    have e16 := eval_at q16
    have v16 : f 16 = .bool true := g16
    have hw := wanted_some (ops := ring17gOps) (o := { dst := some 154, op := Op.load 25 (Operand.tmp 3), type := 25, pos := "outright.go:31", after := #[{ on := 16, ground := Ground.guard }], guard := some (16, true) }) (a := a) (j := 16) (s := 153) (b := true) (c := true) rfl (by rfl) (by rw [← v16]; exact q16)
    have qb3 := (bas 3 (by kernel_rfl)).trans h3
    have eb3 := eval_at qb3
    obtain ⟨xc, hc, hk⟩ := C3.below hR
    refine inv_val (G := Kd.ok z (ring17gK A B C 17)) (R := fun x y => Below x.heap.size x y) (hw.trans (by decide)) (v := .agg #[xc]) (w2 := x) (by simp only [execOp, eb3]; go_simp) hK hk (Below.refl _ _)
  | 18, _ =>
    obtain rfl : { dst := some 155, op := Op.load 25 (Operand.tmp 4), type := 25, pos := "outright.go:31", after := #[{ on := 16, ground := Ground.guard }], guard := some (16, true) } = o := Option.some.inj (show ring17gOps[18]? = some _ from ho)
    obtain ⟨t16, g16⟩ := dep 16 (by kernel_rfl)
    have q16 := t16 153 (by rfl)
    have e16 := eval_at q16
    have v16 : f 16 = .bool true := g16
    have hw := wanted_some (ops := ring17gOps) (o := { dst := some 155, op := Op.load 25 (Operand.tmp 4), type := 25, pos := "outright.go:31", after := #[{ on := 16, ground := Ground.guard }], guard := some (16, true) }) (a := a) (j := 16) (s := 153) (b := true) (c := true) rfl (by rfl) (by rw [← v16]; exact q16)
    have qb4 := (bas 4 (by kernel_rfl)).trans h4
    have eb4 := eval_at qb4
    obtain ⟨xc, hc, hk⟩ := C4.below hR
    refine inv_val (G := Kd.ok z (ring17gK A B C 18)) (R := fun x y => Below x.heap.size x y) (hw.trans (by decide)) (v := .agg #[xc]) (w2 := x) (by simp only [execOp, eb4]; go_simp) hK hk (Below.refl _ _)
  | 19, _ =>
    obtain rfl : { dst := some 156, op := Op.call { callee := Callee.value (Operand.func 16), args := #[Operand.tmp 154, Operand.tmp 155], argTypes := #[25, 25] }, type := 3, pos := "outright.go:31", after := #[{ on := 17, ground := Ground.data }, { on := 18, ground := Ground.data }, { on := 16, ground := Ground.chain }, { on := 16, ground := Ground.guard }], guard := some (16, true) } = o := Option.some.inj (show ring17gOps[19]? = some _ from ho)
    obtain ⟨t16, g16⟩ := dep 16 (by kernel_rfl)
    have q16 := t16 153 (by rfl)
    have e16 := eval_at q16
    have v16 : f 16 = .bool true := g16
    have hw := wanted_some (ops := ring17gOps) (o := { dst := some 156, op := Op.call { callee := Callee.value (Operand.func 16), args := #[Operand.tmp 154, Operand.tmp 155], argTypes := #[25, 25] }, type := 3, pos := "outright.go:31", after := #[{ on := 17, ground := Ground.data }, { on := 18, ground := Ground.data }, { on := 16, ground := Ground.chain }, { on := 16, ground := Ground.guard }], guard := some (16, true) }) (a := a) (j := 16) (s := 153) (b := true) (c := true) rfl (by rfl) (by rw [← v16]; exact q16)
    obtain ⟨t17, g17⟩ := dep 17 (by kernel_rfl)
    have q17 := t17 154 (by rfl)
    have e17 := eval_at q17
    obtain ⟨t18, g18⟩ := dep 18 (by kernel_rfl)
    have q18 := t18 155 (by rfl)
    have e18 := eval_at q18
    refine inv_call (G := Kd.ok z (ring17gK A B C 19)) (R := fun x y => Below x.heap.size x y) (hw.trans (by decide)) (F := 16) (args := #[f 17, f 18]) (by simp [go_sem, q17, q18]) hK ?_
    exact (by have h := k_cmp (z := z) g17 g18; rw [O1] at h; exact h)
  | 20, _ =>
    obtain rfl : { dst := some 157, op := Op.load 25 (Operand.tmp 3), type := 25, pos := "outright.go:31", after := #[{ on := 16, ground := Ground.guard }], guard := some (16, true) } = o := Option.some.inj (show ring17gOps[20]? = some _ from ho)
    obtain ⟨t16, g16⟩ := dep 16 (by kernel_rfl)
    have q16 := t16 153 (by rfl)
    have e16 := eval_at q16
    have v16 : f 16 = .bool true := g16
    have hw := wanted_some (ops := ring17gOps) (o := { dst := some 157, op := Op.load 25 (Operand.tmp 3), type := 25, pos := "outright.go:31", after := #[{ on := 16, ground := Ground.guard }], guard := some (16, true) }) (a := a) (j := 16) (s := 153) (b := true) (c := true) rfl (by rfl) (by rw [← v16]; exact q16)
    have qb3 := (bas 3 (by kernel_rfl)).trans h3
    have eb3 := eval_at qb3
    obtain ⟨xc, hc, hk⟩ := C3.below hR
    refine inv_val (G := Kd.ok z (ring17gK A B C 20)) (R := fun x y => Below x.heap.size x y) (hw.trans (by decide)) (v := .agg #[xc]) (w2 := x) (by simp only [execOp, eb3]; go_simp) hK hk (Below.refl _ _)
  | 21, _ =>
    obtain rfl : { dst := some 158, op := Op.load 25 (Operand.tmp 5), type := 25, pos := "outright.go:31", after := #[{ on := 16, ground := Ground.guard }], guard := some (16, true) } = o := Option.some.inj (show ring17gOps[21]? = some _ from ho)
    obtain ⟨t16, g16⟩ := dep 16 (by kernel_rfl)
    have q16 := t16 153 (by rfl)
    have e16 := eval_at q16
    have v16 : f 16 = .bool true := g16
    have hw := wanted_some (ops := ring17gOps) (o := { dst := some 158, op := Op.load 25 (Operand.tmp 5), type := 25, pos := "outright.go:31", after := #[{ on := 16, ground := Ground.guard }], guard := some (16, true) }) (a := a) (j := 16) (s := 153) (b := true) (c := true) rfl (by rfl) (by rw [← v16]; exact q16)
    have qb5 := (bas 5 (by kernel_rfl)).trans h5
    have eb5 := eval_at qb5
    obtain ⟨xc, hc, hk⟩ := C5.below hR
    refine inv_val (G := Kd.ok z (ring17gK A B C 21)) (R := fun x y => Below x.heap.size x y) (hw.trans (by decide)) (v := .agg #[xc]) (w2 := x) (by simp only [execOp, eb5]; go_simp) hK hk (Below.refl _ _)
  | 22, _ =>
    obtain rfl : { dst := some 159, op := Op.buildSlice 32 2 #[(0, Operand.tmp 157), (1, Operand.tmp 158)], type := 32, pos := "outright.go:31", after := #[{ on := 20, ground := Ground.data }, { on := 21, ground := Ground.data }, { on := 16, ground := Ground.guard }], guard := some (16, true) } = o := Option.some.inj (show ring17gOps[22]? = some _ from ho)
    obtain ⟨t16, g16⟩ := dep 16 (by kernel_rfl)
    have q16 := t16 153 (by rfl)
    have e16 := eval_at q16
    have v16 : f 16 = .bool true := g16
    have hw := wanted_some (ops := ring17gOps) (o := { dst := some 159, op := Op.buildSlice 32 2 #[(0, Operand.tmp 157), (1, Operand.tmp 158)], type := 32, pos := "outright.go:31", after := #[{ on := 20, ground := Ground.data }, { on := 21, ground := Ground.data }, { on := 16, ground := Ground.guard }], guard := some (16, true) }) (a := a) (j := 16) (s := 153) (b := true) (c := true) rfl (by rfl) (by rw [← v16]; exact q16)
    obtain ⟨t20, g20⟩ := dep 20 (by kernel_rfl)
    have q20 := t20 157 (by rfl)
    have e20 := eval_at q20
    obtain ⟨t21, g21⟩ := dep 21 (by kernel_rfl)
    have q21 := t21 158 (by rfl)
    have e21 := eval_at q21
    obtain ⟨v, w2, hr, hrow, hb⟩ := st_build2 g20 g21
    refine inv_val (G := Kd.ok z (ring17gK A B C 22)) (R := fun x y => Below x.heap.size x y) (hw.trans (by decide)) (v := v) (w2 := w2) (by simp [execOp, e20, e21, hr]) hK hrow hb
  | 23, _ =>
    obtain rfl : { dst := some 160, op := Op.call { callee := Callee.value (Operand.func 11), args := #[Operand.tmp 159], argTypes := #[32] }, type := 25, pos := "outright.go:31", after := #[{ on := 22, ground := Ground.data }, { on := 19, ground := Ground.chain }, { on := 16, ground := Ground.guard }], guard := some (16, true) } = o := Option.some.inj (show ring17gOps[23]? = some _ from ho)
    obtain ⟨t16, g16⟩ := dep 16 (by kernel_rfl)
    have q16 := t16 153 (by rfl)
    have e16 := eval_at q16
    have v16 : f 16 = .bool true := g16
    have hw := wanted_some (ops := ring17gOps) (o := { dst := some 160, op := Op.call { callee := Callee.value (Operand.func 11), args := #[Operand.tmp 159], argTypes := #[32] }, type := 25, pos := "outright.go:31", after := #[{ on := 22, ground := Ground.data }, { on := 19, ground := Ground.chain }, { on := 16, ground := Ground.guard }], guard := some (16, true) }) (a := a) (j := 16) (s := 153) (b := true) (c := true) rfl (by rfl) (by rw [← v16]; exact q16)
    obtain ⟨t22, g22⟩ := dep 22 (by kernel_rfl)
    have q22 := t22 159 (by rfl)
    have e22 := eval_at q22
    refine inv_call (G := Kd.ok z (ring17gK A B C 23)) (R := fun x y => Below x.heap.size x y) (hw.trans (by decide)) (F := 11) (args := #[f 22]) (by simp [go_sem, q22]) hK ?_
    exact k_add g22 (by simp) N1 hka hzx
  | 24, _ =>
    obtain rfl : { dst := some 161, op := Op.load 25 (Operand.tmp 4), type := 25, pos := "outright.go:31", after := #[{ on := 16, ground := Ground.guard }], guard := some (16, true) } = o := Option.some.inj (show ring17gOps[24]? = some _ from ho)
    obtain ⟨t16, g16⟩ := dep 16 (by kernel_rfl)
    have q16 := t16 153 (by rfl)
    have e16 := eval_at q16
    have v16 : f 16 = .bool true := g16
    have hw := wanted_some (ops := ring17gOps) (o := { dst := some 161, op := Op.load 25 (Operand.tmp 4), type := 25, pos := "outright.go:31", after := #[{ on := 16, ground := Ground.guard }], guard := some (16, true) }) (a := a) (j := 16) (s := 153) (b := true) (c := true) rfl (by rfl) (by rw [← v16]; exact q16)
    have qb4 := (bas 4 (by kernel_rfl)).trans h4
    have eb4 := eval_at qb4
    obtain ⟨xc, hc, hk⟩ := C4.below hR
    refine inv_val (G := Kd.ok z (ring17gK A B C 24)) (R := fun x y => Below x.heap.size x y) (hw.trans (by decide)) (v := .agg #[xc]) (w2 := x) (by simp only [execOp, eb4]; go_simp) hK hk (Below.refl _ _)
  | 25, _ =>
    obtain rfl : { dst := some 162, op := Op.load 25 (Operand.tmp 5), type := 25, pos := "outright.go:31", after := #[{ on := 16, ground := Ground.guard }], guard := some (16, true) } = o := Option.some.inj (show ring17gOps[25]? = some _ from ho)
    obtain ⟨t16, g16⟩ := dep 16 (by kernel_rfl)
    have q16 := t16 153 (by rfl)
    have e16 := eval_at q16
    have v16 : f 16 = .bool true := g16
    have hw := wanted_some (ops := ring17gOps) (o := { dst := some 162, op := Op.load 25 (Operand.tmp 5), type := 25, pos := "outright.go:31", after := #[{ on := 16, ground := Ground.guard }], guard := some (16, true) }) (a := a) (j := 16) (s := 153) (b := true) (c := true) rfl (by rfl) (by rw [← v16]; exact q16)
    have qb5 := (bas 5 (by kernel_rfl)).trans h5
    have eb5 := eval_at qb5
    obtain ⟨xc, hc, hk⟩ := C5.below hR
    refine inv_val (G := Kd.ok z (ring17gK A B C 25)) (R := fun x y => Below x.heap.size x y) (hw.trans (by decide)) (v := .agg #[xc]) (w2 := x) (by simp only [execOp, eb5]; go_simp) hK hk (Below.refl _ _)
  | 26, _ =>
    obtain rfl : { dst := some 163, op := Op.buildSlice 32 2 #[(0, Operand.tmp 161), (1, Operand.tmp 162)], type := 32, pos := "outright.go:31", after := #[{ on := 24, ground := Ground.data }, { on := 25, ground := Ground.data }, { on := 16, ground := Ground.guard }], guard := some (16, true) } = o := Option.some.inj (show ring17gOps[26]? = some _ from ho)
    obtain ⟨t16, g16⟩ := dep 16 (by kernel_rfl)
    have q16 := t16 153 (by rfl)
    have e16 := eval_at q16
    have v16 : f 16 = .bool true := g16
    have hw := wanted_some (ops := ring17gOps) (o := { dst := some 163, op := Op.buildSlice 32 2 #[(0, Operand.tmp 161), (1, Operand.tmp 162)], type := 32, pos := "outright.go:31", after := #[{ on := 24, ground := Ground.data }, { on := 25, ground := Ground.data }, { on := 16, ground := Ground.guard }], guard := some (16, true) }) (a := a) (j := 16) (s := 153) (b := true) (c := true) rfl (by rfl) (by rw [← v16]; exact q16)
    obtain ⟨t24, g24⟩ := dep 24 (by kernel_rfl)
    have q24 := t24 161 (by rfl)
    have e24 := eval_at q24
    obtain ⟨t25, g25⟩ := dep 25 (by kernel_rfl)
    have q25 := t25 162 (by rfl)
    have e25 := eval_at q25
    obtain ⟨v, w2, hr, hrow, hb⟩ := st_build2 g24 g25
    refine inv_val (G := Kd.ok z (ring17gK A B C 26)) (R := fun x y => Below x.heap.size x y) (hw.trans (by decide)) (v := v) (w2 := w2) (by simp [execOp, e24, e25, hr]) hK hrow hb
  | 27, _ =>
    obtain rfl : { dst := some 164, op := Op.call { callee := Callee.value (Operand.func 11), args := #[Operand.tmp 163], argTypes := #[32] }, type := 25, pos := "outright.go:31", after := #[{ on := 26, ground := Ground.data }, { on := 23, ground := Ground.chain }, { on := 16, ground := Ground.guard }], guard := some (16, true) } = o := Option.some.inj (show ring17gOps[27]? = some _ from ho)
    obtain ⟨t16, g16⟩ := dep 16 (by kernel_rfl)
    have q16 := t16 153 (by rfl)
    have e16 := eval_at q16
    have v16 : f 16 = .bool true := g16
    have hw := wanted_some (ops := ring17gOps) (o := { dst := some 164, op := Op.call { callee := Callee.value (Operand.func 11), args := #[Operand.tmp 163], argTypes := #[32] }, type := 25, pos := "outright.go:31", after := #[{ on := 26, ground := Ground.data }, { on := 23, ground := Ground.chain }, { on := 16, ground := Ground.guard }], guard := some (16, true) }) (a := a) (j := 16) (s := 153) (b := true) (c := true) rfl (by rfl) (by rw [← v16]; exact q16)
    obtain ⟨t26, g26⟩ := dep 26 (by kernel_rfl)
    have q26 := t26 163 (by rfl)
    have e26 := eval_at q26
    refine inv_call (G := Kd.ok z (ring17gK A B C 27)) (R := fun x y => Below x.heap.size x y) (hw.trans (by decide)) (F := 11) (args := #[f 26]) (by simp [go_sem, q26]) hK ?_
    exact k_add g26 (by simp) N2 hka hzx
  | 28, _ =>
    obtain rfl : { dst := some 165, op := Op.call { callee := Callee.value (Operand.func 16), args := #[Operand.tmp 160, Operand.tmp 164], argTypes := #[25, 25] }, type := 3, pos := "outright.go:31", after := #[{ on := 23, ground := Ground.data }, { on := 27, ground := Ground.data }, { on := 27, ground := Ground.chain }, { on := 16, ground := Ground.guard }], guard := some (16, true) } = o := Option.some.inj (show ring17gOps[28]? = some _ from ho)
    obtain ⟨t16, g16⟩ := dep 16 (by kernel_rfl)
    have q16 := t16 153 (by rfl)
    have e16 := eval_at q16
    have v16 : f 16 = .bool true := g16
    have hw := wanted_some (ops := ring17gOps) (o := { dst := some 165, op := Op.call { callee := Callee.value (Operand.func 16), args := #[Operand.tmp 160, Operand.tmp 164], argTypes := #[25, 25] }, type := 3, pos := "outright.go:31", after := #[{ on := 23, ground := Ground.data }, { on := 27, ground := Ground.data }, { on := 27, ground := Ground.chain }, { on := 16, ground := Ground.guard }], guard := some (16, true) }) (a := a) (j := 16) (s := 153) (b := true) (c := true) rfl (by rfl) (by rw [← v16]; exact q16)
    obtain ⟨t23, g23⟩ := dep 23 (by kernel_rfl)
    have q23 := t23 160 (by rfl)
    have e23 := eval_at q23
    obtain ⟨t27, g27⟩ := dep 27 (by kernel_rfl)
    have q27 := t27 164 (by rfl)
    have e27 := eval_at q27
    refine inv_call (G := Kd.ok z (ring17gK A B C 28)) (R := fun x y => Below x.heap.size x y) (hw.trans (by decide)) (F := 16) (args := #[f 23, f 27]) (by simp [go_sem, q23, q27]) hK ?_
    exact (by have h := k_cmp (z := z) g23.2 g27.2; rw [O2] at h; exact h)
  | 29, _ =>
    obtain rfl : { dst := some 166, op := Op.binOp BinOp.eql 3 (Operand.tmp 156) (Operand.tmp 165) 3, type := 4, pos := "outright.go:31", after := #[{ on := 19, ground := Ground.data }, { on := 28, ground := Ground.data }, { on := 16, ground := Ground.guard }], guard := some (16, true) } = o := Option.some.inj (show ring17gOps[29]? = some _ from ho)
    obtain ⟨t16, g16⟩ := dep 16 (by kernel_rfl)
    have q16 := t16 153 (by rfl)
    have e16 := eval_at q16
    have v16 : f 16 = .bool true := g16
    have hw := wanted_some (ops := ring17gOps) (o := { dst := some 166, op := Op.binOp BinOp.eql 3 (Operand.tmp 156) (Operand.tmp 165) 3, type := 4, pos := "outright.go:31", after := #[{ on := 19, ground := Ground.data }, { on := 28, ground := Ground.data }, { on := 16, ground := Ground.guard }], guard := some (16, true) }) (a := a) (j := 16) (s := 153) (b := true) (c := true) rfl (by rfl) (by rw [← v16]; exact q16)
    obtain ⟨t19, g19⟩ := dep 19 (by kernel_rfl)
    have q19 := t19 156 (by rfl)
    have e19 := eval_at q19
    obtain ⟨t28, g28⟩ := dep 28 (by kernel_rfl)
    have q28 := t28 165 (by rfl)
    have e28 := eval_at q28
    have w16 : f 16 = (.bool true) := g16
    have w19 : f 19 = (.int .i64 (1)) := g19
    have w28 : f 28 = (.int .i64 (1)) := g28
    rw [w19] at e19
    rw [w28] at e28
    refine inv_val (G := Kd.ok z (ring17gK A B C 29)) (R := fun x y => Below x.heap.size x y) (hw.trans (by decide)) (v := (.bool true)) (w2 := x) (by simp only [execOp, e19, e28]; go_simp) hK rfl (Below.refl _ _)
  | 30, _ =>
    obtain rfl : { dst := some 167, op := Op.pick (Operand.tmp 153) (Operand.tmp 166) (Operand.const (Value.bool false)), type := 4, pos := "outright.go:31", after := #[{ on := 16, ground := Ground.data }, { on := 29, ground := Ground.data }], guard := none } = o := Option.some.inj (show ring17gOps[30]? = some _ from ho)
    obtain ⟨t16, g16⟩ := dep 16 (by kernel_rfl)
    have q16 := t16 153 (by rfl)
    have e16 := eval_at q16
    obtain ⟨t29, g29⟩ := dep 29 (by kernel_rfl)
    have q29 := t29 166 (by rfl)
    have e29 := eval_at q29
    have w16 : f 16 = (.bool true) := g16
    have w29 : f 29 = (.bool true) := g29
    rw [w16] at e16
    rw [w29] at e29
    refine inv_val (G := Kd.ok z (ring17gK A B C 30)) (R := fun x y => Below x.heap.size x y) (wanted_none rfl) (v := (.bool true)) (w2 := x) (by simp only [execOp, e16, e29]; go_simp) hK rfl (Below.refl _ _)
  | 31, _ =>
    obtain rfl : { dst := some 168, op := Op.move (Operand.tmp 167), type := 4, pos := "outright.go:31", after := #[{ on := 30, ground := Ground.data }, { on := 28, ground := Ground.chain }], guard := none } = o := Option.some.inj (show ring17gOps[31]? = some _ from ho)
    obtain ⟨t30, g30⟩ := dep 30 (by kernel_rfl)
    have q30 := t30 167 (by rfl)
    have e30 := eval_at q30
    have w30 : f 30 = (.bool true) := g30
    rw [w30] at e30
    refine inv_val (G := Kd.ok z (ring17gK A B C 31)) (R := fun x y => Below x.heap.size x y) (wanted_none rfl) (v := (.bool true)) (w2 := x) (by simp only [execOp, e30]; go_simp) hK rfl (Below.refl _ _)
  | 32, _ =>
    obtain rfl : { dst := some 169, op := Op.load 25 (Operand.tmp 3), type := 25, pos := "outright.go:31", after := #[{ on := 31, ground := Ground.guard }], guard := some (31, true) } = o := Option.some.inj (show ring17gOps[32]? = some _ from ho)
    obtain ⟨t31, g31⟩ := dep 31 (by kernel_rfl)
    have q31 := t31 168 (by rfl)
    have e31 := eval_at q31
    have v31 : f 31 = .bool true := g31
    have hw := wanted_some (ops := ring17gOps) (o := { dst := some 169, op := Op.load 25 (Operand.tmp 3), type := 25, pos := "outright.go:31", after := #[{ on := 31, ground := Ground.guard }], guard := some (31, true) }) (a := a) (j := 31) (s := 168) (b := true) (c := true) rfl (by rfl) (by rw [← v31]; exact q31)
    have qb3 := (bas 3 (by kernel_rfl)).trans h3
    have eb3 := eval_at qb3
    obtain ⟨xc, hc, hk⟩ := C3.below hR
    refine inv_val (G := Kd.ok z (ring17gK A B C 32)) (R := fun x y => Below x.heap.size x y) (hw.trans (by decide)) (v := .agg #[xc]) (w2 := x) (by simp only [execOp, eb3]; go_simp) hK hk (Below.refl _ _)
  | 33, _ =>
    obtain rfl : { dst := some 170, op := Op.load 25 (Operand.tmp 4), type := 25, pos := "outright.go:31", after := #[{ on := 31, ground := Ground.guard }], guard := some (31, true) } = o := Option.some.inj (show ring17gOps[33]? = some _ from ho)
    obtain ⟨t31, g31⟩ := dep 31 (by kernel_rfl)
    have q31 := t31 168 (by rfl)
    have e31 := eval_at q31
    have v31 : f 31 = .bool true := g31
    have hw := wanted_some (ops := ring17gOps) (o := { dst := some 170, op := Op.load 25 (Operand.tmp 4), type := 25, pos := "outright.go:31", after := #[{ on := 31, ground := Ground.guard }], guard := some (31, true) }) (a := a) (j := 31) (s := 168) (b := true) (c := true) rfl (by rfl) (by rw [← v31]; exact q31)
    have qb4 := (bas 4 (by kernel_rfl)).trans h4
    have eb4 := eval_at qb4
    obtain ⟨xc, hc, hk⟩ := C4.below hR
    refine inv_val (G := Kd.ok z (ring17gK A B C 33)) (R := fun x y => Below x.heap.size x y) (hw.trans (by decide)) (v := .agg #[xc]) (w2 := x) (by simp only [execOp, eb4]; go_simp) hK hk (Below.refl _ _)
  | 34, _ =>
    obtain rfl : { dst := some 171, op := Op.call { callee := Callee.value (Operand.func 16), args := #[Operand.tmp 169, Operand.tmp 170], argTypes := #[25, 25] }, type := 3, pos := "outright.go:31", after := #[{ on := 32, ground := Ground.data }, { on := 33, ground := Ground.data }, { on := 31, ground := Ground.chain }, { on := 31, ground := Ground.guard }], guard := some (31, true) } = o := Option.some.inj (show ring17gOps[34]? = some _ from ho)
    obtain ⟨t31, g31⟩ := dep 31 (by kernel_rfl)
    have q31 := t31 168 (by rfl)
    have e31 := eval_at q31
    have v31 : f 31 = .bool true := g31
    have hw := wanted_some (ops := ring17gOps) (o := { dst := some 171, op := Op.call { callee := Callee.value (Operand.func 16), args := #[Operand.tmp 169, Operand.tmp 170], argTypes := #[25, 25] }, type := 3, pos := "outright.go:31", after := #[{ on := 32, ground := Ground.data }, { on := 33, ground := Ground.data }, { on := 31, ground := Ground.chain }, { on := 31, ground := Ground.guard }], guard := some (31, true) }) (a := a) (j := 31) (s := 168) (b := true) (c := true) rfl (by rfl) (by rw [← v31]; exact q31)
    obtain ⟨t32, g32⟩ := dep 32 (by kernel_rfl)
    have q32 := t32 169 (by rfl)
    have e32 := eval_at q32
    obtain ⟨t33, g33⟩ := dep 33 (by kernel_rfl)
    have q33 := t33 170 (by rfl)
    have e33 := eval_at q33
    refine inv_call (G := Kd.ok z (ring17gK A B C 34)) (R := fun x y => Below x.heap.size x y) (hw.trans (by decide)) (F := 16) (args := #[f 32, f 33]) (by simp [go_sem, q32, q33]) hK ?_
    exact (by have h := k_cmp (z := z) g32 g33; rw [O1] at h; exact h)
  | 35, _ =>
    obtain rfl : { dst := some 172, op := Op.load 25 (Operand.tmp 4), type := 25, pos := "outright.go:31", after := #[{ on := 31, ground := Ground.guard }], guard := some (31, true) } = o := Option.some.inj (show ring17gOps[35]? = some _ from ho)
    obtain ⟨t31, g31⟩ := dep 31 (by kernel_rfl)
    have q31 := t31 168 (by rfl)
    have e31 := eval_at q31
    have v31 : f 31 = .bool true := g31
    have hw := wanted_some (ops := ring17gOps) (o := { dst := some 172, op := Op.load 25 (Operand.tmp 4), type := 25, pos := "outright.go:31", after := #[{ on := 31, ground := Ground.guard }], guard := some (31, true) }) (a := a) (j := 31) (s := 168) (b := true) (c := true) rfl (by rfl) (by rw [← v31]; exact q31)
    have qb4 := (bas 4 (by kernel_rfl)).trans h4
    have eb4 := eval_at qb4
    obtain ⟨xc, hc, hk⟩ := C4.below hR
    refine inv_val (G := Kd.ok z (ring17gK A B C 35)) (R := fun x y => Below x.heap.size x y) (hw.trans (by decide)) (v := .agg #[xc]) (w2 := x) (by simp only [execOp, eb4]; go_simp) hK hk (Below.refl _ _)
  | 36, _ =>
    obtain rfl : { dst := some 173, op := Op.load 25 (Operand.tmp 3), type := 25, pos := "outright.go:31", after := #[{ on := 31, ground := Ground.guard }], guard := some (31, true) } = o := Option.some.inj (show ring17gOps[36]? = some _ from ho)
    obtain ⟨t31, g31⟩ := dep 31 (by kernel_rfl)
    have q31 := t31 168 (by rfl)
    have e31 := eval_at q31
    have v31 : f 31 = .bool true := g31
    have hw := wanted_some (ops := ring17gOps) (o := { dst := some 173, op := Op.load 25 (Operand.tmp 3), type := 25, pos := "outright.go:31", after := #[{ on := 31, ground := Ground.guard }], guard := some (31, true) }) (a := a) (j := 31) (s := 168) (b := true) (c := true) rfl (by rfl) (by rw [← v31]; exact q31)
    have qb3 := (bas 3 (by kernel_rfl)).trans h3
    have eb3 := eval_at qb3
    obtain ⟨xc, hc, hk⟩ := C3.below hR
    refine inv_val (G := Kd.ok z (ring17gK A B C 36)) (R := fun x y => Below x.heap.size x y) (hw.trans (by decide)) (v := .agg #[xc]) (w2 := x) (by simp only [execOp, eb3]; go_simp) hK hk (Below.refl _ _)
  | 37, _ =>
    obtain rfl : { dst := some 174, op := Op.call { callee := Callee.value (Operand.func 16), args := #[Operand.tmp 172, Operand.tmp 173], argTypes := #[25, 25] }, type := 3, pos := "outright.go:31", after := #[{ on := 35, ground := Ground.data }, { on := 36, ground := Ground.data }, { on := 34, ground := Ground.chain }, { on := 31, ground := Ground.guard }], guard := some (31, true) } = o := Option.some.inj (show ring17gOps[37]? = some _ from ho)
    obtain ⟨t31, g31⟩ := dep 31 (by kernel_rfl)
    have q31 := t31 168 (by rfl)
    have e31 := eval_at q31
    have v31 : f 31 = .bool true := g31
    have hw := wanted_some (ops := ring17gOps) (o := { dst := some 174, op := Op.call { callee := Callee.value (Operand.func 16), args := #[Operand.tmp 172, Operand.tmp 173], argTypes := #[25, 25] }, type := 3, pos := "outright.go:31", after := #[{ on := 35, ground := Ground.data }, { on := 36, ground := Ground.data }, { on := 34, ground := Ground.chain }, { on := 31, ground := Ground.guard }], guard := some (31, true) }) (a := a) (j := 31) (s := 168) (b := true) (c := true) rfl (by rfl) (by rw [← v31]; exact q31)
    obtain ⟨t35, g35⟩ := dep 35 (by kernel_rfl)
    have q35 := t35 172 (by rfl)
    have e35 := eval_at q35
    obtain ⟨t36, g36⟩ := dep 36 (by kernel_rfl)
    have q36 := t36 173 (by rfl)
    have e36 := eval_at q36
    refine inv_call (G := Kd.ok z (ring17gK A B C 37)) (R := fun x y => Below x.heap.size x y) (hw.trans (by decide)) (F := 16) (args := #[f 35, f 36]) (by simp [go_sem, q35, q36]) hK ?_
    exact (by have h := k_cmp (z := z) g35 g36; rw [O3] at h; exact h)
  | 38, _ =>
    obtain rfl : { dst := some 175, op := Op.unOp UnOp.neg 3 (Operand.tmp 174), type := 3, pos := "outright.go:31", after := #[{ on := 37, ground := Ground.data }, { on := 31, ground := Ground.guard }], guard := some (31, true) } = o := Option.some.inj (show ring17gOps[38]? = some _ from ho)
    obtain ⟨t31, g31⟩ := dep 31 (by kernel_rfl)
    have q31 := t31 168 (by rfl)
    have e31 := eval_at q31
    have v31 : f 31 = .bool true := g31
    have hw := wanted_some (ops := ring17gOps) (o := { dst := some 175, op := Op.unOp UnOp.neg 3 (Operand.tmp 174), type := 3, pos := "outright.go:31", after := #[{ on := 37, ground := Ground.data }, { on := 31, ground := Ground.guard }], guard := some (31, true) }) (a := a) (j := 31) (s := 168) (b := true) (c := true) rfl (by rfl) (by rw [← v31]; exact q31)
    obtain ⟨t37, g37⟩ := dep 37 (by kernel_rfl)
    have q37 := t37 174 (by rfl)
    have e37 := eval_at q37
    have w31 : f 31 = (.bool true) := g31
    have w37 : f 37 = (.int .i64 (-1)) := g37
    rw [w37] at e37
    refine inv_val (G := Kd.ok z (ring17gK A B C 38)) (R := fun x y => Below x.heap.size x y) (hw.trans (by decide)) (v := (.int .i64 (1))) (w2 := x) (by simp only [execOp, e37]; go_simp <;> decide) hK rfl (Below.refl _ _)
  | 39, _ =>
    obtain rfl : { dst := some 176, op := Op.binOp BinOp.eql 3 (Operand.tmp 171) (Operand.tmp 175) 3, type := 4, pos := "outright.go:31", after := #[{ on := 34, ground := Ground.data }, { on := 38, ground := Ground.data }, { on := 31, ground := Ground.guard }], guard := some (31, true) } = o := Option.some.inj (show ring17gOps[39]? = some _ from ho)
    obtain ⟨t31, g31⟩ := dep 31 (by kernel_rfl)
    have q31 := t31 168 (by rfl)
    have e31 := eval_at q31
    have v31 : f 31 = .bool true := g31
    have hw := wanted_some (ops := ring17gOps) (o := { dst := some 176, op := Op.binOp BinOp.eql 3 (Operand.tmp 171) (Operand.tmp 175) 3, type := 4, pos := "outright.go:31", after := #[{ on := 34, ground := Ground.data }, { on := 38, ground := Ground.data }, { on := 31, ground := Ground.guard }], guard := some (31, true) }) (a := a) (j := 31) (s := 168) (b := true) (c := true) rfl (by rfl) (by rw [← v31]; exact q31)
    obtain ⟨t34, g34⟩ := dep 34 (by kernel_rfl)
    have q34 := t34 171 (by rfl)
    have e34 := eval_at q34
    obtain ⟨t38, g38⟩ := dep 38 (by kernel_rfl)
    have q38 := t38 175 (by rfl)
    have e38 := eval_at q38
    have w31 : f 31 = (.bool true) := g31
    have w34 : f 34 = (.int .i64 (1)) := g34
    have w38 : f 38 = (.int .i64 (1)) := g38
    rw [w34] at e34
    rw [w38] at e38
    refine inv_val (G := Kd.ok z (ring17gK A B C 39)) (R := fun x y => Below x.heap.size x y) (hw.trans (by decide)) (v := (.bool true)) (w2 := x) (by simp only [execOp, e34, e38]; go_simp) hK rfl (Below.refl _ _)
  | 40, _ =>
    obtain rfl : { dst := some 177, op := Op.pick (Operand.tmp 168) (Operand.tmp 176) (Operand.const (Value.bool false)), type := 4, pos := "outright.go:31", after := #[{ on := 31, ground := Ground.data }, { on := 39, ground := Ground.data }], guard := none } = o := Option.some.inj (show ring17gOps[40]? = some _ from ho)
    obtain ⟨t31, g31⟩ := dep 31 (by kernel_rfl)
    have q31 := t31 168 (by rfl)
    have e31 := eval_at q31
    obtain ⟨t39, g39⟩ := dep 39 (by kernel_rfl)
    have q39 := t39 176 (by rfl)
    have e39 := eval_at q39
    have w31 : f 31 = (.bool true) := g31
    have w39 : f 39 = (.bool true) := g39
    rw [w31] at e31
    rw [w39] at e39
    refine inv_val (G := Kd.ok z (ring17gK A B C 40)) (R := fun x y => Below x.heap.size x y) (wanted_none rfl) (v := (.bool true)) (w2 := x) (by simp only [execOp, e31, e39]; go_simp) hK rfl (Below.refl _ _)
  | 41, _ =>
    obtain rfl : { dst := some 178, op := Op.move (Operand.tmp 177), type := 4, pos := "outright.go:31", after := #[{ on := 40, ground := Ground.data }, { on := 37, ground := Ground.chain }], guard := none } = o := Option.some.inj (show ring17gOps[41]? = some _ from ho)
    obtain ⟨t40, g40⟩ := dep 40 (by kernel_rfl)
    have q40 := t40 177 (by rfl)
    have e40 := eval_at q40
    have w40 : f 40 = (.bool true) := g40
    rw [w40] at e40
    refine inv_val (G := Kd.ok z (ring17gK A B C 41)) (R := fun x y => Below x.heap.size x y) (wanted_none rfl) (v := (.bool true)) (w2 := x) (by simp only [execOp, e40]; go_simp) hK rfl (Below.refl _ _)
  | 42, _ =>
    obtain rfl : { dst := some 179, op := Op.load 25 (Operand.tmp 3), type := 25, pos := "outright.go:31", after := #[{ on := 41, ground := Ground.guard }], guard := some (41, true) } = o := Option.some.inj (show ring17gOps[42]? = some _ from ho)
    obtain ⟨t41, g41⟩ := dep 41 (by kernel_rfl)
    have q41 := t41 178 (by rfl)
    have e41 := eval_at q41
    have v41 : f 41 = .bool true := g41
    have hw := wanted_some (ops := ring17gOps) (o := { dst := some 179, op := Op.load 25 (Operand.tmp 3), type := 25, pos := "outright.go:31", after := #[{ on := 41, ground := Ground.guard }], guard := some (41, true) }) (a := a) (j := 41) (s := 178) (b := true) (c := true) rfl (by rfl) (by rw [← v41]; exact q41)
    have qb3 := (bas 3 (by kernel_rfl)).trans h3
    have eb3 := eval_at qb3
    obtain ⟨xc, hc, hk⟩ := C3.below hR
    refine inv_val (G := Kd.ok z (ring17gK A B C 42)) (R := fun x y => Below x.heap.size x y) (hw.trans (by decide)) (v := .agg #[xc]) (w2 := x) (by simp only [execOp, eb3]; go_simp) hK hk (Below.refl _ _)
  | 43, _ =>
    obtain rfl : { dst := some 180, op := Op.load 25 (Operand.tmp 4), type := 25, pos := "outright.go:31", after := #[{ on := 41, ground := Ground.guard }], guard := some (41, true) } = o := Option.some.inj (show ring17gOps[43]? = some _ from ho)
    obtain ⟨t41, g41⟩ := dep 41 (by kernel_rfl)
    have q41 := t41 178 (by rfl)
    have e41 := eval_at q41
    have v41 : f 41 = .bool true := g41
    have hw := wanted_some (ops := ring17gOps) (o := { dst := some 180, op := Op.load 25 (Operand.tmp 4), type := 25, pos := "outright.go:31", after := #[{ on := 41, ground := Ground.guard }], guard := some (41, true) }) (a := a) (j := 41) (s := 178) (b := true) (c := true) rfl (by rfl) (by rw [← v41]; exact q41)
    have qb4 := (bas 4 (by kernel_rfl)).trans h4
    have eb4 := eval_at qb4
    obtain ⟨xc, hc, hk⟩ := C4.below hR
    refine inv_val (G := Kd.ok z (ring17gK A B C 43)) (R := fun x y => Below x.heap.size x y) (hw.trans (by decide)) (v := .agg #[xc]) (w2 := x) (by simp only [execOp, eb4]; go_simp) hK hk (Below.refl _ _)
  | 44, _ =>
    obtain rfl : { dst := some 181, op := Op.call { callee := Callee.value (Operand.func 16), args := #[Operand.tmp 179, Operand.tmp 180], argTypes := #[25, 25] }, type := 3, pos := "outright.go:31", after := #[{ on := 42, ground := Ground.data }, { on := 43, ground := Ground.data }, { on := 41, ground := Ground.chain }, { on := 41, ground := Ground.guard }], guard := some (41, true) } = o := Option.some.inj (show ring17gOps[44]? = some _ from ho)
    obtain ⟨t41, g41⟩ := dep 41 (by kernel_rfl)
    have q41 := t41 178 (by rfl)
    have e41 := eval_at q41
    have v41 : f 41 = .bool true := g41
    have hw := wanted_some (ops := ring17gOps) (o := { dst := some 181, op := Op.call { callee := Callee.value (Operand.func 16), args := #[Operand.tmp 179, Operand.tmp 180], argTypes := #[25, 25] }, type := 3, pos := "outright.go:31", after := #[{ on := 42, ground := Ground.data }, { on := 43, ground := Ground.data }, { on := 41, ground := Ground.chain }, { on := 41, ground := Ground.guard }], guard := some (41, true) }) (a := a) (j := 41) (s := 178) (b := true) (c := true) rfl (by rfl) (by rw [← v41]; exact q41)
    obtain ⟨t42, g42⟩ := dep 42 (by kernel_rfl)
    have q42 := t42 179 (by rfl)
    have e42 := eval_at q42
    obtain ⟨t43, g43⟩ := dep 43 (by kernel_rfl)
    have q43 := t43 180 (by rfl)
    have e43 := eval_at q43
    refine inv_call (G := Kd.ok z (ring17gK A B C 44)) (R := fun x y => Below x.heap.size x y) (hw.trans (by decide)) (F := 16) (args := #[f 42, f 43]) (by simp [go_sem, q42, q43]) hK ?_
    exact (by have h := k_cmp (z := z) g42 g43; rw [O1] at h; exact h)
  | 45, _ =>
    obtain rfl : { dst := some 182, op := Op.binOp BinOp.neq 3 (Operand.tmp 181) (Operand.const (Value.int IntKind.i64 0)) 3, type := 4, pos := "outright.go:31", after := #[{ on := 44, ground := Ground.data }, { on := 41, ground := Ground.guard }], guard := some (41, true) } = o := Option.some.inj (show ring17gOps[45]? = some _ from ho)
    obtain ⟨t41, g41⟩ := dep 41 (by kernel_rfl)
    have q41 := t41 178 (by rfl)
    have e41 := eval_at q41
    have v41 : f 41 = .bool true := g41
    have hw := wanted_some (ops := ring17gOps) (o := { dst := some 182, op := Op.binOp BinOp.neq 3 (Operand.tmp 181) (Operand.const (Value.int IntKind.i64 0)) 3, type := 4, pos := "outright.go:31", after := #[{ on := 44, ground := Ground.data }, { on := 41, ground := Ground.guard }], guard := some (41, true) }) (a := a) (j := 41) (s := 178) (b := true) (c := true) rfl (by rfl) (by rw [← v41]; exact q41)
    obtain ⟨t44, g44⟩ := dep 44 (by kernel_rfl)
    have q44 := t44 181 (by rfl)
    have e44 := eval_at q44
    have w41 : f 41 = (.bool true) := g41
    have w44 : f 44 = (.int .i64 (1)) := g44
    rw [w44] at e44
    refine inv_val (G := Kd.ok z (ring17gK A B C 45)) (R := fun x y => Below x.heap.size x y) (hw.trans (by decide)) (v := (.bool true)) (w2 := x) (by simp only [execOp, e44]; go_simp) hK rfl (Below.refl _ _)
  | 46, _ =>
    obtain rfl : { dst := some 183, op := Op.move (Operand.tmp 182), type := 4, pos := "outright.go:31", after := #[{ on := 45, ground := Ground.data }, { on := 44, ground := Ground.chain }, { on := 41, ground := Ground.guard }], guard := some (41, true) } = o := Option.some.inj (show ring17gOps[46]? = some _ from ho)
    obtain ⟨t41, g41⟩ := dep 41 (by kernel_rfl)
    have q41 := t41 178 (by rfl)
    have e41 := eval_at q41
    have v41 : f 41 = .bool true := g41
    have hw := wanted_some (ops := ring17gOps) (o := { dst := some 183, op := Op.move (Operand.tmp 182), type := 4, pos := "outright.go:31", after := #[{ on := 45, ground := Ground.data }, { on := 44, ground := Ground.chain }, { on := 41, ground := Ground.guard }], guard := some (41, true) }) (a := a) (j := 41) (s := 178) (b := true) (c := true) rfl (by rfl) (by rw [← v41]; exact q41)
    obtain ⟨t45, g45⟩ := dep 45 (by kernel_rfl)
    have q45 := t45 182 (by rfl)
    have e45 := eval_at q45
    have w41 : f 41 = (.bool true) := g41
    have w45 : f 45 = (.bool true) := g45
    rw [w45] at e45
    refine inv_val (G := Kd.ok z (ring17gK A B C 46)) (R := fun x y => Below x.heap.size x y) (hw.trans (by decide)) (v := (.bool true)) (w2 := x) (by simp only [execOp, e45]; go_simp) hK rfl (Below.refl _ _)
  | 47, _ =>
    obtain rfl : { dst := some 184, op := Op.load 25 (Operand.tmp 3), type := 25, pos := "outright.go:31", after := #[{ on := 46, ground := Ground.guard }], guard := some (46, false) } = o := Option.some.inj (show ring17gOps[47]? = some _ from ho)
    obtain ⟨t46, g46⟩ := dep 46 (by kernel_rfl)
    have q46 := t46 183 (by rfl)
    have e46 := eval_at q46
    have v46 : f 46 = .bool true := g46
    have hw := wanted_some (ops := ring17gOps) (o := { dst := some 184, op := Op.load 25 (Operand.tmp 3), type := 25, pos := "outright.go:31", after := #[{ on := 46, ground := Ground.guard }], guard := some (46, false) }) (a := a) (j := 46) (s := 183) (b := false) (c := true) rfl (by rfl) (by rw [← v46]; exact q46)
    exact inv_left (G := Kd.ok z (ring17gK A B C 47)) (R := fun x y => Below x.heap.size x y) (hw.trans (by decide)) hK rfl (Below.refl _ _)
  | 48, _ =>
    obtain rfl : { dst := some 185, op := Op.call { callee := Callee.value (Operand.func 13), args := #[Operand.tmp 184], argTypes := #[25] }, type := 9, pos := "outright.go:31", after := #[{ on := 47, ground := Ground.data }, { on := 46, ground := Ground.chain }, { on := 46, ground := Ground.guard }], guard := some (46, false) } = o := Option.some.inj (show ring17gOps[48]? = some _ from ho)
    obtain ⟨t46, g46⟩ := dep 46 (by kernel_rfl)
    have q46 := t46 183 (by rfl)
    have e46 := eval_at q46
    have v46 : f 46 = .bool true := g46
    have hw := wanted_some (ops := ring17gOps) (o := { dst := some 185, op := Op.call { callee := Callee.value (Operand.func 13), args := #[Operand.tmp 184], argTypes := #[25] }, type := 9, pos := "outright.go:31", after := #[{ on := 47, ground := Ground.data }, { on := 46, ground := Ground.chain }, { on := 46, ground := Ground.guard }], guard := some (46, false) }) (a := a) (j := 46) (s := 183) (b := false) (c := true) rfl (by rfl) (by rw [← v46]; exact q46)
    exact inv_left (G := Kd.ok z (ring17gK A B C 48)) (R := fun x y => Below x.heap.size x y) (hw.trans (by decide)) hK rfl (Below.refl _ _)
  | 49, _ =>
    obtain rfl : { dst := some 186, op := Op.load 25 (Operand.tmp 4), type := 25, pos := "outright.go:31", after := #[{ on := 46, ground := Ground.guard }], guard := some (46, false) } = o := Option.some.inj (show ring17gOps[49]? = some _ from ho)
    obtain ⟨t46, g46⟩ := dep 46 (by kernel_rfl)
    have q46 := t46 183 (by rfl)
    have e46 := eval_at q46
    have v46 : f 46 = .bool true := g46
    have hw := wanted_some (ops := ring17gOps) (o := { dst := some 186, op := Op.load 25 (Operand.tmp 4), type := 25, pos := "outright.go:31", after := #[{ on := 46, ground := Ground.guard }], guard := some (46, false) }) (a := a) (j := 46) (s := 183) (b := false) (c := true) rfl (by rfl) (by rw [← v46]; exact q46)
    exact inv_left (G := Kd.ok z (ring17gK A B C 49)) (R := fun x y => Below x.heap.size x y) (hw.trans (by decide)) hK rfl (Below.refl _ _)
  | 50, _ =>
    obtain rfl : { dst := some 187, op := Op.call { callee := Callee.value (Operand.func 13), args := #[Operand.tmp 186], argTypes := #[25] }, type := 9, pos := "outright.go:31", after := #[{ on := 49, ground := Ground.data }, { on := 48, ground := Ground.chain }, { on := 46, ground := Ground.guard }], guard := some (46, false) } = o := Option.some.inj (show ring17gOps[50]? = some _ from ho)
    obtain ⟨t46, g46⟩ := dep 46 (by kernel_rfl)
    have q46 := t46 183 (by rfl)
    have e46 := eval_at q46
    have v46 : f 46 = .bool true := g46
    have hw := wanted_some (ops := ring17gOps) (o := { dst := some 187, op := Op.call { callee := Callee.value (Operand.func 13), args := #[Operand.tmp 186], argTypes := #[25] }, type := 9, pos := "outright.go:31", after := #[{ on := 49, ground := Ground.data }, { on := 48, ground := Ground.chain }, { on := 46, ground := Ground.guard }], guard := some (46, false) }) (a := a) (j := 46) (s := 183) (b := false) (c := true) rfl (by rfl) (by rw [← v46]; exact q46)
    exact inv_left (G := Kd.ok z (ring17gK A B C 50)) (R := fun x y => Below x.heap.size x y) (hw.trans (by decide)) hK rfl (Below.refl _ _)
  | 51, _ =>
    obtain rfl : { dst := some 188, op := Op.binOp BinOp.eql 9 (Operand.tmp 185) (Operand.tmp 187) 9, type := 4, pos := "outright.go:31", after := #[{ on := 48, ground := Ground.data }, { on := 50, ground := Ground.data }, { on := 46, ground := Ground.guard }], guard := some (46, false) } = o := Option.some.inj (show ring17gOps[51]? = some _ from ho)
    obtain ⟨t46, g46⟩ := dep 46 (by kernel_rfl)
    have q46 := t46 183 (by rfl)
    have e46 := eval_at q46
    have v46 : f 46 = .bool true := g46
    have hw := wanted_some (ops := ring17gOps) (o := { dst := some 188, op := Op.binOp BinOp.eql 9 (Operand.tmp 185) (Operand.tmp 187) 9, type := 4, pos := "outright.go:31", after := #[{ on := 48, ground := Ground.data }, { on := 50, ground := Ground.data }, { on := 46, ground := Ground.guard }], guard := some (46, false) }) (a := a) (j := 46) (s := 183) (b := false) (c := true) rfl (by rfl) (by rw [← v46]; exact q46)
    exact inv_left (G := Kd.ok z (ring17gK A B C 51)) (R := fun x y => Below x.heap.size x y) (hw.trans (by decide)) hK rfl (Below.refl _ _)
  | 52, _ =>
    obtain rfl : { dst := some 189, op := Op.pick (Operand.tmp 183) (Operand.const (Value.bool true)) (Operand.tmp 188), type := 4, pos := "outright.go:31", after := #[{ on := 46, ground := Ground.data }, { on := 51, ground := Ground.data }, { on := 41, ground := Ground.guard }], guard := some (41, true) } = o := Option.some.inj (show ring17gOps[52]? = some _ from ho)
    obtain ⟨t41, g41⟩ := dep 41 (by kernel_rfl)
    have q41 := t41 178 (by rfl)
    have e41 := eval_at q41
    have v41 : f 41 = .bool true := g41
    have hw := wanted_some (ops := ring17gOps) (o := { dst := some 189, op := Op.pick (Operand.tmp 183) (Operand.const (Value.bool true)) (Operand.tmp 188), type := 4, pos := "outright.go:31", after := #[{ on := 46, ground := Ground.data }, { on := 51, ground := Ground.data }, { on := 41, ground := Ground.guard }], guard := some (41, true) }) (a := a) (j := 41) (s := 178) (b := true) (c := true) rfl (by rfl) (by rw [← v41]; exact q41)
    obtain ⟨t46, g46⟩ := dep 46 (by kernel_rfl)
    have q46 := t46 183 (by rfl)
    have e46 := eval_at q46
    obtain ⟨t51, g51⟩ := dep 51 (by kernel_rfl)
    have q51 := t51 188 (by rfl)
    have e51 := eval_at q51
    have w41 : f 41 = (.bool true) := g41
    have w46 : f 46 = (.bool true) := g46
    have w51 : f 51 = undef := g51
    rw [w46] at e46
    refine inv_val (G := Kd.ok z (ring17gK A B C 52)) (R := fun x y => Below x.heap.size x y) (hw.trans (by decide)) (v := (.bool true)) (w2 := x) (by simp only [execOp, e46, e51]; go_simp) hK rfl (Below.refl _ _)
  | 53, _ =>
    obtain rfl : { dst := some 190, op := Op.pick (Operand.tmp 178) (Operand.tmp 189) (Operand.const (Value.bool false)), type := 4, pos := "outright.go:31", after := #[{ on := 41, ground := Ground.data }, { on := 52, ground := Ground.data }], guard := none } = o := Option.some.inj (show ring17gOps[53]? = some _ from ho)
    obtain ⟨t41, g41⟩ := dep 41 (by kernel_rfl)
    have q41 := t41 178 (by rfl)
    have e41 := eval_at q41
    obtain ⟨t52, g52⟩ := dep 52 (by kernel_rfl)
    have q52 := t52 189 (by rfl)
    have e52 := eval_at q52
    have w41 : f 41 = (.bool true) := g41
    have w52 : f 52 = (.bool true) := g52
    rw [w41] at e41
    rw [w52] at e52
    refine inv_val (G := Kd.ok z (ring17gK A B C 53)) (R := fun x y => Below x.heap.size x y) (wanted_none rfl) (v := (.bool true)) (w2 := x) (by simp only [execOp, e41, e52]; go_simp) hK rfl (Below.refl _ _)
  | 54, _ =>
    obtain rfl : { dst := some 6, op := Op.assign (Operand.tmp 190), type := 4, pos := "outright.go:31", after := #[{ on := 53, ground := Ground.data }, { on := 50, ground := Ground.chain }, { on := 0, ground := Ground.phase }, { on := 1, ground := Ground.phase }, { on := 2, ground := Ground.phase }, { on := 3, ground := Ground.phase }, { on := 4, ground := Ground.phase }, { on := 5, ground := Ground.phase }, { on := 6, ground := Ground.phase }, { on := 7, ground := Ground.phase }, { on := 8, ground := Ground.phase }, { on := 9, ground := Ground.phase }, { on := 10, ground := Ground.phase }, { on := 11, ground := Ground.phase }, { on := 12, ground := Ground.phase }, { on := 13, ground := Ground.phase }, { on := 14, ground := Ground.phase }, { on := 15, ground := Ground.phase }, { on := 16, ground := Ground.phase }, { on := 17, ground := Ground.phase }, { on := 18, ground := Ground.phase }, { on := 19, ground := Ground.phase }, { on := 20, ground := Ground.phase }, { on := 21, ground := Ground.phase }, { on := 22, ground := Ground.phase }, { on := 23, ground := Ground.phase }, { on := 24, ground := Ground.phase }, { on := 25, ground := Ground.phase }, { on := 26, ground := Ground.phase }, { on := 27, ground := Ground.phase }, { on := 28, ground := Ground.phase }, { on := 29, ground := Ground.phase }, { on := 30, ground := Ground.phase }, { on := 31, ground := Ground.phase }, { on := 32, ground := Ground.phase }, { on := 33, ground := Ground.phase }, { on := 34, ground := Ground.phase }, { on := 35, ground := Ground.phase }, { on := 36, ground := Ground.phase }, { on := 37, ground := Ground.phase }, { on := 38, ground := Ground.phase }, { on := 39, ground := Ground.phase }, { on := 40, ground := Ground.phase }, { on := 41, ground := Ground.phase }, { on := 42, ground := Ground.phase }, { on := 43, ground := Ground.phase }, { on := 44, ground := Ground.phase }, { on := 45, ground := Ground.phase }, { on := 46, ground := Ground.phase }, { on := 47, ground := Ground.phase }, { on := 48, ground := Ground.phase }, { on := 49, ground := Ground.phase }, { on := 50, ground := Ground.phase }, { on := 51, ground := Ground.phase }, { on := 52, ground := Ground.phase }, { on := 53, ground := Ground.phase }], guard := none } = o := Option.some.inj (show ring17gOps[54]? = some _ from ho)
    obtain ⟨t53, g53⟩ := dep 53 (by kernel_rfl)
    have q53 := t53 190 (by rfl)
    have e53 := eval_at q53
    have w53 : f 53 = (.bool true) := g53
    rw [w53] at e53
    refine inv_val (G := Kd.ok z (ring17gK A B C 54)) (R := fun x y => Below x.heap.size x y) (wanted_none rfl) (v := (.bool true)) (w2 := x) (by simp only [execOp, e53]; go_simp) hK rfl (Below.refl _ _)
end Go.Proofs.YteiadigkbhbolaaDoor
