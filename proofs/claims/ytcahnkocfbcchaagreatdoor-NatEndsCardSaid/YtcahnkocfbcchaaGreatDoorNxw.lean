/- NatTells: its drawn region 9, in any order of its operations. -/
/- NatTells: its drawn region 9, its end, in any order of its operations. -/
import Derived.Test.YtcahnkocfbcchaaGreatDoorNxu

namespace Go.Proofs.YtcahnkocfbcchaaGreatDoor
open Go.RowKit Tnd

theorem apt_new {x y : World} {u : Value} {q q' : Option Addr} {n c n' c' B m m' : Nat} (hu : u = .agg #[.slice q n c]) (h : FNat x B (.agg #[.slice q n c]) m) (h' : FNat y x.heap.size (.agg #[.slice q' n' c']) m') : Apt u (.agg #[.slice q' n' c']) := by
  obtain ⟨k, _, o⟩ := fnat_own h
  obtain ⟨k', _, o'⟩ := fnat_own h'
  rintro q1 n1 c1 q2 n2 c2 b e1 e2 e3 e4
  rw [hu] at e1
  simp only [Value.agg.injEq, Array.mk.injEq, List.cons.injEq, Value.slice.injEq, and_true] at e1 e2
  rw [← e1.1] at e3
  rw [← e2.1] at e4
  have h1 := ((own_d o).2.2 b e3).1
  have h2 := ((own_d o').2.2 b e4).2.1
  omega
def nt9o0 : Oper := { dst := some 82, op := Op.load 24 (Operand.tmp 7), type := 24, pos := "law.go:48", after := #[], guard := none }
def nt9o1 : Oper := { dst := some 83, op := Op.load 24 (Operand.tmp 3), type := 24, pos := "law.go:48", after := #[], guard := none }
def nt9o2 : Oper := { dst := some 84, op := Op.call { callee := Callee.value (Operand.func 20), args := #[Operand.tmp 82, Operand.tmp 83], argTypes := #[24, 24] }, type := 4, pos := "law.go:48", after := #[{ on := 0, ground := Ground.data }, { on := 1, ground := Ground.data }], guard := none }
def nt9o3 : Oper := { dst := some 85, op := Op.move (Operand.tmp 84), type := 4, pos := "law.go:48", after := #[{ on := 2, ground := Ground.data }, { on := 2, ground := Ground.chain }], guard := none }
def nt9o4 : Oper := { dst := some 86, op := Op.load 24 (Operand.tmp 8), type := 24, pos := "law.go:48", after := #[{ on := 3, ground := Ground.guard }], guard := some (3, true) }
def nt9o5 : Oper := { dst := some 87, op := Op.load 24 (Operand.tmp 4), type := 24, pos := "law.go:48", after := #[{ on := 3, ground := Ground.guard }], guard := some (3, true) }
def nt9o6 : Oper := { dst := some 88, op := Op.call { callee := Callee.value (Operand.func 20), args := #[Operand.tmp 86, Operand.tmp 87], argTypes := #[24, 24] }, type := 4, pos := "law.go:48", after := #[{ on := 4, ground := Ground.data }, { on := 5, ground := Ground.data }, { on := 3, ground := Ground.chain }, { on := 3, ground := Ground.guard }], guard := some (3, true) }
def nt9o7 : Oper := { dst := some 89, op := Op.pick (Operand.tmp 85) (Operand.tmp 88) (Operand.const (Value.bool false)), type := 4, pos := "law.go:48", after := #[{ on := 3, ground := Ground.data }, { on := 6, ground := Ground.data }], guard := none }
def nt9o8 : Oper := { dst := some 90, op := Op.move (Operand.tmp 89), type := 4, pos := "law.go:48", after := #[{ on := 7, ground := Ground.data }, { on := 6, ground := Ground.chain }], guard := none }
def nt9o9 : Oper := { dst := some 91, op := Op.load 24 (Operand.tmp 9), type := 24, pos := "law.go:48", after := #[{ on := 8, ground := Ground.guard }], guard := some (8, true) }
def nt9o10 : Oper := { dst := some 92, op := Op.load 24 (Operand.tmp 13), type := 24, pos := "law.go:48", after := #[{ on := 8, ground := Ground.guard }], guard := some (8, true) }
def nt9o11 : Oper := { dst := some 93, op := Op.load 24 (Operand.tmp 7), type := 24, pos := "law.go:48", after := #[{ on := 8, ground := Ground.guard }], guard := some (8, true) }
def nt9o12 : Oper := { dst := some 94, op := Op.buildSlice 38 1 #[(0, Operand.tmp 93)], type := 38, pos := "law.go:48", after := #[{ on := 11, ground := Ground.data }, { on := 8, ground := Ground.guard }], guard := some (8, true) }
def nt9o13 : Oper := { dst := some 95, op := Op.call { callee := Callee.value (Operand.func 22), args := #[Operand.tmp 94], argTypes := #[38] }, type := 24, pos := "law.go:48", after := #[{ on := 12, ground := Ground.data }, { on := 8, ground := Ground.chain }, { on := 8, ground := Ground.guard }], guard := some (8, true) }
def nt9o14 : Oper := { dst := some 96, op := Op.load 24 (Operand.tmp 7), type := 24, pos := "law.go:48", after := #[{ on := 8, ground := Ground.guard }], guard := some (8, true) }
def nt9o15 : Oper := { dst := some 97, op := Op.buildSlice 38 1 #[(0, Operand.tmp 96)], type := 38, pos := "law.go:48", after := #[{ on := 14, ground := Ground.data }, { on := 8, ground := Ground.guard }], guard := some (8, true) }
def nt9o16 : Oper := { dst := some 98, op := Op.call { callee := Callee.value (Operand.func 23), args := #[Operand.tmp 97], argTypes := #[38] }, type := 24, pos := "law.go:48", after := #[{ on := 15, ground := Ground.data }, { on := 13, ground := Ground.chain }, { on := 8, ground := Ground.guard }], guard := some (8, true) }
def nt9o17 : Oper := { dst := some 99, op := Op.buildSlice 38 4 #[(0, Operand.tmp 91), (1, Operand.tmp 92), (2, Operand.tmp 95), (3, Operand.tmp 98)], type := 38, pos := "law.go:48", after := #[{ on := 9, ground := Ground.data }, { on := 10, ground := Ground.data }, { on := 13, ground := Ground.data }, { on := 16, ground := Ground.data }, { on := 8, ground := Ground.guard }], guard := some (8, true) }
def nt9o18 : Oper := { dst := some 100, op := Op.buildSlice 39 1 #[(0, Operand.tmp 99)], type := 39, pos := "law.go:48", after := #[{ on := 17, ground := Ground.data }, { on := 8, ground := Ground.guard }], guard := some (8, true) }
def nt9o19 : Oper := { dst := some 101, op := Op.call { callee := Callee.value (Operand.func 21), args := #[Operand.tmp 100], argTypes := #[39] }, type := 4, pos := "law.go:48", after := #[{ on := 18, ground := Ground.data }, { on := 16, ground := Ground.chain }, { on := 8, ground := Ground.guard }], guard := some (8, true) }
def nt9o20 : Oper := { dst := some 102, op := Op.pick (Operand.tmp 90) (Operand.tmp 101) (Operand.const (Value.bool false)), type := 4, pos := "law.go:48", after := #[{ on := 8, ground := Ground.data }, { on := 19, ground := Ground.data }], guard := none }
def nt9o21 : Oper := { dst := some 103, op := Op.move (Operand.tmp 102), type := 4, pos := "law.go:48", after := #[{ on := 20, ground := Ground.data }, { on := 19, ground := Ground.chain }], guard := none }
def nt9o22 : Oper := { dst := some 104, op := Op.load 24 (Operand.tmp 7), type := 24, pos := "law.go:48", after := #[{ on := 21, ground := Ground.guard }], guard := some (21, true) }
def nt9o23 : Oper := { dst := some 105, op := Op.load 24 (Operand.tmp 3), type := 24, pos := "law.go:48", after := #[{ on := 21, ground := Ground.guard }], guard := some (21, true) }
def nt9o24 : Oper := { dst := some 106, op := Op.call { callee := Callee.value (Operand.func 20), args := #[Operand.tmp 104, Operand.tmp 105], argTypes := #[24, 24] }, type := 4, pos := "law.go:48", after := #[{ on := 22, ground := Ground.data }, { on := 23, ground := Ground.data }, { on := 21, ground := Ground.chain }, { on := 21, ground := Ground.guard }], guard := some (21, true) }
def nt9o25 : Oper := { dst := some 107, op := Op.pick (Operand.tmp 103) (Operand.tmp 106) (Operand.const (Value.bool false)), type := 4, pos := "law.go:48", after := #[{ on := 21, ground := Ground.data }, { on := 24, ground := Ground.data }], guard := none }
def nt9o26 : Oper := { dst := some 108, op := Op.move (Operand.tmp 107), type := 4, pos := "law.go:48", after := #[{ on := 25, ground := Ground.data }, { on := 24, ground := Ground.chain }], guard := none }
def nt9o27 : Oper := { dst := some 109, op := Op.call { callee := Callee.value (Operand.func 7), args := #[], argTypes := #[] }, type := 4, pos := "law.go:48", after := #[{ on := 26, ground := Ground.chain }, { on := 26, ground := Ground.guard }], guard := some (26, true) }
def nt9o28 : Oper := { dst := some 110, op := Op.pick (Operand.tmp 108) (Operand.tmp 109) (Operand.const (Value.bool false)), type := 4, pos := "law.go:48", after := #[{ on := 26, ground := Ground.data }, { on := 27, ground := Ground.data }], guard := none }
def nt9o29 : Oper := { dst := some 6, op := Op.assign (Operand.tmp 110), type := 4, pos := "law.go:48", after := #[{ on := 28, ground := Ground.data }, { on := 27, ground := Ground.chain }, { on := 0, ground := Ground.phase }, { on := 1, ground := Ground.phase }, { on := 2, ground := Ground.phase }, { on := 3, ground := Ground.phase }, { on := 4, ground := Ground.phase }, { on := 5, ground := Ground.phase }, { on := 6, ground := Ground.phase }, { on := 7, ground := Ground.phase }, { on := 8, ground := Ground.phase }, { on := 9, ground := Ground.phase }, { on := 10, ground := Ground.phase }, { on := 11, ground := Ground.phase }, { on := 12, ground := Ground.phase }, { on := 13, ground := Ground.phase }, { on := 14, ground := Ground.phase }, { on := 15, ground := Ground.phase }, { on := 16, ground := Ground.phase }, { on := 17, ground := Ground.phase }, { on := 18, ground := Ground.phase }, { on := 19, ground := Ground.phase }, { on := 20, ground := Ground.phase }, { on := 21, ground := Ground.phase }, { on := 22, ground := Ground.phase }, { on := 23, ground := Ground.phase }, { on := 24, ground := Ground.phase }, { on := 25, ground := Ground.phase }, { on := 26, ground := Ground.phase }, { on := 27, ground := Ground.phase }, { on := 28, ground := Ground.phase }], guard := none }
def nt9Ops : Array Oper := #[nt9o0, nt9o1, nt9o2, nt9o3, nt9o4, nt9o5, nt9o6, nt9o7, nt9o8, nt9o9, nt9o10, nt9o11, nt9o12, nt9o13, nt9o14, nt9o15, nt9o16, nt9o17, nt9o18, nt9o19, nt9o20, nt9o21, nt9o22, nt9o23, nt9o24, nt9o25, nt9o26, nt9o27, nt9o28, nt9o29]
def nt9Pre : Array Bool := #[true, true, true, true, true, true, true, true, true, true, true, true, true, true, true, true, true, false, false, false, false, false, false, false, false, false, false, false, false, false]
def nt9K (p q q9 q13 : Option Addr) (nl c nm d gx cx gy cy n9 c9 n13 c13 _b3 _b4 _b7 _b8 _b9 _b13 zw m3 m4 : Nat) : Nat → Kc
  | 0 => Kc.val (.agg #[.slice (some ⟨gx, 0, none⟩) nl cx])
  | 1 => Kc.val (.agg #[.slice p nl c])
  | 2 => Kc.val (.bool true)
  | 3 => Kc.val (.bool true)
  | 4 => Kc.val (.agg #[.slice (some ⟨gy, 0, none⟩) nm cy])
  | 5 => Kc.val (.agg #[.slice q nm d])
  | 6 => Kc.val (.bool true)
  | 7 => Kc.val (.bool true)
  | 8 => Kc.val (.bool true)
  | 9 => Kc.val (.agg #[.slice q9 n9 c9])
  | 10 => Kc.val (.agg #[.slice q13 n13 c13])
  | 11 => Kc.val (.agg #[.slice (some ⟨gx, 0, none⟩) nl cx])
  | 12 => Kc.lst1 zw (.slice (some ⟨gx, 0, none⟩) nl cx)
  | 13 => Kc.fnat zw m3
  | 14 => Kc.val (.agg #[.slice (some ⟨gx, 0, none⟩) nl cx])
  | 15 => Kc.lst1 zw (.slice (some ⟨gx, 0, none⟩) nl cx)
  | 16 => Kc.fnat zw m4
  | _ => Kc.val undef
theorem nt9_slots (f : Nat → Value) : slotsOf nt9Ops nt9Pre f = [(82, f 0), (83, f 1), (84, f 2), (85, f 3), (86, f 4), (87, f 5), (88, f 6), (89, f 7), (90, f 8), (91, f 9), (92, f 10), (93, f 11), (94, f 12), (95, f 13), (96, f 14), (97, f 15), (98, f 16)] := by kernel_rfl
set_option maxHeartbeats 6400000 in
set_option maxRecDepth 100000 in
theorem nt9_wp {Q : Exit → Act → World → Prop} {a0 : Act} {w : World} (p q q9 q13 : Option Addr) (nl c nm d gx cx gy cy n9 c9 n13 c13 b3 b4 b7 b8 b9 b13 zw m3 m4 : Nat) (hsize : a0.tmps.size = 111) (h3 : a0.tmps[3]? = some (.pointer (some ⟨b3, 0, none⟩)))
    (h4 : a0.tmps[4]? = some (.pointer (some ⟨b4, 0, none⟩)))
    (h7 : a0.tmps[7]? = some (.pointer (some ⟨b7, 0, none⟩)))
    (h8 : a0.tmps[8]? = some (.pointer (some ⟨b8, 0, none⟩)))
    (h9 : a0.tmps[9]? = some (.pointer (some ⟨b9, 0, none⟩)))
    (h13 : a0.tmps[13]? = some (.pointer (some ⟨b13, 0, none⟩)))
    (hzw : zw = w.drew.heap.size)
    (hc3 : w.drew.cell? ⟨b3, 0, none⟩ = some (.slice p nl c))
    (hc4 : w.drew.cell? ⟨b4, 0, none⟩ = some (.slice q nm d))
    (hc7 : w.drew.cell? ⟨b7, 0, none⟩ = some (.slice (some ⟨gx, 0, none⟩) nl cx))
    (hc8 : w.drew.cell? ⟨b8, 0, none⟩ = some (.slice (some ⟨gy, 0, none⟩) nm cy))
    (hc9 : w.drew.cell? ⟨b9, 0, none⟩ = some (.slice q9 n9 c9))
    (hc13 : w.drew.cell? ⟨b13, 0, none⟩ = some (.slice q13 n13 c13))
    (hkx : ∀ V, Below w.drew.heap.size w.drew V → Calls Tryz.prog 20 #[.agg #[.slice (some ⟨gx, 0, none⟩) nl cx], .agg #[.slice p nl c]] V fun e w' => e = .returned (.bool true) ∧ Below V.heap.size V w')
    (hky : ∀ V, Below w.drew.heap.size w.drew V → Calls Tryz.prog 20 #[.agg #[.slice (some ⟨gy, 0, none⟩) nm cy], .agg #[.slice q nm d]] V fun e w' => e = .returned (.bool true) ∧ Below V.heap.size V w')
    (had : ∀ (V : World) (b : Nat), Below w.drew.heap.size w.drew V → Bx V b 24 #[.slice (some ⟨gx, 0, none⟩) nl cx] → Calls Tryz.prog 22 #[.slice (some ⟨b, 0, none⟩) 1 1] V (FP zw m3 V))
    (hml : ∀ (V : World) (b : Nat), Below w.drew.heap.size w.drew V → Bx V b 24 #[.slice (some ⟨gx, 0, none⟩) nl cx] → Calls Tryz.prog 23 #[.slice (some ⟨b, 0, none⟩) 1 1] V (FP zw m4 V))
    (fin : ∀ (f : Nat → Value) (y : World), (∀ j, j < 30 → nt9Pre.getD j false = true → (nt9K p q q9 q13 nl c nm d gx cx gy cy n9 c9 n13 c13 b3 b4 b7 b8 b9 b13 zw m3 m4 j).P (f j) y) → Below w.drew.heap.size w.drew y → Apt (f 13) (f 16) → wpAny Tryz.prog .any nt9Ops Q 13 nt9Pre (putL a0 [(82, f 0), (83, f 1), (84, f 2), (85, f 3), (86, f 4), (87, f 5), (88, f 6), (89, f 7), (90, f 8), (91, f 9), (92, f 10), (93, f 11), (94, f 12), (95, f 13), (96, f 14), (97, f 15), (98, f 16)]) y) (id : Nat) :
    (Code.region id nt9Ops true).wp Tryz.prog Q a0 w := by
  refine wp_region_invS9 nt9Pre (fun j => (nt9K p q q9 q13 nl c nm d gx cx gy cy n9 c9 n13 c13 b3 b4 b7 b8 b9 b13 zw m3 m4 j).P) (fun done f _ => Hap 13 16 done f) (fun x y => Below x.heap.size x y) 17 13 (by kernel_rfl) (by kernel_rfl) (by rw [hsize]; kernel_rfl) (by kernel_rfl) (by kernel_rfl) (Below.refl _ _) (fun _ _ _ h1 h2 => bl_trans h1 h2) (fun j _ _ _ h1 h2 => (nt9K p q q9 q13 nl c nm d gx cx gy cy n9 c9 n13 c13 b3 b4 b7 b8 b9 b13 zw m3 m4 j).keep h1 h2) ?_ (fun f y h1 h2 h3 => by rw [nt9_slots]; exact fin f y h1 h2 ((h3 (by decide)).2)) (fun h => absurd h (by decide))
  intro i o ho hp done f a x hR hbase hdeps hH hdsz hnd hdd hgood K hK0
  have hi : i < 30 := by
    rcases Nat.lt_or_ge i 30 with h | h
    · exact h
    · have : nt9Ops.size ≤ i := h
      rw [Array.getElem?_eq_none this] at ho; cases ho
  have dep : ∀ j, (o.after.any fun e => Region.binds .any e && e.on == j) = true → (∀ s, slotOf nt9Ops j = some s → a.tmps[s]? = some (f j)) ∧ (nt9K p q q9 q13 nl c nm d gx cx gy cy n9 c9 n13 c13 b3 b4 b7 b8 b9 b13 zw m3 m4 j).P (f j) x := by
    intro j h
    obtain ⟨e, he, h2⟩ := Array.any_eq_true'.1 h
    simp only [Bool.and_eq_true, beq_iff_eq] at h2
    obtain ⟨h3, rfl⟩ := h2
    exact hdeps e he h3
  have dv : ∀ (j s : Nat) {v : Value}, (o.after.any fun e => Region.binds .any e && e.on == j) = true → slotOf nt9Ops j = some s → nt9K p q q9 q13 nl c nm d gx cx gy cy n9 c9 n13 c13 b3 b4 b7 b8 b9 b13 zw m3 m4 j = Kc.val v → a.tmps[s]? = some v := fun j s v h1 h2 h3 => by
    obtain ⟨t, g⟩ := dep j h1
    rw [h3] at g
    have e : f j = v := g
    rw [← e]; exact t s h2
  have bv : ∀ {s : Nat} {v : Value}, a0.tmps[s]? = some v → ((List.range nt9Ops.size).all fun j => slotOf nt9Ops j != some s) = true → a.tmps[s]? = some v := by
    intro s v h0 h
    rw [hbase s fun j hj _ e => ?_]; exact h0
    have h2 := (List.all_eq_true.1 h) j (List.mem_range.2 hj)
    rw [e] at h2; simp at h2
  match i, hi with
  | 0, _ =>
    obtain rfl : nt9o0 = o := Option.some.inj (show nt9Ops[0]? = some _ from ho)
    have hK : ∀ u y, (nt9K p q q9 q13 nl c nm d gx cx gy cy n9 c9 n13 c13 b3 b4 b7 b8 b9 b13 zw m3 m4 0).P u y → Below x.heap.size x y → K (a.put nt9o0.dst u) y := fun u y h1 h2 => hK0 u y h1 h2 (hH.keep (by decide) (by decide))
    have eb7 := eval_at (bv h7 (by kernel_rfl))
    have k_ := keep_cellK hR hc7
    exact inv_stay hK rfl (by simp only [execOp, nt9o0, eb7]; go_simp) (wanted_none rfl)
  | 1, _ =>
    obtain rfl : nt9o1 = o := Option.some.inj (show nt9Ops[1]? = some _ from ho)
    have hK : ∀ u y, (nt9K p q q9 q13 nl c nm d gx cx gy cy n9 c9 n13 c13 b3 b4 b7 b8 b9 b13 zw m3 m4 1).P u y → Below x.heap.size x y → K (a.put nt9o1.dst u) y := fun u y h1 h2 => hK0 u y h1 h2 (hH.keep (by decide) (by decide))
    have eb3 := eval_at (bv h3 (by kernel_rfl))
    have k_ := keep_cellK hR hc3
    exact inv_stay hK rfl (by simp only [execOp, nt9o1, eb3]; go_simp) (wanted_none rfl)
  | 2, _ =>
    obtain rfl : nt9o2 = o := Option.some.inj (show nt9Ops[2]? = some _ from ho)
    have hK : ∀ u y, (nt9K p q q9 q13 nl c nm d gx cx gy cy n9 c9 n13 c13 b3 b4 b7 b8 b9 b13 zw m3 m4 2).P u y → Below x.heap.size x y → K (a.put nt9o2.dst u) y := fun u y h1 h2 => hK0 u y h1 h2 (hH.keep (by decide) (by decide))
    have q0 := dv 0 82 (by kernel_rfl) rfl rfl
    have q1 := dv 1 83 (by kernel_rfl) rfl rfl
    refine inv_enter 20 #[.agg #[.slice (some ⟨gx, 0, none⟩) nl cx], .agg #[.slice p nl c]] hK (by simp [go_sem, nt9o2, q0, q1]) (wanted_none rfl) ?_
    refine (hkx x hR).mono ?_
    rintro e y ⟨rfl, h⟩
    exact ⟨_, rfl, rfl, h⟩
  | 3, _ =>
    obtain rfl : nt9o3 = o := Option.some.inj (show nt9Ops[3]? = some _ from ho)
    have hK : ∀ u y, (nt9K p q q9 q13 nl c nm d gx cx gy cy n9 c9 n13 c13 b3 b4 b7 b8 b9 b13 zw m3 m4 3).P u y → Below x.heap.size x y → K (a.put nt9o3.dst u) y := fun u y h1 h2 => hK0 u y h1 h2 (hH.keep (by decide) (by decide))
    have e2 := eval_at (dv 2 84 (by kernel_rfl) rfl rfl)
    exact inv_stay hK rfl (by simp only [execOp, nt9o3, e2]; go_simp) (wanted_none rfl)
  | 4, _ =>
    obtain rfl : nt9o4 = o := Option.some.inj (show nt9Ops[4]? = some _ from ho)
    have hK : ∀ u y, (nt9K p q q9 q13 nl c nm d gx cx gy cy n9 c9 n13 c13 b3 b4 b7 b8 b9 b13 zw m3 m4 4).P u y → Below x.heap.size x y → K (a.put nt9o4.dst u) y := fun u y h1 h2 => hK0 u y h1 h2 (hH.keep (by decide) (by decide))
    have q3 := dv 3 85 (by kernel_rfl) rfl rfl
    have eb8 := eval_at (bv h8 (by kernel_rfl))
    have k_ := keep_cellK hR hc8
    exact inv_stay hK rfl (by simp only [execOp, nt9o4, eb8]; go_simp) (wanted_t q3 rfl rfl)
  | 5, _ =>
    obtain rfl : nt9o5 = o := Option.some.inj (show nt9Ops[5]? = some _ from ho)
    have hK : ∀ u y, (nt9K p q q9 q13 nl c nm d gx cx gy cy n9 c9 n13 c13 b3 b4 b7 b8 b9 b13 zw m3 m4 5).P u y → Below x.heap.size x y → K (a.put nt9o5.dst u) y := fun u y h1 h2 => hK0 u y h1 h2 (hH.keep (by decide) (by decide))
    have q3 := dv 3 85 (by kernel_rfl) rfl rfl
    have eb4 := eval_at (bv h4 (by kernel_rfl))
    have k_ := keep_cellK hR hc4
    exact inv_stay hK rfl (by simp only [execOp, nt9o5, eb4]; go_simp) (wanted_t q3 rfl rfl)
  | 6, _ =>
    obtain rfl : nt9o6 = o := Option.some.inj (show nt9Ops[6]? = some _ from ho)
    have hK : ∀ u y, (nt9K p q q9 q13 nl c nm d gx cx gy cy n9 c9 n13 c13 b3 b4 b7 b8 b9 b13 zw m3 m4 6).P u y → Below x.heap.size x y → K (a.put nt9o6.dst u) y := fun u y h1 h2 => hK0 u y h1 h2 (hH.keep (by decide) (by decide))
    have q3 := dv 3 85 (by kernel_rfl) rfl rfl
    have q4 := dv 4 86 (by kernel_rfl) rfl rfl
    have q5 := dv 5 87 (by kernel_rfl) rfl rfl
    refine inv_enter 20 #[.agg #[.slice (some ⟨gy, 0, none⟩) nm cy], .agg #[.slice q nm d]] hK (by simp [go_sem, nt9o6, q4, q5]) (wanted_t q3 rfl rfl) ?_
    refine (hky x hR).mono ?_
    rintro e y ⟨rfl, h⟩
    exact ⟨_, rfl, rfl, h⟩
  | 7, _ =>
    obtain rfl : nt9o7 = o := Option.some.inj (show nt9Ops[7]? = some _ from ho)
    have hK : ∀ u y, (nt9K p q q9 q13 nl c nm d gx cx gy cy n9 c9 n13 c13 b3 b4 b7 b8 b9 b13 zw m3 m4 7).P u y → Below x.heap.size x y → K (a.put nt9o7.dst u) y := fun u y h1 h2 => hK0 u y h1 h2 (hH.keep (by decide) (by decide))
    have e3 := eval_at (dv 3 85 (by kernel_rfl) rfl rfl)
    have e6 := eval_at (dv 6 88 (by kernel_rfl) rfl rfl)
    exact inv_stay hK rfl (by simp only [execOp, nt9o7, e3, e6]; go_simp) (wanted_none rfl)
  | 8, _ =>
    obtain rfl : nt9o8 = o := Option.some.inj (show nt9Ops[8]? = some _ from ho)
    have hK : ∀ u y, (nt9K p q q9 q13 nl c nm d gx cx gy cy n9 c9 n13 c13 b3 b4 b7 b8 b9 b13 zw m3 m4 8).P u y → Below x.heap.size x y → K (a.put nt9o8.dst u) y := fun u y h1 h2 => hK0 u y h1 h2 (hH.keep (by decide) (by decide))
    have e7 := eval_at (dv 7 89 (by kernel_rfl) rfl rfl)
    exact inv_stay hK rfl (by simp only [execOp, nt9o8, e7]; go_simp) (wanted_none rfl)
  | 9, _ =>
    obtain rfl : nt9o9 = o := Option.some.inj (show nt9Ops[9]? = some _ from ho)
    have hK : ∀ u y, (nt9K p q q9 q13 nl c nm d gx cx gy cy n9 c9 n13 c13 b3 b4 b7 b8 b9 b13 zw m3 m4 9).P u y → Below x.heap.size x y → K (a.put nt9o9.dst u) y := fun u y h1 h2 => hK0 u y h1 h2 (hH.keep (by decide) (by decide))
    have q8 := dv 8 90 (by kernel_rfl) rfl rfl
    have eb9 := eval_at (bv h9 (by kernel_rfl))
    have k_ := keep_cellK hR hc9
    exact inv_stay hK rfl (by simp only [execOp, nt9o9, eb9]; go_simp) (wanted_t q8 rfl rfl)
  | 10, _ =>
    obtain rfl : nt9o10 = o := Option.some.inj (show nt9Ops[10]? = some _ from ho)
    have hK : ∀ u y, (nt9K p q q9 q13 nl c nm d gx cx gy cy n9 c9 n13 c13 b3 b4 b7 b8 b9 b13 zw m3 m4 10).P u y → Below x.heap.size x y → K (a.put nt9o10.dst u) y := fun u y h1 h2 => hK0 u y h1 h2 (hH.keep (by decide) (by decide))
    have q8 := dv 8 90 (by kernel_rfl) rfl rfl
    have eb13 := eval_at (bv h13 (by kernel_rfl))
    have k_ := keep_cellK hR hc13
    exact inv_stay hK rfl (by simp only [execOp, nt9o10, eb13]; go_simp) (wanted_t q8 rfl rfl)
  | 11, _ =>
    obtain rfl : nt9o11 = o := Option.some.inj (show nt9Ops[11]? = some _ from ho)
    have hK : ∀ u y, (nt9K p q q9 q13 nl c nm d gx cx gy cy n9 c9 n13 c13 b3 b4 b7 b8 b9 b13 zw m3 m4 11).P u y → Below x.heap.size x y → K (a.put nt9o11.dst u) y := fun u y h1 h2 => hK0 u y h1 h2 (hH.keep (by decide) (by decide))
    have q8 := dv 8 90 (by kernel_rfl) rfl rfl
    have eb7 := eval_at (bv h7 (by kernel_rfl))
    have k_ := keep_cellK hR hc7
    exact inv_stay hK rfl (by simp only [execOp, nt9o11, eb7]; go_simp) (wanted_t q8 rfl rfl)
  | 12, _ =>
    obtain rfl : nt9o12 = o := Option.some.inj (show nt9Ops[12]? = some _ from ho)
    have hK : ∀ u y, (nt9K p q q9 q13 nl c nm d gx cx gy cy n9 c9 n13 c13 b3 b4 b7 b8 b9 b13 zw m3 m4 12).P u y → Below x.heap.size x y → K (a.put nt9o12.dst u) y := fun u y h1 h2 => hK0 u y h1 h2 (hH.keep (by decide) (by decide))
    have q8 := dv 8 90 (by kernel_rfl) rfl rfl
    have q11 := dv 11 93 (by kernel_rfl) rfl rfl
    refine inv_val (G := (nt9K p q q9 q13 nl c nm d gx cx gy cy n9 c9 n13 c13 b3 b4 b7 b8 b9 b13 zw m3 m4 12).P) (R := fun x y => Below x.heap.size x y) (wanted_t q8 rfl rfl) (v := .slice (some ⟨x.heap.size, 0, none⟩) 1 1) (w2 := x.alloc (.cells #[.slice (some ⟨gx, 0, none⟩) nl cx] 24)) (by simp only [execOp, nt9o12]; go_simp) hK ⟨_, rfl, (hzw ▸ hR.size), Bx.new _ _ _⟩ (bl_alloc _ _)
  | 13, _ =>
    obtain rfl : nt9o13 = o := Option.some.inj (show nt9Ops[13]? = some _ from ho)
    have hnd' : done.getD 13 false = false := by rw [getD_flip (by rw [hdsz]; decide) false true]; exact hnd
    have hK : ∀ u y, (nt9K p q q9 q13 nl c nm d gx cx gy cy n9 c9 n13 c13 b3 b4 b7 b8 b9 b13 zw m3 m4 13).P u y → Below x.heap.size x y → K (a.put nt9o13.dst u) y := fun u y h1 h2 => hK0 u y h1 h2 (hH.fst (by decide) hnd')
    have q8 := dv 8 90 (by kernel_rfl) rfl rfl
    obtain ⟨t12, g12⟩ := dep 12 (by kernel_rfl)
    have q12 := t12 94 (by rfl)
    have e12 := eval_at q12
    obtain ⟨b1, hv1, _, hx1⟩ : (Kc.lst1 zw (.slice (some ⟨gx, 0, none⟩) nl cx)).P (f 12) x := g12
    rw [hv1] at q12
    refine inv_enter 22 #[.slice (some ⟨b1, 0, none⟩) 1 1] hK (by simp [go_sem, nt9o13, q12]) (wanted_t q8 rfl rfl) ?_
    refine (had x b1 hR hx1).mono ?_
    rintro e y ⟨q0, n0, c0, rfl, h1, h2, h3⟩
    exact ⟨_, rfl, ⟨_, _, _, _, h2, rfl, h1⟩, h3⟩
  | 14, _ =>
    obtain rfl : nt9o14 = o := Option.some.inj (show nt9Ops[14]? = some _ from ho)
    have hK : ∀ u y, (nt9K p q q9 q13 nl c nm d gx cx gy cy n9 c9 n13 c13 b3 b4 b7 b8 b9 b13 zw m3 m4 14).P u y → Below x.heap.size x y → K (a.put nt9o14.dst u) y := fun u y h1 h2 => hK0 u y h1 h2 (hH.keep (by decide) (by decide))
    have q8 := dv 8 90 (by kernel_rfl) rfl rfl
    have eb7 := eval_at (bv h7 (by kernel_rfl))
    have k_ := keep_cellK hR hc7
    exact inv_stay hK rfl (by simp only [execOp, nt9o14, eb7]; go_simp) (wanted_t q8 rfl rfl)
  | 15, _ =>
    obtain rfl : nt9o15 = o := Option.some.inj (show nt9Ops[15]? = some _ from ho)
    have hK : ∀ u y, (nt9K p q q9 q13 nl c nm d gx cx gy cy n9 c9 n13 c13 b3 b4 b7 b8 b9 b13 zw m3 m4 15).P u y → Below x.heap.size x y → K (a.put nt9o15.dst u) y := fun u y h1 h2 => hK0 u y h1 h2 (hH.keep (by decide) (by decide))
    have q8 := dv 8 90 (by kernel_rfl) rfl rfl
    have q14 := dv 14 96 (by kernel_rfl) rfl rfl
    refine inv_val (G := (nt9K p q q9 q13 nl c nm d gx cx gy cy n9 c9 n13 c13 b3 b4 b7 b8 b9 b13 zw m3 m4 15).P) (R := fun x y => Below x.heap.size x y) (wanted_t q8 rfl rfl) (v := .slice (some ⟨x.heap.size, 0, none⟩) 1 1) (w2 := x.alloc (.cells #[.slice (some ⟨gx, 0, none⟩) nl cx] 24)) (by simp only [execOp, nt9o15]; go_simp) hK ⟨_, rfl, (hzw ▸ hR.size), Bx.new _ _ _⟩ (bl_alloc _ _)
  | 16, _ =>
    obtain rfl : nt9o16 = o := Option.some.inj (show nt9Ops[16]? = some _ from ho)
    have hd13 : done.getD 13 false = true := by rw [getD_flip (by rw [hdsz]; decide) false true]; exact hdd ⟨13, Ground.chain⟩ (by simp [nt9o16]) rfl
    have hK : ∀ u y, ((nt9K p q q9 q13 nl c nm d gx cx gy cy n9 c9 n13 c13 b3 b4 b7 b8 b9 b13 zw m3 m4 16).P u y ∧ Apt (f 13) u) → Below x.heap.size x y → K (a.put nt9o16.dst u) y := fun u y h1 h2 => hK0 u y h1.1 h2 (Hap.snd (by decide) hd13 h1.2)
    have q8 := dv 8 90 (by kernel_rfl) rfl rfl
    obtain ⟨t15, g15⟩ := dep 15 (by kernel_rfl)
    have q15 := t15 97 (by rfl)
    have e15 := eval_at q15
    obtain ⟨b1, hv1, _, hx1⟩ : (Kc.lst1 zw (.slice (some ⟨gx, 0, none⟩) nl cx)).P (f 15) x := g15
    rw [hv1] at q15
    obtain ⟨B3, q3, n3, c3, _, hv3, hf3⟩ : (Kc.fnat zw m3).P (f 13) x := (dep 13 (by kernel_rfl)).2
    refine inv_enter 23 #[.slice (some ⟨b1, 0, none⟩) 1 1] hK (by simp [go_sem, nt9o16, q15]) (wanted_t q8 rfl rfl) ?_
    refine (hml x b1 hR hx1).mono ?_
    rintro e y ⟨q0, n0, c0, rfl, h1, h2, h3⟩
    exact ⟨_, rfl, ⟨⟨_, _, _, _, h2, rfl, h1⟩, apt_new hv3 hf3 h1⟩, h3⟩
  | 17, _ => exact absurd (show nt9Pre.getD 17 false = true from hp) (by decide)
  | 18, _ => exact absurd (show nt9Pre.getD 18 false = true from hp) (by decide)
  | 19, _ => exact absurd (show nt9Pre.getD 19 false = true from hp) (by decide)
  | 20, _ => exact absurd (show nt9Pre.getD 20 false = true from hp) (by decide)
  | 21, _ => exact absurd (show nt9Pre.getD 21 false = true from hp) (by decide)
  | 22, _ => exact absurd (show nt9Pre.getD 22 false = true from hp) (by decide)
  | 23, _ => exact absurd (show nt9Pre.getD 23 false = true from hp) (by decide)
  | 24, _ => exact absurd (show nt9Pre.getD 24 false = true from hp) (by decide)
  | 25, _ => exact absurd (show nt9Pre.getD 25 false = true from hp) (by decide)
  | 26, _ => exact absurd (show nt9Pre.getD 26 false = true from hp) (by decide)
  | 27, _ => exact absurd (show nt9Pre.getD 27 false = true from hp) (by decide)
  | 28, _ => exact absurd (show nt9Pre.getD 28 false = true from hp) (by decide)
  | 29, _ => exact absurd (show nt9Pre.getD 29 false = true from hp) (by decide)
end Go.Proofs.YtcahnkocfbcchaaGreatDoor


namespace Go.Proofs.YtcahnkocfbcchaaGreatDoor
open Go.RowKit Tnd

set_option maxHeartbeats 6400000 in
set_option maxRecDepth 100000 in
theorem nt9_all {Q : Exit → Act → World → Prop} {a0 : Act} {w : World} (p q q9 q13 : Option Addr) (nl c nm d gx cx gy cy n9 c9 n13 c13 b3 b4 b7 b8 b9 b13 zw m3 m4 : Nat) (N : World → Prop) (hsize : a0.tmps.size = 111) (h3 : a0.tmps[3]? = some (.pointer (some ⟨b3, 0, none⟩)))
    (h4 : a0.tmps[4]? = some (.pointer (some ⟨b4, 0, none⟩)))
    (h7 : a0.tmps[7]? = some (.pointer (some ⟨b7, 0, none⟩)))
    (h8 : a0.tmps[8]? = some (.pointer (some ⟨b8, 0, none⟩)))
    (h9 : a0.tmps[9]? = some (.pointer (some ⟨b9, 0, none⟩)))
    (h13 : a0.tmps[13]? = some (.pointer (some ⟨b13, 0, none⟩)))
    (hzw : zw = w.drew.heap.size)
    (hc3 : w.drew.cell? ⟨b3, 0, none⟩ = some (.slice p nl c))
    (hc4 : w.drew.cell? ⟨b4, 0, none⟩ = some (.slice q nm d))
    (hc7 : w.drew.cell? ⟨b7, 0, none⟩ = some (.slice (some ⟨gx, 0, none⟩) nl cx))
    (hc8 : w.drew.cell? ⟨b8, 0, none⟩ = some (.slice (some ⟨gy, 0, none⟩) nm cy))
    (hc9 : w.drew.cell? ⟨b9, 0, none⟩ = some (.slice q9 n9 c9))
    (hc13 : w.drew.cell? ⟨b13, 0, none⟩ = some (.slice q13 n13 c13))
    (hkx : ∀ V, Below w.drew.heap.size w.drew V → Calls Tryz.prog 20 #[.agg #[.slice (some ⟨gx, 0, none⟩) nl cx], .agg #[.slice p nl c]] V fun e w' => e = .returned (.bool true) ∧ Below V.heap.size V w')
    (hky : ∀ V, Below w.drew.heap.size w.drew V → Calls Tryz.prog 20 #[.agg #[.slice (some ⟨gy, 0, none⟩) nm cy], .agg #[.slice q nm d]] V fun e w' => e = .returned (.bool true) ∧ Below V.heap.size V w')
    (had : ∀ (V : World) (b : Nat), Below w.drew.heap.size w.drew V → Bx V b 24 #[.slice (some ⟨gx, 0, none⟩) nl cx] → Calls Tryz.prog 22 #[.slice (some ⟨b, 0, none⟩) 1 1] V (FP zw m3 V))
    (hml : ∀ (V : World) (b : Nat), Below w.drew.heap.size w.drew V → Bx V b 24 #[.slice (some ⟨gx, 0, none⟩) nl cx] → Calls Tryz.prog 23 #[.slice (some ⟨b, 0, none⟩) 1 1] V (FP zw m4 V))
    (hap : ∀ (V : World) (q3 q4 : Option Addr) (n3 c3 n4 c4 B3 B4 : Nat), Below w.drew.heap.size w.drew V → zw ≤ B3 → zw ≤ B4 → FNat V B3 (.agg #[.slice q3 n3 c3]) m3 → FNat V B4 (.agg #[.slice q4 n4 c4]) m4 → (∀ b, blk q3 = some b → blk q4 ≠ some b) → Calls Tryz.prog 21 #[.slice (some ⟨V.heap.size + 1, 0, none⟩) 1 1] ((V.alloc (.cells #[.slice q9 n9 c9, .slice q13 n13 c13, .slice q3 n3 c3, .slice q4 n4 c4] 24)).alloc (.cells #[.slice (some ⟨V.heap.size, 0, none⟩) 4 4] 38)) fun e w' => e = .returned (.bool true) ∧ N w')
    (hN7 : ∀ V, N V → V.cell? ⟨b7, 0, none⟩ = some (.slice (some ⟨gx, 0, none⟩) nl cx)) (hN3 : ∀ V, N V → V.cell? ⟨b3, 0, none⟩ = some (.slice p nl c))
    (hk2 : ∀ V, N V → Calls Tryz.prog 20 #[.agg #[.slice (some ⟨gx, 0, none⟩) nl cx], .agg #[.slice p nl c]] V fun e w' => e = .returned (.bool true) ∧ N w')
    (haw : ∀ V, N V → Calls Tryz.prog 7 #[] V fun e w' => e = .returned (.bool true) ∧ N w')
    (fin : ∀ (f : Nat → Value) (y z : World) (q3 q4 : Option Addr) (n3 c3 n4 c4 : Nat), N z → Q .normal ((((((((((((((putL a0 [(82, .agg #[.slice (some ⟨gx, 0, none⟩) nl cx]), (83, .agg #[.slice p nl c]), (84, .bool true), (85, .bool true), (86, .agg #[.slice (some ⟨gy, 0, none⟩) nm cy]), (87, .agg #[.slice q nm d]), (88, .bool true), (89, .bool true), (90, .bool true), (91, .agg #[.slice q9 n9 c9]), (92, .agg #[.slice q13 n13 c13]), (93, .agg #[.slice (some ⟨gx, 0, none⟩) nl cx]), (94, f 12), (95, .agg #[.slice q3 n3 c3]), (96, .agg #[.slice (some ⟨gx, 0, none⟩) nl cx]), (97, f 15), (98, .agg #[.slice q4 n4 c4])]).put (some 99) (.slice (some ⟨y.heap.size, 0, none⟩) 4 4)).put (some 100) (.slice (some ⟨y.heap.size + 1, 0, none⟩) 1 1)).put (some 101) (.bool true)).put (some 102) (.bool true)).put (some 103) (.bool true)).put (some 104) (.agg #[.slice (some ⟨gx, 0, none⟩) nl cx])).put (some 105) (.agg #[.slice p nl c])).put (some 106) (.bool true)).put (some 107) (.bool true)).put (some 108) (.bool true)).put (some 109) (.bool true)).put (some 110) (.bool true)).put (some 6) (.bool true)) z) (id : Nat) :
    (Code.region id nt9Ops true).wp Tryz.prog Q a0 w := by
  refine nt9_wp p q q9 q13 nl c nm d gx cx gy cy n9 c9 n13 c13 b3 b4 b7 b8 b9 b13 zw m3 m4 hsize h3 h4 h7 h8 h9 h13 hzw hc3 hc4 hc7 hc8 hc9 hc13 hkx hky had hml ?_ id
  intro f y hk hb hA
  obtain ⟨B3, q3, n3, c3, hB3, hv3, hf3⟩ : (Kc.fnat zw m3).P (f 13) y := hk 13 (by decide) (by decide)
  obtain ⟨B4, q4, n4, c4, hB4, hv4, hf4⟩ : (Kc.fnat zw m4).P (f 16) y := hk 16 (by decide) (by decide)
  have hap4 := hap y q3 q4 n3 c3 n4 c4 B3 B4 hb hB3 hB4 hf3 hf4 (fun b e => hA q3 n3 c3 q4 n4 c4 b hv3 hv4 e)
  have e0 : f 0 = .agg #[.slice (some ⟨gx, 0, none⟩) nl cx] := hk 0 (by decide) (by decide)
  have e1 : f 1 = .agg #[.slice p nl c] := hk 1 (by decide) (by decide)
  have e4 : f 4 = .agg #[.slice (some ⟨gy, 0, none⟩) nm cy] := hk 4 (by decide) (by decide)
  have e5 : f 5 = .agg #[.slice q nm d] := hk 5 (by decide) (by decide)
  have e9 : f 9 = .agg #[.slice q9 n9 c9] := hk 9 (by decide) (by decide)
  have e10 : f 10 = .agg #[.slice q13 n13 c13] := hk 10 (by decide) (by decide)
  have e11 : f 11 = .agg #[.slice (some ⟨gx, 0, none⟩) nl cx] := hk 11 (by decide) (by decide)
  have e14 : f 14 = .agg #[.slice (some ⟨gx, 0, none⟩) nl cx] := hk 14 (by decide) (by decide)
  have e2 : f 2 = .bool true := hk 2 (by decide) (by decide)
  have e3 : f 3 = .bool true := hk 3 (by decide) (by decide)
  have e6 : f 6 = .bool true := hk 6 (by decide) (by decide)
  have e7 : f 7 = .bool true := hk 7 (by decide) (by decide)
  have e8 : f 8 = .bool true := hk 8 (by decide) (by decide)
  have fin' := fun z => fin f y z q3 q4 n3 c3 n4 c4
  rw [hv3, hv4, e0, e1, e2, e3, e4, e5, e6, e7, e8, e9, e10, e11, e14]
  clear fin hk hA hkx hky had hml hap e0 e1 e2 e3 e4 e5 e6 e7 e8 e9 e10 e11 e14 hv3 hv4 hf3 hf4 hb
  have H : Has 111 (putL a0 [(82, .agg #[.slice (some ⟨gx, 0, none⟩) nl cx]), (83, .agg #[.slice p nl c]), (84, .bool true), (85, .bool true), (86, .agg #[.slice (some ⟨gy, 0, none⟩) nm cy]), (87, .agg #[.slice q nm d]), (88, .bool true), (89, .bool true), (90, .bool true), (91, .agg #[.slice q9 n9 c9]), (92, .agg #[.slice q13 n13 c13]), (93, .agg #[.slice (some ⟨gx, 0, none⟩) nl cx]), (94, f 12), (95, .agg #[.slice q3 n3 c3]), (96, .agg #[.slice (some ⟨gx, 0, none⟩) nl cx]), (97, f 15), (98, .agg #[.slice q4 n4 c4])]) [(90, .bool true), (91, .agg #[.slice q9 n9 c9]), (92, .agg #[.slice q13 n13 c13]), (95, .agg #[.slice q3 n3 c3]), (98, .agg #[.slice q4 n4 c4]), (7, .pointer (some ⟨b7, 0, none⟩)), (3, .pointer (some ⟨b3, 0, none⟩))] := by
    refine ⟨by rw [putL_size]; exact hsize, fun s v hm => ?_⟩
    have h1 := putL_get [(82, .agg #[.slice (some ⟨gx, 0, none⟩) nl cx]), (83, .agg #[.slice p nl c]), (84, .bool true), (85, .bool true), (86, .agg #[.slice (some ⟨gy, 0, none⟩) nm cy]), (87, .agg #[.slice q nm d]), (88, .bool true), (89, .bool true), (90, .bool true), (91, .agg #[.slice q9 n9 c9]), (92, .agg #[.slice q13 n13 c13]), (93, .agg #[.slice (some ⟨gx, 0, none⟩) nl cx]), (94, f 12), (95, .agg #[.slice q3 n3 c3]), (96, .agg #[.slice (some ⟨gx, 0, none⟩) nl cx]), (97, f 15), (98, .agg #[.slice q4 n4 c4])] a0 s (by simp) (by rw [hsize]; simp)
    simp only [List.mem_cons, Prod.mk.injEq, List.not_mem_nil, or_false] at hm
    rcases hm with ⟨rfl, rfl⟩ | ⟨rfl, rfl⟩ | ⟨rfl, rfl⟩ | ⟨rfl, rfl⟩ | ⟨rfl, rfl⟩ | ⟨rfl, rfl⟩ | ⟨rfl, rfl⟩
    · exact h1.2 _ (by simp)
    · exact h1.2 _ (by simp)
    · exact h1.2 _ (by simp)
    · exact h1.2 _ (by simp)
    · exact h1.2 _ (by simp)
    · rw [h1.1 (by simp)]; exact h7
    · rw [h1.1 (by simp)]; exact h3
  generalize putL a0 [(82, .agg #[.slice (some ⟨gx, 0, none⟩) nl cx]), (83, .agg #[.slice p nl c]), (84, .bool true), (85, .bool true), (86, .agg #[.slice (some ⟨gy, 0, none⟩) nm cy]), (87, .agg #[.slice q nm d]), (88, .bool true), (89, .bool true), (90, .bool true), (91, .agg #[.slice q9 n9 c9]), (92, .agg #[.slice q13 n13 c13]), (93, .agg #[.slice (some ⟨gx, 0, none⟩) nl cx]), (94, f 12), (95, .agg #[.slice q3 n3 c3]), (96, .agg #[.slice (some ⟨gx, 0, none⟩) nl cx]), (97, f 15), (98, .agg #[.slice q4 n4 c4])] = a at H fin' ⊢
  refine any_one (i := 17) (o := nt9o17) (by kernel_rfl) rfl ?_
  have d91 := H.2 91 (.agg #[.slice q9 n9 c9]) (by simp)
  have d92 := H.2 92 (.agg #[.slice q13 n13 c13]) (by simp)
  have d95 := H.2 95 (.agg #[.slice q3 n3 c3]) (by simp)
  have d98 := H.2 98 (.agg #[.slice q4 n4 c4]) (by simp)
  refine inv_val (G := fun u V => u = .slice (some ⟨y.heap.size, 0, none⟩) 4 4 ∧ (y.alloc (.cells #[.slice q9 n9 c9, .slice q13 n13 c13, .slice q3 n3 c3, .slice q4 n4 c4] 24)) = V) (R := fun _ _ => True) (wanted_t (H.2 90 (.bool true) (by simp)) rfl rfl) (v := .slice (some ⟨y.heap.size, 0, none⟩) 4 4) (w2 := (y.alloc (.cells #[.slice q9 n9 c9, .slice q13 n13 c13, .slice q3 n3 c3, .slice q4 n4 c4] 24))) (by simp only [execOp, nt9o17]; go_simp) ?_ ⟨rfl, rfl⟩ trivial
  rintro _ _ ⟨rfl, rfl⟩ _
  rw [show nt9o17.dst = some 99 from rfl]
  have H := H.put 99 (.slice (some ⟨y.heap.size, 0, none⟩) 4 4) (by decide) (by simp)
  obtain ⟨a99, ha99⟩ : ∃ a_, a_ = a.put (some 99) (.slice (some ⟨y.heap.size, 0, none⟩) 4 4) := ⟨_, rfl⟩
  rw [← ha99] at H fin' ⊢
  clear ha99
  refine any_one (i := 18) (o := nt9o18) (by kernel_rfl) rfl ?_
  have d99 := H.2 99 (.slice (some ⟨y.heap.size, 0, none⟩) 4 4) (by simp)
  refine inv_val (G := fun u V => u = .slice (some ⟨y.heap.size + 1, 0, none⟩) 1 1 ∧ ((y.alloc (.cells #[.slice q9 n9 c9, .slice q13 n13 c13, .slice q3 n3 c3, .slice q4 n4 c4] 24)).alloc (.cells #[.slice (some ⟨y.heap.size, 0, none⟩) 4 4] 38)) = V) (R := fun _ _ => True) (wanted_t (H.2 90 (.bool true) (by simp)) rfl rfl) (v := .slice (some ⟨y.heap.size + 1, 0, none⟩) 1 1) (w2 := ((y.alloc (.cells #[.slice q9 n9 c9, .slice q13 n13 c13, .slice q3 n3 c3, .slice q4 n4 c4] 24)).alloc (.cells #[.slice (some ⟨y.heap.size, 0, none⟩) 4 4] 38))) (by simp only [execOp, nt9o18]; go_simp) ?_ ⟨rfl, rfl⟩ trivial
  rintro _ _ ⟨rfl, rfl⟩ _
  rw [show nt9o18.dst = some 100 from rfl]
  have H := H.put 100 (.slice (some ⟨y.heap.size + 1, 0, none⟩) 1 1) (by decide) (by simp)
  obtain ⟨a100, ha100⟩ : ∃ a_, a_ = a99.put (some 100) (.slice (some ⟨y.heap.size + 1, 0, none⟩) 1 1) := ⟨_, rfl⟩
  rw [← ha100] at H fin' ⊢
  clear ha100
  refine any_one (i := 19) (o := nt9o19) (by kernel_rfl) rfl ?_
  have d100 := eval_at (H.2 100 (.slice (some ⟨y.heap.size + 1, 0, none⟩) 1 1) (by simp))
  have q100 := H.2 100 (.slice (some ⟨y.heap.size + 1, 0, none⟩) 1 1) (by simp)
  refine inv_call (G := fun u V => u = .bool true ∧ N V) (R := fun _ _ => True) (F := 21) (args := #[.slice (some ⟨y.heap.size + 1, 0, none⟩) 1 1]) (wanted_t (H.2 90 (.bool true) (by simp)) rfl rfl) (by simp [go_sem, nt9o19, q100]) ?_ (hap4.mono (fun e V h => ⟨_, h.1, ⟨rfl, h.2⟩, trivial⟩))
  rintro _ z ⟨rfl, hN⟩ _
  rw [show nt9o19.dst = some 101 from rfl]
  have H := H.put 101 (.bool true) (by decide) (by simp)
  obtain ⟨a101, ha101⟩ : ∃ a_, a_ = a100.put (some 101) (.bool true) := ⟨_, rfl⟩
  rw [← ha101] at H fin' ⊢
  clear ha101
  clear hap4
  refine any_one (i := 20) (o := nt9o20) (by kernel_rfl) rfl ?_
  have d90 := eval_at (H.2 90 (.bool true) (by simp))
  have d101 := eval_at (H.2 101 (.bool true) (by simp))
  refine inv_val (G := fun u V => u = .bool true ∧ z = V) (R := fun _ _ => True) (wanted_none rfl) (v := .bool true) (w2 := z) (by simp only [execOp, nt9o20, d90, d101]; go_simp) ?_ ⟨rfl, rfl⟩ trivial
  rintro _ _ ⟨rfl, rfl⟩ _
  rw [show nt9o20.dst = some 102 from rfl]
  have H := H.put 102 (.bool true) (by decide) (by simp)
  obtain ⟨a102, ha102⟩ : ∃ a_, a_ = a101.put (some 102) (.bool true) := ⟨_, rfl⟩
  rw [← ha102] at H fin' ⊢
  clear ha102
  refine any_one (i := 21) (o := nt9o21) (by kernel_rfl) rfl ?_
  have d102 := eval_at (H.2 102 (.bool true) (by simp))
  refine inv_val (G := fun u V => u = .bool true ∧ z = V) (R := fun _ _ => True) (wanted_none rfl) (v := .bool true) (w2 := z) (by simp only [execOp, nt9o21, d102]; go_simp) ?_ ⟨rfl, rfl⟩ trivial
  rintro _ _ ⟨rfl, rfl⟩ _
  rw [show nt9o21.dst = some 103 from rfl]
  have H := H.put 103 (.bool true) (by decide) (by simp)
  obtain ⟨a103, ha103⟩ : ∃ a_, a_ = a102.put (some 103) (.bool true) := ⟨_, rfl⟩
  rw [← ha103] at H fin' ⊢
  clear ha103
  have m7 := hN7 z hN
  have m3_ := hN3 z hN
  generalize hDN : ((((nt9Pre.setIfInBounds 17 true).setIfInBounds 18 true).setIfInBounds 19 true).setIfInBounds 20 true).setIfInBounds 21 true = DN
  have key : ∀ a', a' = (a103.put (some 104) (.agg #[.slice (some ⟨gx, 0, none⟩) nl cx])).put (some 105) (.agg #[.slice p nl c]) → wpAny Tryz.prog .any nt9Ops Q 6 (DN.setIfInBounds 22 true |>.setIfInBounds 23 true) a' z := ?_
  · refine any_two (i := 22) (j := 23) (o := nt9o22) (o' := nt9o23) (by subst hDN; kernel_rfl) rfl rfl ?_ ?_
    · have d7 := eval_at (H.2 7 (.pointer (some ⟨b7, 0, none⟩)) (by simp))
      refine inv_val (G := fun u V => u = .agg #[.slice (some ⟨gx, 0, none⟩) nl cx] ∧ z = V) (R := fun _ _ => True) (wanted_t (H.2 103 (.bool true) (by simp)) rfl rfl) (v := .agg #[.slice (some ⟨gx, 0, none⟩) nl cx]) (w2 := z) (by simp only [execOp, nt9o22, d7]; go_simp) ?_ ⟨rfl, rfl⟩ trivial
      rintro _ _ ⟨rfl, rfl⟩ _
      rw [show nt9o22.dst = some 104 from rfl]
      have H := H.put 104 (.agg #[.slice (some ⟨gx, 0, none⟩) nl cx]) (by decide) (by simp)
      obtain ⟨a104, ha104⟩ : ∃ a_, a_ = a103.put (some 104) (.agg #[.slice (some ⟨gx, 0, none⟩) nl cx]) := ⟨_, rfl⟩
      rw [← ha104] at H ⊢
      refine any_one (i := 23) (o := nt9o23) (by subst hDN; kernel_rfl) rfl ?_
      have d3 := eval_at (H.2 3 (.pointer (some ⟨b3, 0, none⟩)) (by simp))
      refine inv_val (G := fun u V => u = .agg #[.slice p nl c] ∧ z = V) (R := fun _ _ => True) (wanted_t (H.2 103 (.bool true) (by simp)) rfl rfl) (v := .agg #[.slice p nl c]) (w2 := z) (by simp only [execOp, nt9o23, d3]; go_simp) ?_ ⟨rfl, rfl⟩ trivial
      rintro _ _ ⟨rfl, rfl⟩ _
      rw [show nt9o23.dst = some 105 from rfl]
      exact key _ (by rw [ha104])
    · have d3 := eval_at (H.2 3 (.pointer (some ⟨b3, 0, none⟩)) (by simp))
      refine inv_val (G := fun u V => u = .agg #[.slice p nl c] ∧ z = V) (R := fun _ _ => True) (wanted_t (H.2 103 (.bool true) (by simp)) rfl rfl) (v := .agg #[.slice p nl c]) (w2 := z) (by simp only [execOp, nt9o23, d3]; go_simp) ?_ ⟨rfl, rfl⟩ trivial
      rintro _ _ ⟨rfl, rfl⟩ _
      rw [show nt9o23.dst = some 105 from rfl]
      have H := H.put 105 (.agg #[.slice p nl c]) (by decide) (by simp)
      obtain ⟨a105, ha105⟩ : ∃ a_, a_ = a103.put (some 105) (.agg #[.slice p nl c]) := ⟨_, rfl⟩
      rw [← ha105] at H ⊢
      refine any_one (i := 22) (o := nt9o22) (by subst hDN; kernel_rfl) rfl ?_
      have d7 := eval_at (H.2 7 (.pointer (some ⟨b7, 0, none⟩)) (by simp))
      refine inv_val (G := fun u V => u = .agg #[.slice (some ⟨gx, 0, none⟩) nl cx] ∧ z = V) (R := fun _ _ => True) (wanted_t (H.2 103 (.bool true) (by simp)) rfl rfl) (v := .agg #[.slice (some ⟨gx, 0, none⟩) nl cx]) (w2 := z) (by simp only [execOp, nt9o22, d7]; go_simp) ?_ ⟨rfl, rfl⟩ trivial
      rintro _ _ ⟨rfl, rfl⟩ _
      rw [show nt9o22.dst = some 104 from rfl]
      rw [Array.setIfInBounds_comm true true (show (23 : Nat) ≠ 22 by decide)]
      exact key _ (by rw [ha105]; exact put_swap _ 105 104 _ _ (by decide))
  subst hDN
  have H := (H.put 104 (.agg #[.slice (some ⟨gx, 0, none⟩) nl cx]) (by decide) (by simp)).put 105 (.agg #[.slice p nl c]) (by decide) (by simp)
  rintro a105 ha105
  rw [← ha105] at H fin'
  refine any_one (i := 24) (o := nt9o24) (by kernel_rfl) rfl ?_
  have q104 := H.2 104 (.agg #[.slice (some ⟨gx, 0, none⟩) nl cx]) (by simp)
  have q105 := H.2 105 (.agg #[.slice p nl c]) (by simp)
  refine inv_call (G := fun u V => u = .bool true ∧ N V) (R := fun _ _ => True) (F := 20) (args := #[.agg #[.slice (some ⟨gx, 0, none⟩) nl cx], .agg #[.slice p nl c]]) (wanted_t (H.2 103 (.bool true) (by simp)) rfl rfl) (by simp [go_sem, nt9o24, q104, q105]) ?_ ((hk2 z hN).mono (fun e V h => ⟨_, h.1, ⟨rfl, h.2⟩, trivial⟩))
  rintro _ z2 ⟨rfl, hN2⟩ _
  rw [show nt9o24.dst = some 106 from rfl]
  have H := H.put 106 (.bool true) (by decide) (by simp)
  obtain ⟨a106, ha106⟩ : ∃ a_, a_ = a105.put (some 106) (.bool true) := ⟨_, rfl⟩
  rw [← ha106] at H fin' ⊢
  clear ha106
  refine any_one (i := 25) (o := nt9o25) (by kernel_rfl) rfl ?_
  have d103 := eval_at (H.2 103 (.bool true) (by simp))
  have d106 := eval_at (H.2 106 (.bool true) (by simp))
  refine inv_val (G := fun u V => u = .bool true ∧ z2 = V) (R := fun _ _ => True) (wanted_none rfl) (v := .bool true) (w2 := z2) (by simp only [execOp, nt9o25, d103, d106]; go_simp) ?_ ⟨rfl, rfl⟩ trivial
  rintro _ _ ⟨rfl, rfl⟩ _
  rw [show nt9o25.dst = some 107 from rfl]
  have H := H.put 107 (.bool true) (by decide) (by simp)
  obtain ⟨a107, ha107⟩ : ∃ a_, a_ = a106.put (some 107) (.bool true) := ⟨_, rfl⟩
  rw [← ha107] at H fin' ⊢
  clear ha107
  refine any_one (i := 26) (o := nt9o26) (by kernel_rfl) rfl ?_
  have d107 := eval_at (H.2 107 (.bool true) (by simp))
  refine inv_val (G := fun u V => u = .bool true ∧ z2 = V) (R := fun _ _ => True) (wanted_none rfl) (v := .bool true) (w2 := z2) (by simp only [execOp, nt9o26, d107]; go_simp) ?_ ⟨rfl, rfl⟩ trivial
  rintro _ _ ⟨rfl, rfl⟩ _
  rw [show nt9o26.dst = some 108 from rfl]
  have H := H.put 108 (.bool true) (by decide) (by simp)
  obtain ⟨a108, ha108⟩ : ∃ a_, a_ = a107.put (some 108) (.bool true) := ⟨_, rfl⟩
  rw [← ha108] at H fin' ⊢
  clear ha108
  refine any_one (i := 27) (o := nt9o27) (by kernel_rfl) rfl ?_
  refine inv_call (G := fun u V => u = .bool true ∧ N V) (R := fun _ _ => True) (F := 7) (args := #[]) (wanted_t (H.2 108 (.bool true) (by simp)) rfl rfl) (by simp [go_sem, nt9o27]) ?_ ((haw z2 hN2).mono (fun e V h => ⟨_, h.1, ⟨rfl, h.2⟩, trivial⟩))
  rintro _ z3 ⟨rfl, hN3_⟩ _
  rw [show nt9o27.dst = some 109 from rfl]
  have H := H.put 109 (.bool true) (by decide) (by simp)
  obtain ⟨a109, ha109⟩ : ∃ a_, a_ = a108.put (some 109) (.bool true) := ⟨_, rfl⟩
  rw [← ha109] at H fin' ⊢
  clear ha109
  refine any_one (i := 28) (o := nt9o28) (by kernel_rfl) rfl ?_
  have d108 := eval_at (H.2 108 (.bool true) (by simp))
  have d109 := eval_at (H.2 109 (.bool true) (by simp))
  refine inv_val (G := fun u V => u = .bool true ∧ z3 = V) (R := fun _ _ => True) (wanted_none rfl) (v := .bool true) (w2 := z3) (by simp only [execOp, nt9o28, d108, d109]; go_simp) ?_ ⟨rfl, rfl⟩ trivial
  rintro _ _ ⟨rfl, rfl⟩ _
  rw [show nt9o28.dst = some 110 from rfl]
  have H := H.put 110 (.bool true) (by decide) (by simp)
  obtain ⟨a110, ha110⟩ : ∃ a_, a_ = a109.put (some 110) (.bool true) := ⟨_, rfl⟩
  rw [← ha110] at H fin' ⊢
  clear ha110
  refine any_one (i := 29) (o := nt9o29) (by kernel_rfl) rfl ?_
  have d110 := eval_at (H.2 110 (.bool true) (by simp))
  refine inv_val (G := fun u V => u = .bool true ∧ z3 = V) (R := fun _ _ => True) (wanted_none rfl) (v := .bool true) (w2 := z3) (by simp only [execOp, nt9o29, d110]; go_simp) ?_ ⟨rfl, rfl⟩ trivial
  rintro _ _ ⟨rfl, rfl⟩ _
  rw [show nt9o29.dst = some 6 from rfl]
  exact any_end (by kernel_rfl) (fin' z3 hN3_) 0
end Go.Proofs.YtcahnkocfbcchaaGreatDoor

