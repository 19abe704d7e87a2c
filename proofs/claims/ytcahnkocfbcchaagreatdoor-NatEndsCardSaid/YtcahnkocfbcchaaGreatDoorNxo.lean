/- The walks of the document's Cmp and Sub. -/
import Derived.Test.YtcahnkocfbcchaaGreatDoorNxn
import Derived.Test.YtcahnkocfbcchaaGreatDoorNxb

namespace Go.Proofs.YtcahnkocfbcchaaGreatDoor
open Go.RowKit Tnd

/-- a number at work, its digits right. -/
def Kc.row (n : Nat) : Kc := ⟨fun v w => ∃ q qc N, v = .slice q N.length qc ∧ (Sl w .u8 q N ∧ Digs 10 N ∧ RightL N ∧ nv 10 N = n ∧ N.length ≤ 32000000), fun h hb => by obtain ⟨q, qc, N, h1, h2, h3⟩ := h; exact ⟨q, qc, N, h1, h2.bl hb, h3⟩⟩
def rcmo0 : Oper := { dst := some 5, op := Op.load 24 (Operand.tmp 2), type := 24, pos := "ref.go:145", after := #[], guard := none }
def rcmo1 : Oper := { dst := some 6, op := Op.call { callee := Callee.value (Operand.func 34), args := #[Operand.tmp 5], argTypes := #[24] }, type := 59, pos := "ref.go:145", after := #[{ on := 0, ground := Ground.data }], guard := none }
def rcmo2 : Oper := { dst := some 7, op := Op.load 24 (Operand.tmp 3), type := 24, pos := "ref.go:145", after := #[], guard := none }
def rcmo3 : Oper := { dst := some 8, op := Op.call { callee := Callee.value (Operand.func 34), args := #[Operand.tmp 7], argTypes := #[24] }, type := 59, pos := "ref.go:145", after := #[{ on := 2, ground := Ground.data }, { on := 1, ground := Ground.chain }], guard := none }
def rcmo4 : Oper := { dst := some 9, op := Op.call { callee := Callee.value (Operand.func 35), args := #[Operand.tmp 6, Operand.tmp 8], argTypes := #[59, 59] }, type := 3, pos := "ref.go:145", after := #[{ on := 1, ground := Ground.data }, { on := 3, ground := Ground.data }, { on := 3, ground := Ground.chain }], guard := none }
def rcmo5 : Oper := { dst := some 4, op := Op.assign (Operand.tmp 9), type := 3, pos := "ref.go:145", after := #[{ on := 4, ground := Ground.data }, { on := 4, ground := Ground.chain }, { on := 0, ground := Ground.phase }, { on := 1, ground := Ground.phase }, { on := 2, ground := Ground.phase }, { on := 3, ground := Ground.phase }, { on := 4, ground := Ground.phase }], guard := none }
def rcmOps : Array Oper := #[rcmo0, rcmo1, rcmo2, rcmo3, rcmo4, rcmo5]
def rcmPre : Array Bool := #[true, true, true, true, true, true]
def rcmK (p q : Option Addr) (nl c nm d _b1 _b2 X Y : Nat) : Nat → Kc
  | 0 => Kc.val (.agg #[.slice p nl c])
  | 1 => Kc.row X
  | 2 => Kc.val (.agg #[.slice q nm d])
  | 3 => Kc.row Y
  | 4 => Kc.val (.int .i64 (ord X Y))
  | 5 => Kc.val (.int .i64 (ord X Y))
  | _ => Kc.val undef
theorem rcm_slots (f : Nat → Value) : slotsOf rcmOps rcmPre f = [(5, f 0), (6, f 1), (7, f 2), (8, f 3), (9, f 4), (4, f 5)] := by kernel_rfl
set_option maxHeartbeats 6400000 in
set_option maxRecDepth 100000 in
theorem rcm_wp {Q : Exit → Act → World → Prop} {a0 : Act} {w : World} (p q : Option Addr) (nl c nm d b1 b2 X Y : Nat) (hsize : a0.tmps.size = 10) (h2 : a0.tmps[2]? = some (.pointer (some ⟨b1, 0, none⟩))) (h3 : a0.tmps[3]? = some (.pointer (some ⟨b2, 0, none⟩)))
    (hc1 : w.drew.cell? ⟨b1, 0, none⟩ = some (.slice p nl c)) (hc2 : w.drew.cell? ⟨b2, 0, none⟩ = some (.slice q nm d))
    (hi1 : ∀ V, Below w.drew.heap.size w.drew V → Calls Tryz.prog 34 #[.agg #[.slice p nl c]] V fun e w' => ∃ q qc N, e = .returned (.slice q N.length qc) ∧ (Sl w' .u8 q N ∧ Digs 10 N ∧ RightL N ∧ nv 10 N = X ∧ N.length ≤ 32000000) ∧ Below V.heap.size V w')
    (hi2 : ∀ V, Below w.drew.heap.size w.drew V → Calls Tryz.prog 34 #[.agg #[.slice q nm d]] V fun e w' => ∃ q qc N, e = .returned (.slice q N.length qc) ∧ (Sl w' .u8 q N ∧ Digs 10 N ∧ RightL N ∧ nv 10 N = Y ∧ N.length ≤ 32000000) ∧ Below V.heap.size V w')
    
    (fin : ∀ (f : Nat → Value) (y : World), (∀ j, j < 6 → rcmPre.getD j false = true → (rcmK p q nl c nm d b1 b2 X Y j).P (f j) y) → Below w.drew.heap.size w.drew y → Q .normal (putL a0 [(5, f 0), (6, f 1), (7, f 2), (8, f 3), (9, f 4), (4, f 5)]) y) (id : Nat) :
    (Code.region id rcmOps true).wp Tryz.prog Q a0 w := by
  refine wp_region_inv rcmPre (fun j => (rcmK p q nl c nm d b1 b2 X Y j).P) (fun x y => Below x.heap.size x y) 6 0 (by kernel_rfl) (by kernel_rfl) (by rw [hsize]; kernel_rfl) (by kernel_rfl) (by kernel_rfl) (Below.refl _ _) (fun _ _ _ h1 h2 => bl_trans h1 h2) (fun j _ _ _ h1 h2 => (rcmK p q nl c nm d b1 b2 X Y j).keep h1 h2) ?_ (fun f y h1 h2 => by rw [rcm_slots]; exact any_end (by kernel_rfl) (fin f y h1 h2) 0)
  intro i o ho hp f a x hR hbase hdeps K hK
  have hi : i < 6 := by
    rcases Nat.lt_or_ge i 6 with h | h
    · exact h
    · have : rcmOps.size ≤ i := h
      rw [Array.getElem?_eq_none this] at ho; cases ho
  have dep : ∀ j, (o.after.any fun e => Region.binds .any e && e.on == j) = true → (∀ s, slotOf rcmOps j = some s → a.tmps[s]? = some (f j)) ∧ (rcmK p q nl c nm d b1 b2 X Y j).P (f j) x := by
    intro j h
    obtain ⟨e, he, h2⟩ := Array.any_eq_true'.1 h
    simp only [Bool.and_eq_true, beq_iff_eq] at h2
    obtain ⟨h3, rfl⟩ := h2
    exact hdeps e he h3
  have dv : ∀ (j s : Nat) {v : Value}, (o.after.any fun e => Region.binds .any e && e.on == j) = true → slotOf rcmOps j = some s → rcmK p q nl c nm d b1 b2 X Y j = Kc.val v → a.tmps[s]? = some v := fun j s v h1 h2 h3 => by
    obtain ⟨t, g⟩ := dep j h1
    rw [h3] at g
    have e : f j = v := g
    rw [← e]; exact t s h2
  have bv : ∀ {s : Nat} {v : Value}, a0.tmps[s]? = some v → ((List.range rcmOps.size).all fun j => slotOf rcmOps j != some s) = true → a.tmps[s]? = some v := by
    intro s v h0 h
    rw [hbase s fun j hj _ e => ?_]; exact h0
    have h2 := (List.all_eq_true.1 h) j (List.mem_range.2 hj)
    rw [e] at h2; simp at h2
  match i, hi with
  | 0, _ =>
    obtain rfl : rcmo0 = o := Option.some.inj (show rcmOps[0]? = some _ from ho)
    have eb2 := eval_at (bv h2 (by kernel_rfl))
    have kc1 := keep_cellK hR hc1
    exact inv_stay hK rfl (by simp only [execOp, rcmo0, eb2]; go_simp) (wanted_none rfl)
  | 1, _ =>
    obtain rfl : rcmo1 = o := Option.some.inj (show rcmOps[1]? = some _ from ho)
    have q0 := dv 0 5 (by kernel_rfl) rfl rfl
    refine inv_enter 34 #[.agg #[.slice p nl c]] hK (by simp [go_sem, rcmo1, q0]) (wanted_none rfl) ?_
    refine (hi1 x hR).mono ?_
    rintro e y ⟨q2, qc2, N2, rfl, h1, h2⟩
    exact ⟨_, rfl, ⟨q2, qc2, N2, rfl, h1⟩, h2⟩
  | 2, _ =>
    obtain rfl : rcmo2 = o := Option.some.inj (show rcmOps[2]? = some _ from ho)
    have eb3 := eval_at (bv h3 (by kernel_rfl))
    have kc2 := keep_cellK hR hc2
    exact inv_stay hK rfl (by simp only [execOp, rcmo2, eb3]; go_simp) (wanted_none rfl)
  | 3, _ =>
    obtain rfl : rcmo3 = o := Option.some.inj (show rcmOps[3]? = some _ from ho)
    have q2 := dv 2 7 (by kernel_rfl) rfl rfl
    refine inv_enter 34 #[.agg #[.slice q nm d]] hK (by simp [go_sem, rcmo3, q2]) (wanted_none rfl) ?_
    refine (hi2 x hR).mono ?_
    rintro e y ⟨q2, qc2, N2, rfl, h1, h2⟩
    exact ⟨_, rfl, ⟨q2, qc2, N2, rfl, h1⟩, h2⟩
  | 4, _ =>
    obtain rfl : rcmo4 = o := Option.some.inj (show rcmOps[4]? = some _ from ho)
    obtain ⟨t1, g1⟩ := dep 1 (by kernel_rfl)
    have q1 := t1 6 (by rfl)
    have e1 := eval_at q1
    obtain ⟨t3, g3⟩ := dep 3 (by kernel_rfl)
    have q3 := t3 8 (by rfl)
    have e3 := eval_at q3
    obtain ⟨qx, cx, NX, hm1, j1, j2, j3, j4, j5⟩ : (Kc.row X).P (f 1) x := g1
    obtain ⟨qy, cy, NY, hm3, i1, i2, i3, i4, i5⟩ : (Kc.row Y).P (f 3) x := g3
    rw [hm1] at q1
    rw [hm3] at q3
    refine inv_enter 35 #[.slice qx NX.length cx, .slice qy NY.length cy] hK (by simp [go_sem, rcmo4, q1, q3]) (wanted_none rfl) ?_
    refine (rorder_any qx qy cx cy NX NY x j1 i1 j2 i2 j3 i3 (by omega) (by omega)).mono ?_
    rintro e y ⟨rfl, hb⟩
    rw [j4, i4]
    exact ⟨_, rfl, rfl, hb⟩
  | 5, _ =>
    obtain rfl : rcmo5 = o := Option.some.inj (show rcmOps[5]? = some _ from ho)
    have e4 := eval_at (dv 4 9 (by kernel_rfl) rfl rfl)
    exact inv_stay hK rfl (by simp only [execOp, rcmo5, e4]; go_simp) (wanted_none rfl)
def rsbo0 : Oper := { dst := some 8, op := Op.load 24 (Operand.tmp 2), type := 24, pos := "ref.go:166", after := #[], guard := none }
def rsbo1 : Oper := { dst := some 9, op := Op.call { callee := Callee.value (Operand.func 34), args := #[Operand.tmp 8], argTypes := #[24] }, type := 59, pos := "ref.go:166", after := #[{ on := 0, ground := Ground.data }], guard := none }
def rsbo2 : Oper := { dst := some 10, op := Op.load 24 (Operand.tmp 3), type := 24, pos := "ref.go:166", after := #[], guard := none }
def rsbo3 : Oper := { dst := some 11, op := Op.call { callee := Callee.value (Operand.func 34), args := #[Operand.tmp 10], argTypes := #[24] }, type := 59, pos := "ref.go:166", after := #[{ on := 2, ground := Ground.data }, { on := 1, ground := Ground.chain }], guard := none }
def rsbo4 : Oper := { dst := some 6, op := Op.assign (Operand.tmp 9), type := 59, pos := "ref.go:166", after := #[{ on := 1, ground := Ground.data }, { on := 3, ground := Ground.chain }, { on := 0, ground := Ground.phase }, { on := 1, ground := Ground.phase }, { on := 2, ground := Ground.textOnly Departure.lateStores }, { on := 3, ground := Ground.textOnly Departure.lateStoresUnsure }], guard := none }
def rsbo5 : Oper := { dst := some 7, op := Op.assign (Operand.tmp 11), type := 59, pos := "ref.go:166", after := #[{ on := 3, ground := Ground.data }, { on := 4, ground := Ground.chain }, { on := 0, ground := Ground.phase }, { on := 1, ground := Ground.phase }, { on := 2, ground := Ground.phase }, { on := 3, ground := Ground.phase }, { on := 4, ground := Ground.phase }], guard := none }
def rsbOps : Array Oper := #[rsbo0, rsbo1, rsbo2, rsbo3, rsbo4, rsbo5]
def rsbPre : Array Bool := #[true, true, true, true, true, true]
def rsbK (p q : Option Addr) (nl c nm d _b1 _b2 X Y : Nat) : Nat → Kc
  | 0 => Kc.val (.agg #[.slice p nl c])
  | 1 => Kc.row X
  | 2 => Kc.val (.agg #[.slice q nm d])
  | 3 => Kc.row Y
  | 4 => Kc.row X
  | 5 => Kc.row Y
  | _ => Kc.val undef
theorem rsb_slots (f : Nat → Value) : slotsOf rsbOps rsbPre f = [(8, f 0), (9, f 1), (10, f 2), (11, f 3), (6, f 4), (7, f 5)] := by kernel_rfl
set_option maxHeartbeats 6400000 in
set_option maxRecDepth 100000 in
theorem rsb_wp {Q : Exit → Act → World → Prop} {a0 : Act} {w : World} (p q : Option Addr) (nl c nm d b1 b2 X Y : Nat) (hsize : a0.tmps.size = 21) (h2 : a0.tmps[2]? = some (.pointer (some ⟨b1, 0, none⟩))) (h3 : a0.tmps[3]? = some (.pointer (some ⟨b2, 0, none⟩)))
    (hc1 : w.drew.cell? ⟨b1, 0, none⟩ = some (.slice p nl c)) (hc2 : w.drew.cell? ⟨b2, 0, none⟩ = some (.slice q nm d))
    (hi1 : ∀ V, Below w.drew.heap.size w.drew V → Calls Tryz.prog 34 #[.agg #[.slice p nl c]] V fun e w' => ∃ q qc N, e = .returned (.slice q N.length qc) ∧ (Sl w' .u8 q N ∧ Digs 10 N ∧ RightL N ∧ nv 10 N = X ∧ N.length ≤ 32000000) ∧ Below V.heap.size V w')
    (hi2 : ∀ V, Below w.drew.heap.size w.drew V → Calls Tryz.prog 34 #[.agg #[.slice q nm d]] V fun e w' => ∃ q qc N, e = .returned (.slice q N.length qc) ∧ (Sl w' .u8 q N ∧ Digs 10 N ∧ RightL N ∧ nv 10 N = Y ∧ N.length ≤ 32000000) ∧ Below V.heap.size V w')
    
    (fin : ∀ (f : Nat → Value) (y : World), (∀ j, j < 6 → rsbPre.getD j false = true → (rsbK p q nl c nm d b1 b2 X Y j).P (f j) y) → Below w.drew.heap.size w.drew y → Q .normal (putL a0 [(8, f 0), (9, f 1), (10, f 2), (11, f 3), (6, f 4), (7, f 5)]) y) (id : Nat) :
    (Code.region id rsbOps true).wp Tryz.prog Q a0 w := by
  refine wp_region_inv rsbPre (fun j => (rsbK p q nl c nm d b1 b2 X Y j).P) (fun x y => Below x.heap.size x y) 6 0 (by kernel_rfl) (by kernel_rfl) (by rw [hsize]; kernel_rfl) (by kernel_rfl) (by kernel_rfl) (Below.refl _ _) (fun _ _ _ h1 h2 => bl_trans h1 h2) (fun j _ _ _ h1 h2 => (rsbK p q nl c nm d b1 b2 X Y j).keep h1 h2) ?_ (fun f y h1 h2 => by rw [rsb_slots]; exact any_end (by kernel_rfl) (fin f y h1 h2) 0)
  intro i o ho hp f a x hR hbase hdeps K hK
  have hi : i < 6 := by
    rcases Nat.lt_or_ge i 6 with h | h
    · exact h
    · have : rsbOps.size ≤ i := h
      rw [Array.getElem?_eq_none this] at ho; cases ho
  have dep : ∀ j, (o.after.any fun e => Region.binds .any e && e.on == j) = true → (∀ s, slotOf rsbOps j = some s → a.tmps[s]? = some (f j)) ∧ (rsbK p q nl c nm d b1 b2 X Y j).P (f j) x := by
    intro j h
    obtain ⟨e, he, h2⟩ := Array.any_eq_true'.1 h
    simp only [Bool.and_eq_true, beq_iff_eq] at h2
    obtain ⟨h3, rfl⟩ := h2
    exact hdeps e he h3
  have dv : ∀ (j s : Nat) {v : Value}, (o.after.any fun e => Region.binds .any e && e.on == j) = true → slotOf rsbOps j = some s → rsbK p q nl c nm d b1 b2 X Y j = Kc.val v → a.tmps[s]? = some v := fun j s v h1 h2 h3 => by
    obtain ⟨t, g⟩ := dep j h1
    rw [h3] at g
    have e : f j = v := g
    rw [← e]; exact t s h2
  have bv : ∀ {s : Nat} {v : Value}, a0.tmps[s]? = some v → ((List.range rsbOps.size).all fun j => slotOf rsbOps j != some s) = true → a.tmps[s]? = some v := by
    intro s v h0 h
    rw [hbase s fun j hj _ e => ?_]; exact h0
    have h2 := (List.all_eq_true.1 h) j (List.mem_range.2 hj)
    rw [e] at h2; simp at h2
  match i, hi with
  | 0, _ =>
    obtain rfl : rsbo0 = o := Option.some.inj (show rsbOps[0]? = some _ from ho)
    have eb2 := eval_at (bv h2 (by kernel_rfl))
    have kc1 := keep_cellK hR hc1
    exact inv_stay hK rfl (by simp only [execOp, rsbo0, eb2]; go_simp) (wanted_none rfl)
  | 1, _ =>
    obtain rfl : rsbo1 = o := Option.some.inj (show rsbOps[1]? = some _ from ho)
    have q0 := dv 0 8 (by kernel_rfl) rfl rfl
    refine inv_enter 34 #[.agg #[.slice p nl c]] hK (by simp [go_sem, rsbo1, q0]) (wanted_none rfl) ?_
    refine (hi1 x hR).mono ?_
    rintro e y ⟨q2, qc2, N2, rfl, h1, h2⟩
    exact ⟨_, rfl, ⟨q2, qc2, N2, rfl, h1⟩, h2⟩
  | 2, _ =>
    obtain rfl : rsbo2 = o := Option.some.inj (show rsbOps[2]? = some _ from ho)
    have eb3 := eval_at (bv h3 (by kernel_rfl))
    have kc2 := keep_cellK hR hc2
    exact inv_stay hK rfl (by simp only [execOp, rsbo2, eb3]; go_simp) (wanted_none rfl)
  | 3, _ =>
    obtain rfl : rsbo3 = o := Option.some.inj (show rsbOps[3]? = some _ from ho)
    have q2 := dv 2 10 (by kernel_rfl) rfl rfl
    refine inv_enter 34 #[.agg #[.slice q nm d]] hK (by simp [go_sem, rsbo3, q2]) (wanted_none rfl) ?_
    refine (hi2 x hR).mono ?_
    rintro e y ⟨q2, qc2, N2, rfl, h1, h2⟩
    exact ⟨_, rfl, ⟨q2, qc2, N2, rfl, h1⟩, h2⟩
  | 4, _ =>
    obtain rfl : rsbo4 = o := Option.some.inj (show rsbOps[4]? = some _ from ho)
    obtain ⟨t1, g1⟩ := dep 1 (by kernel_rfl)
    have q1 := t1 9 (by rfl)
    have e1 := eval_at q1
    refine inv_val (G := (rsbK p q nl c nm d b1 b2 X Y 4).P) (R := fun x y => Below x.heap.size x y) (wanted_none rfl) (v := f 1) (w2 := x) (by simp only [execOp, rsbo4, e1]; go_simp) hK g1 (Below.refl _ _)
  | 5, _ =>
    obtain rfl : rsbo5 = o := Option.some.inj (show rsbOps[5]? = some _ from ho)
    obtain ⟨t3, g3⟩ := dep 3 (by kernel_rfl)
    have q3 := t3 11 (by rfl)
    have e3 := eval_at q3
    refine inv_val (G := (rsbK p q nl c nm d b1 b2 X Y 5).P) (R := fun x y => Below x.heap.size x y) (wanted_none rfl) (v := f 3) (w2 := x) (by simp only [execOp, rsbo5, e3]; go_simp) hK g3 (Below.refl _ _)
set_option maxHeartbeats 1600000 in
set_option maxRecDepth 100000 in
theorem rcmp_any (p q : Option Addr) (c d : Nat) (l m : List Nat) (w : World) (h1 : Sl w .u32 p l) (h2 : Sl w .u32 q m) (d1 : Digs 4294967296 l) (d2 : Digs 4294967296 m) (l1 : l.length ≤ 1000000) (l2 : m.length ≤ 1000000) :
    Calls Tryz.prog 15 #[.agg #[.slice p l.length c], .agg #[.slice q m.length d]] w fun e w' => e = .returned (.int .i64 (ord (nv 4294967296 l) (nv 4294967296 m))) ∧ Below w.heap.size w w' := by
  obtain ⟨W0, hW0⟩ : ∃ W, W = (w.alloc (.cells #[.slice p l.length c] 24)).alloc (.cells #[.slice q m.length d] 24) := ⟨_, rfl⟩
  have g0 : Below w.heap.size w W0 := by rw [hW0]; exact bl_tr (bl_al _ _) (bl_al _ _)
  have c1 : W0.cell? ⟨w.heap.size, 0, none⟩ = some (.slice p l.length c) := by rw [hW0, World.cell?_alloc_past _ _ _ (by simp), World.cell?_alloc_at _ _ _ _ rfl]; rfl
  have c2 : W0.cell? ⟨w.heap.size + 1, 0, none⟩ = some (.slice q m.length d) := by rw [hW0, World.cell?_alloc_at _ _ _ _ (by simp)]; rfl
  have hs0 : W0.heap.size = w.heap.size + 2 := by rw [hW0]; simp
  obtain ⟨W1, hW1⟩ : ∃ W, W = W0 := ⟨_, rfl⟩
  have g1 : Below w.heap.size w W1 := by rw [hW1]; exact g0
  have x1 : W1.cell? ⟨w.heap.size, 0, none⟩ = some (.slice p l.length c) := by rw [hW1]; exact c1
  have x2 : W1.cell? ⟨w.heap.size + 1, 0, none⟩ = some (.slice q m.length d) := by rw [hW1]; exact c2
  rw [hW0] at hW1
  clear c1 c2 g0 hs0 hW0
  have HI1 := Lib.hid (fun (V : World) (hV : Below W1.drew.heap.size W1.drew V) => in_row p c l V (h1.bl (bl_tr g1 (bl_trans (bl_drew W1) hV))) d1 l1)
  have HI2 := Lib.hid (fun (V : World) (hV : Below W1.drew.heap.size W1.drew V) => in_row q d m V (h2.bl (bl_tr g1 (bl_trans (bl_drew W1) hV))) d2 l2)
  have HW1 := Lib.hid hW1.symm
  have G1 := Lib.hid g1
  have X12 := Lib.hid (And.intro (keep_cellK (bl_drew W1) x1) (keep_cellK (bl_drew W1) x2))
  clear h1 h2 d1 d2 l1 l2 g1 hW1 x1 x2
  go_enter Tryz.func15, Tryz.ntmps15
  go_upto_region 1 with fail
  rw [HW1.out]
  refine rcm_wp p q l.length c m.length d w.heap.size (w.heap.size + 1) (nv 4294967296 l) (nv 4294967296 m) (by rfl) (by rfl) (by rfl) X12.out.1 X12.out.2 HI1.out HI2.out ?_ _
  intro f y hk hb
  have e5 : f 5 = .int .i64 (ord (nv 4294967296 l) (nv 4294967296 m)) := hk 5 (by decide) (by decide)
  rw [e5]
  have HB := Lib.hid (bl_tr G1.out (bl_trans (bl_drew W1) hb))
  clear hk hb e5
  generalize f 0 = f0, f 1 = f1, f 2 = f2, f 3 = f3, f 4 = f4
  simp only [putL, List.foldl, Act.put, List.setIfInBounds_toArray, List.set_cons_zero, List.set_cons_succ]
  clear f
  go_wp2
  go_ret
  exact ⟨rfl, HB.out⟩
theorem fnat_nil0 (w : World) (B : Nat) : FNat w B (.agg #[.slice none 0 0]) 0 := ⟨none, 0, [], rfl, own_nil _ _ _ _, fun _ h => (nomatch h), right_nil, rfl⟩
set_option maxHeartbeats 1600000 in
set_option maxRecDepth 100000 in
theorem rsub_any (p q : Option Addr) (c d : Nat) (l m : List Nat) (w : World) (h1 : Sl w .u32 p l) (h2 : Sl w .u32 q m) (d1 : Digs 4294967296 l) (d2 : Digs 4294967296 m) (l1 : l.length ≤ 1000000) (l2 : m.length ≤ 1000000) :
    Calls Tryz.prog 10 #[.agg #[.slice p l.length c], .agg #[.slice q m.length d]] w fun e w' => ∃ v, e = .returned (.tuple #[v, .bool (decide (nv 4294967296 m ≤ nv 4294967296 l))]) ∧ FNat w' w.heap.size v (nv 4294967296 l - nv 4294967296 m) ∧ Below w.heap.size w w' := by
  obtain ⟨W0, hW0⟩ : ∃ W, W = (w.alloc (.cells #[.slice p l.length c] 24)).alloc (.cells #[.slice q m.length d] 24) := ⟨_, rfl⟩
  have g0 : Below w.heap.size w W0 := by rw [hW0]; exact bl_tr (bl_al _ _) (bl_al _ _)
  have c1 : W0.cell? ⟨w.heap.size, 0, none⟩ = some (.slice p l.length c) := by rw [hW0, World.cell?_alloc_past _ _ _ (by simp), World.cell?_alloc_at _ _ _ _ rfl]; rfl
  have c2 : W0.cell? ⟨w.heap.size + 1, 0, none⟩ = some (.slice q m.length d) := by rw [hW0, World.cell?_alloc_at _ _ _ _ (by simp)]; rfl
  have hs0 : W0.heap.size = w.heap.size + 2 := by rw [hW0]; simp
  obtain ⟨W1, hW1⟩ : ∃ W, W = W0.alloc (.cells #[.slice none 0 0] 24) := ⟨_, rfl⟩
  have gg : Below W0.heap.size W0 W1 := by rw [hW1]; exact bl_al _ _
  have g1 : Below w.heap.size w W1 := bl_tr g0 gg
  have x1 : W1.cell? ⟨w.heap.size, 0, none⟩ = some (.slice p l.length c) := keep_cellK gg c1
  have x2 : W1.cell? ⟨w.heap.size + 1, 0, none⟩ = some (.slice q m.length d) := keep_cellK gg c2
  have hR1 : W1.heap[w.heap.size + 2]? = some (.cells #[.slice none 0 0] 24 (0, 0)) := by rw [hW1, ← hs0]; exact heap_alloc_new W0 _
  have HR1 := Lib.hid hR1
  rw [hW0] at hW1
  clear hR1 c1 c2 g0 gg hs0 hW0
  have HI1 := Lib.hid (fun (V : World) (hV : Below W1.drew.heap.size W1.drew V) => in_row p c l V (h1.bl (bl_tr g1 (bl_trans (bl_drew W1) hV))) d1 l1)
  have HI2 := Lib.hid (fun (V : World) (hV : Below W1.drew.heap.size W1.drew V) => in_row q d m V (h2.bl (bl_tr g1 (bl_trans (bl_drew W1) hV))) d2 l2)
  have HW1 := Lib.hid hW1.symm
  have G1 := Lib.hid g1
  have X12 := Lib.hid (And.intro (keep_cellK (bl_drew W1) x1) (keep_cellK (bl_drew W1) x2))
  clear h1 h2 d1 d2 l1 l2 g1 hW1 x1 x2
  go_enter Tryz.func10, Tryz.ntmps10
  go_upto_region 1 with fail
  rw [HW1.out]
  refine rsb_wp p q l.length c m.length d w.heap.size (w.heap.size + 1) (nv 4294967296 l) (nv 4294967296 m) (by rfl) (by rfl) (by rfl) X12.out.1 X12.out.2 HI1.out HI2.out ?_ _
  intro f y hk hb
  obtain ⟨qx, cx, NX, e4, j1, j2, j3, j4, j5⟩ : (Kc.row (nv 4294967296 l)).P (f 4) y := hk 4 (by decide) (by decide)
  obtain ⟨qy, cy, NY, e5, i1, i2, i3, i4, i5⟩ : (Kc.row (nv 4294967296 m)).P (f 5) y := hk 5 (by decide) (by decide)
  rw [e4, e5]
  have hby : Below W1.heap.size W1 y := bl_trans (bl_drew W1) hb
  have hR2 : y.heap[w.heap.size + 2]? = some (.cells #[.slice none 0 0] 24 (0, 0)) := by rw [hby.block _ (lt_of_block HR1.out)]; exact HR1.out
  have HB := Lib.hid (bl_tr G1.out hby)
  have hord := rorder_any qx qy cx cy NX NY y j1 i1 j2 i2 j3 i3 (by omega) (by omega)
  rw [j4, i4] at hord
  have HOR := Lib.hid hord
  have HLE := Lib.hid (fun (V : World) (hV : Below y.heap.size y V) (hle : nv 4294967296 m ≤ nv 4294967296 l) => rless_any qx qy cx cy NX NY V (j1.bl hV) (i1.bl hV) j2 i2 i3 (by rw [j4, i4]; exact hle) (by omega) (by omega))
  rw [j4, i4] at HLE
  have HR2 := Lib.hid hR2
  have HJ5 := Lib.hid (And.intro j5 (And.intro j2 j4))
  clear hk hb e4 e5 hby hord j1 j2 j3 j4 j5 i1 i2 i3 i4 i5 hR2 HI1 HI2 X12
  generalize f 0 = f0, f 1 = f1, f 2 = f2, f 3 = f3
  simp only [putL, List.foldl, Act.put, List.setIfInBounds_toArray, List.set_cons_zero, List.set_cons_succ]
  clear f
  generalize hX : nv 4294967296 l = X at *
  generalize hY : nv 4294967296 m = Y at *
  have HX := Lib.hid hX
  have HY := Lib.hid hY
  clear hX hY
  go_wp2_with fail
  refine HOR.out.mono ?_
  rintro e w3 ⟨rfl, hb3⟩
  have B3 := Lib.hid hb3
  have HR3 : Hid (w3.heap[w.heap.size + 2]? = some (.cells #[.slice none 0 0] 24 (0, 0))) := by show _ = _; rw [hb3.block _ (lt_of_block HR2.out)]; exact HR2.out
  clear hb3 HOR
  by_cases hxy : X < Y
  · have e1 : ord X Y = -1 := by unfold ord; rw [if_pos hxy]
    have e2 : decide (Y ≤ X) = false := decide_eq_false (by omega)
    have e3 : X - Y = 0 := by omega
    rw [e1]
    have E2 := Lib.hid e2
    have E3 := Lib.hid e3
    have hcr := cell_of_one HR3.out
    have hfr := free_of_one HR3.out
    clear e1 e2 e3 hxy HLE
    go_wp2
    refine bodyPost_ret (v := .tuple #[.agg #[.slice none 0 0], .bool false]) (by simp [results, Tryz.results10, go_sem, hcr]) rfl ?_
    exact ⟨_, by rw [HX.out, HY.out, E2.out], by rw [HX.out, HY.out, E3.out]; exact fnat_nil0 _ _, (bl_tr HB.out B3.out).setCell (show w.heap.size ≤ w.heap.size + 1 + 1 by omega) _⟩
  · have e1 : ord X Y = 0 ∨ ord X Y = 1 := by unfold ord; rw [if_neg hxy]; split <;> simp
    have e2 : decide (Y ≤ X) = true := decide_eq_true (by omega)
    have E2 := Lib.hid e2
    have e4 : ¬ ord X Y < 0 := by omega
    generalize ord X Y = o at *
    have HL := Lib.hid (HLE.out w3 B3.out (by omega))
    clear e1 e2 HLE
    go_wp2_with fail
    refine HL.out.mono ?_
    rintro e w4 ⟨q4, c4, N4, rfl, ⟨ho, hd, hr, hv⟩, hb4⟩
    obtain ⟨q', c', e1, _, _, hn2, hs4, _⟩ := own_form ho
    simp only [Value.slice.injEq, true_and] at e1
    obtain ⟨rfl, rfl⟩ := e1
    have hlen : N4.length ≤ 32000000 + 1 := by
      by_cases h0 : N4 = []
      · subst h0; simp
      · have h1 := right_ge 10 N4 hr h0
        have h2 := nv_lt 10 NX HJ5.out.2.1
        rw [HJ5.out.2.2] at h2
        rw [hv] at h1
        have h3 := (Nat.pow_lt_pow_iff_right (by omega : 1 < 10)).1 (show 10 ^ (N4.length - 1) < 10 ^ NX.length by omega)
        have := HJ5.out.1
        omega
    have hout := out_any q4 c4 N4 w4 hs4 hn2 hd hr (by omega)
    rw [hv] at hout
    have HO := Lib.hid hout
    have B4 := Lib.hid (bl_tr B3.out hb4)
    clear ho hd hr hv hn2 hs4 hout hb4 HL hlen
    go_wp2_with fail
    refine HO.out.mono ?_
    rintro e w5 ⟨v, rfl, hf, hb5⟩
    have g5 := bl_tr B4.out hb5
    have hR5 : w5.heap[w.heap.size + 2]? = some (.cells #[.slice none 0 0] 24 (0, 0)) := by rw [g5.block _ (lt_of_block HR2.out)]; exact HR2.out
    have hcr := cell_of_one hR5
    have hfr := free_of_one hR5
    have HR5 := Lib.hid hR5
    have HF := Lib.hid hf
    have HG5 := Lib.hid (bl_tr HB.out g5)
    have HSZ : Hid (w.heap.size ≤ w4.heap.size) := Nat.le_trans HB.out.size B4.out.size
    clear hR5 hf hb5 g5 HO
    obtain ⟨rp, rc, rl, hv, _⟩ := HF.out
    subst hv
    go_wp2
    refine bodyPost_ret (v := .tuple #[.agg #[.slice rp rl.length rc], .bool true]) (by simp [results, Tryz.results10, go_sem, hcr]) rfl ?_
    exact ⟨_, by rw [HX.out, HY.out, E2.out], by rw [HX.out, HY.out]; exact (HF.out.setCell HR5.out (by decide) _).down HSZ.out, HG5.out.setCell (show w.heap.size ≤ w.heap.size + 1 + 1 by omega) _⟩
end Go.Proofs.YtcahnkocfbcchaaGreatDoor
