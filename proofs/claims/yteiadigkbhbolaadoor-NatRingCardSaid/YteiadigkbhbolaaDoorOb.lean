/- NatRing: its sixth region. -/
import Derived.Test.YteiadigkbhbolaaDoorOa
namespace Go.Proofs.YteiadigkbhbolaaDoor
open Go.RowKit Tnd

def ring5Ops : Array Oper := #[{ dst := some 24, op := Op.load 25 (Operand.tmp 3), type := 25, pos := "outright.go:18", after := #[], guard := none },
  { dst := some 25, op := Op.load 25 (Operand.tmp 4), type := 25, pos := "outright.go:18", after := #[], guard := none },
  { dst := some 26, op := Op.load 25 (Operand.tmp 5), type := 25, pos := "outright.go:18", after := #[], guard := none },
  { dst := some 27, op := Op.buildSlice 32 3 #[(0, Operand.tmp 24), (1, Operand.tmp 25), (2, Operand.tmp 26)], type := 32, pos := "outright.go:18", after := #[{ on := 0, ground := Ground.data }, { on := 1, ground := Ground.data }, { on := 2, ground := Ground.data }], guard := none },
  { dst := some 28, op := Op.call { callee := Callee.value (Operand.func 11), args := #[Operand.tmp 27], argTypes := #[32] }, type := 25, pos := "outright.go:18", after := #[{ on := 3, ground := Ground.data }], guard := none },
  { dst := some 29, op := Op.load 25 (Operand.tmp 3), type := 25, pos := "outright.go:18", after := #[], guard := none },
  { dst := some 30, op := Op.load 25 (Operand.tmp 4), type := 25, pos := "outright.go:18", after := #[], guard := none },
  { dst := some 31, op := Op.load 25 (Operand.tmp 5), type := 25, pos := "outright.go:18", after := #[], guard := none },
  { dst := some 32, op := Op.buildSlice 32 3 #[(0, Operand.tmp 29), (1, Operand.tmp 30), (2, Operand.tmp 31)], type := 32, pos := "outright.go:18", after := #[{ on := 5, ground := Ground.data }, { on := 6, ground := Ground.data }, { on := 7, ground := Ground.data }], guard := none },
  { dst := some 33, op := Op.call { callee := Callee.value (Operand.func 12), args := #[Operand.tmp 32], argTypes := #[32] }, type := 25, pos := "outright.go:18", after := #[{ on := 8, ground := Ground.data }, { on := 4, ground := Ground.chain }], guard := none },
  { dst := some 7, op := Op.alloc 25, type := 0, pos := "outright.go:18", after := #[], guard := none },
  { dst := some 8, op := Op.alloc 25, type := 0, pos := "outright.go:18", after := #[], guard := none },
  { dst := none, op := Op.store 25 (Operand.tmp 7) (Operand.tmp 28), type := 0, pos := "outright.go:18", after := #[{ on := 10, ground := Ground.data }, { on := 4, ground := Ground.data }, { on := 9, ground := Ground.chain }, { on := 0, ground := Ground.phase }, { on := 1, ground := Ground.phase }, { on := 2, ground := Ground.phase }, { on := 3, ground := Ground.phase }, { on := 4, ground := Ground.phase }, { on := 5, ground := Ground.textOnly Departure.lateStores }, { on := 6, ground := Ground.textOnly Departure.lateStores }, { on := 7, ground := Ground.textOnly Departure.lateStores }, { on := 8, ground := Ground.textOnly Departure.lateStores }, { on := 9, ground := Ground.textOnly Departure.lateStoresUnsure }, { on := 10, ground := Ground.phase }, { on := 11, ground := Ground.phase }], guard := none },
  { dst := none, op := Op.store 25 (Operand.tmp 8) (Operand.tmp 33), type := 0, pos := "outright.go:18", after := #[{ on := 11, ground := Ground.data }, { on := 9, ground := Ground.data }, { on := 12, ground := Ground.chain }, { on := 0, ground := Ground.phase }, { on := 1, ground := Ground.phase }, { on := 2, ground := Ground.phase }, { on := 3, ground := Ground.phase }, { on := 4, ground := Ground.phase }, { on := 5, ground := Ground.phase }, { on := 6, ground := Ground.phase }, { on := 7, ground := Ground.phase }, { on := 8, ground := Ground.phase }, { on := 9, ground := Ground.phase }, { on := 10, ground := Ground.phase }, { on := 11, ground := Ground.phase }, { on := 12, ground := Ground.phase }], guard := none }]
def ring5Pre : Array Bool := #[true, true, true, true, true, true, true, true, true, true, true, true, false, false]
def ring5K (A B C : Nat) : Nat → Kd
  | 0 => .num A
  | 1 => .num B
  | 2 => .num C
  | 3 => .row [A, B, C]
  | 4 => .fre (sumn [A, B, C])
  | 5 => .num A
  | 6 => .num B
  | 7 => .num C
  | 8 => .row [A, B, C]
  | 9 => .fre (prodn [A, B, C])
  | 10 => .ptr
  | 11 => .ptr
  | _ => .val undef
theorem ring5_slots (f : Nat → Value) : slotsOf ring5Ops ring5Pre f = [(24, f 0), (25, f 1), (26, f 2), (27, f 3), (28, f 4), (29, f 5), (30, f 6), (31, f 7), (32, f 8), (33, f 9), (7, f 10), (8, f 11)] := by kernel_rfl
set_option maxHeartbeats 6400000 in
set_option maxRecDepth 100000 in
theorem ring5_wp {Q : Exit → Act → World → Prop} {a0 : Act} {w : World} {z : Nat} (A B C : Nat) (hz : z ≤ w.drew.heap.size) (hsize : a0.tmps.size = 191) (b3 b4 b5 : Nat) (h3 : a0.tmps[3]? = some (.pointer (some ⟨b3, 0, none⟩))) (h4 : a0.tmps[4]? = some (.pointer (some ⟨b4, 0, none⟩))) (h5 : a0.tmps[5]? = some (.pointer (some ⟨b5, 0, none⟩)))
    (C3 : Held z w.drew b3 (.num A)) (C4 : Held z w.drew b4 (.num B)) (C5 : Held z w.drew b5 (.num C)) (ka : Nat) (hka : ka ≤ 100000) (HA : sumn [A, B, C] < 2 ^ ka) (HB : prodn [A, B, C] < 2 ^ ka)
    (fin : ∀ (f : Nat → Value) (y : World), (∀ j, j < 14 → ring5Pre.getD j false = true → Kd.ok z (ring5K A B C j) (f j) y) → Below w.drew.heap.size w.drew y → f 10 ≠ f 11 → wpAny Tryd.prog .any ring5Ops Q 2 ring5Pre (putL a0 [(24, f 0), (25, f 1), (26, f 2), (27, f 3), (28, f 4), (29, f 5), (30, f 6), (31, f 7), (32, f 8), (33, f 9), (7, f 10), (8, f 11)]) y) (id : Nat) :
    (Code.region id ring5Ops true).wp Tryd.prog Q a0 w := by
  refine wp_region_invH ring5Pre (fun j => Kd.ok z (ring5K A B C j)) (fun done f _ => Two 10 11 done f) (fun x y => Below x.heap.size x y) 12 2 (by kernel_rfl) (by kernel_rfl) (by rw [hsize]; kernel_rfl) (by kernel_rfl) (by kernel_rfl) (Below.refl _ _) (fun _ _ _ h1 h2 => bl_trans h1 h2) (fun _ _ _ _ h1 h2 => Kd.below h1 h2) ?_ (fun f y h1 h2 h3 => by rw [ring5_slots]; exact fin f y h1 h2 (h3 (by decide) (by decide))) (fun h _ => absurd h (by decide))
  intro i o ho hp done f a x hR hbase hdeps hH hdsz hgood K hK0
  have hi : i < 14 := by
    rcases Nat.lt_or_ge i 14 with h | h
    · exact h
    · have : ring5Ops.size ≤ i := h
      rw [Array.getElem?_eq_none this] at ho; cases ho
  have hzx : z ≤ x.heap.size := Nat.le_trans hz hR.size
  have dep : ∀ j, (o.after.any fun e => Region.binds .any e && e.on == j) = true → (∀ s, slotOf ring5Ops j = some s → a.tmps[s]? = some (f j)) ∧ Kd.ok z (ring5K A B C j) (f j) x := by
    intro j h
    obtain ⟨e, he, h2⟩ := Array.any_eq_true'.1 h
    simp only [Bool.and_eq_true, beq_iff_eq] at h2
    obtain ⟨h3, rfl⟩ := h2
    exact hdeps e he h3
  have bas : ∀ s, ((List.range ring5Ops.size).all fun j => slotOf ring5Ops j != some s) = true → a.tmps[s]? = a0.tmps[s]? := by
    intro s h
    refine hbase s fun j hj _ e => ?_
    have h2 := (List.all_eq_true.1 h) j (List.mem_range.2 hj)
    rw [e] at h2; simp at h2
  match i, hi with
  | 0, _ =>
    have hK : ∀ u y, Kd.ok z (ring5K A B C 0) u y → Below x.heap.size x y → K (a.put o.dst u) y := fun u y h1 h2 => hK0 u y h1 h2 (hH.keep (by decide) (by decide))
    obtain rfl : { dst := some 24, op := Op.load 25 (Operand.tmp 3), type := 25, pos := "outright.go:18", after := #[], guard := none } = o := Option.some.inj (show ring5Ops[0]? = some _ from ho)
    have qb3 := (bas 3 (by kernel_rfl)).trans h3
    have eb3 := eval_at qb3
    obtain ⟨xc, hc, hk⟩ := C3.below hR
    refine inv_val (G := Kd.ok z (ring5K A B C 0)) (R := fun x y => Below x.heap.size x y) (wanted_none rfl) (v := .agg #[xc]) (w2 := x) (by simp only [execOp, eb3]; go_simp) hK hk (Below.refl _ _)
  | 1, _ =>
    have hK : ∀ u y, Kd.ok z (ring5K A B C 1) u y → Below x.heap.size x y → K (a.put o.dst u) y := fun u y h1 h2 => hK0 u y h1 h2 (hH.keep (by decide) (by decide))
    obtain rfl : { dst := some 25, op := Op.load 25 (Operand.tmp 4), type := 25, pos := "outright.go:18", after := #[], guard := none } = o := Option.some.inj (show ring5Ops[1]? = some _ from ho)
    have qb4 := (bas 4 (by kernel_rfl)).trans h4
    have eb4 := eval_at qb4
    obtain ⟨xc, hc, hk⟩ := C4.below hR
    refine inv_val (G := Kd.ok z (ring5K A B C 1)) (R := fun x y => Below x.heap.size x y) (wanted_none rfl) (v := .agg #[xc]) (w2 := x) (by simp only [execOp, eb4]; go_simp) hK hk (Below.refl _ _)
  | 2, _ =>
    have hK : ∀ u y, Kd.ok z (ring5K A B C 2) u y → Below x.heap.size x y → K (a.put o.dst u) y := fun u y h1 h2 => hK0 u y h1 h2 (hH.keep (by decide) (by decide))
    obtain rfl : { dst := some 26, op := Op.load 25 (Operand.tmp 5), type := 25, pos := "outright.go:18", after := #[], guard := none } = o := Option.some.inj (show ring5Ops[2]? = some _ from ho)
    have qb5 := (bas 5 (by kernel_rfl)).trans h5
    have eb5 := eval_at qb5
    obtain ⟨xc, hc, hk⟩ := C5.below hR
    refine inv_val (G := Kd.ok z (ring5K A B C 2)) (R := fun x y => Below x.heap.size x y) (wanted_none rfl) (v := .agg #[xc]) (w2 := x) (by simp only [execOp, eb5]; go_simp) hK hk (Below.refl _ _)
  | 3, _ =>
    have hK : ∀ u y, Kd.ok z (ring5K A B C 3) u y → Below x.heap.size x y → K (a.put o.dst u) y := fun u y h1 h2 => hK0 u y h1 h2 (hH.keep (by decide) (by decide))
    obtain rfl : { dst := some 27, op := Op.buildSlice 32 3 #[(0, Operand.tmp 24), (1, Operand.tmp 25), (2, Operand.tmp 26)], type := 32, pos := "outright.go:18", after := #[{ on := 0, ground := Ground.data }, { on := 1, ground := Ground.data }, { on := 2, ground := Ground.data }], guard := none } = o := Option.some.inj (show ring5Ops[3]? = some _ from ho)
    obtain ⟨t0, g0⟩ := dep 0 (by kernel_rfl)
    have q0 := t0 24 (by rfl)
    have e0 := eval_at q0
    obtain ⟨t1, g1⟩ := dep 1 (by kernel_rfl)
    have q1 := t1 25 (by rfl)
    have e1 := eval_at q1
    obtain ⟨t2, g2⟩ := dep 2 (by kernel_rfl)
    have q2 := t2 26 (by rfl)
    have e2 := eval_at q2
    obtain ⟨v, w2, hr, hrow, hb⟩ := st_build3 g0 g1 g2
    refine inv_val (G := Kd.ok z (ring5K A B C 3)) (R := fun x y => Below x.heap.size x y) (wanted_none rfl) (v := v) (w2 := w2) (by simp [execOp, e0, e1, e2, hr]) hK hrow hb
  | 4, _ =>
    have hK : ∀ u y, Kd.ok z (ring5K A B C 4) u y → Below x.heap.size x y → K (a.put o.dst u) y := fun u y h1 h2 => hK0 u y h1 h2 (hH.keep (by decide) (by decide))
    obtain rfl : { dst := some 28, op := Op.call { callee := Callee.value (Operand.func 11), args := #[Operand.tmp 27], argTypes := #[32] }, type := 25, pos := "outright.go:18", after := #[{ on := 3, ground := Ground.data }], guard := none } = o := Option.some.inj (show ring5Ops[4]? = some _ from ho)
    obtain ⟨t3, g3⟩ := dep 3 (by kernel_rfl)
    have q3 := t3 27 (by rfl)
    have e3 := eval_at q3
    refine inv_call (G := Kd.ok z (ring5K A B C 4)) (R := fun x y => Below x.heap.size x y) (wanted_none rfl) (F := 11) (args := #[f 3]) (by simp [go_sem, q3]) hK ?_
    exact k_add g3 (by simp) HA hka hzx
  | 5, _ =>
    have hK : ∀ u y, Kd.ok z (ring5K A B C 5) u y → Below x.heap.size x y → K (a.put o.dst u) y := fun u y h1 h2 => hK0 u y h1 h2 (hH.keep (by decide) (by decide))
    obtain rfl : { dst := some 29, op := Op.load 25 (Operand.tmp 3), type := 25, pos := "outright.go:18", after := #[], guard := none } = o := Option.some.inj (show ring5Ops[5]? = some _ from ho)
    have qb3 := (bas 3 (by kernel_rfl)).trans h3
    have eb3 := eval_at qb3
    obtain ⟨xc, hc, hk⟩ := C3.below hR
    refine inv_val (G := Kd.ok z (ring5K A B C 5)) (R := fun x y => Below x.heap.size x y) (wanted_none rfl) (v := .agg #[xc]) (w2 := x) (by simp only [execOp, eb3]; go_simp) hK hk (Below.refl _ _)
  | 6, _ =>
    have hK : ∀ u y, Kd.ok z (ring5K A B C 6) u y → Below x.heap.size x y → K (a.put o.dst u) y := fun u y h1 h2 => hK0 u y h1 h2 (hH.keep (by decide) (by decide))
    obtain rfl : { dst := some 30, op := Op.load 25 (Operand.tmp 4), type := 25, pos := "outright.go:18", after := #[], guard := none } = o := Option.some.inj (show ring5Ops[6]? = some _ from ho)
    have qb4 := (bas 4 (by kernel_rfl)).trans h4
    have eb4 := eval_at qb4
    obtain ⟨xc, hc, hk⟩ := C4.below hR
    refine inv_val (G := Kd.ok z (ring5K A B C 6)) (R := fun x y => Below x.heap.size x y) (wanted_none rfl) (v := .agg #[xc]) (w2 := x) (by simp only [execOp, eb4]; go_simp) hK hk (Below.refl _ _)
  | 7, _ =>
    have hK : ∀ u y, Kd.ok z (ring5K A B C 7) u y → Below x.heap.size x y → K (a.put o.dst u) y := fun u y h1 h2 => hK0 u y h1 h2 (hH.keep (by decide) (by decide))
    obtain rfl : { dst := some 31, op := Op.load 25 (Operand.tmp 5), type := 25, pos := "outright.go:18", after := #[], guard := none } = o := Option.some.inj (show ring5Ops[7]? = some _ from ho)
    have qb5 := (bas 5 (by kernel_rfl)).trans h5
    have eb5 := eval_at qb5
    obtain ⟨xc, hc, hk⟩ := C5.below hR
    refine inv_val (G := Kd.ok z (ring5K A B C 7)) (R := fun x y => Below x.heap.size x y) (wanted_none rfl) (v := .agg #[xc]) (w2 := x) (by simp only [execOp, eb5]; go_simp) hK hk (Below.refl _ _)
  | 8, _ =>
    have hK : ∀ u y, Kd.ok z (ring5K A B C 8) u y → Below x.heap.size x y → K (a.put o.dst u) y := fun u y h1 h2 => hK0 u y h1 h2 (hH.keep (by decide) (by decide))
    obtain rfl : { dst := some 32, op := Op.buildSlice 32 3 #[(0, Operand.tmp 29), (1, Operand.tmp 30), (2, Operand.tmp 31)], type := 32, pos := "outright.go:18", after := #[{ on := 5, ground := Ground.data }, { on := 6, ground := Ground.data }, { on := 7, ground := Ground.data }], guard := none } = o := Option.some.inj (show ring5Ops[8]? = some _ from ho)
    obtain ⟨t5, g5⟩ := dep 5 (by kernel_rfl)
    have q5 := t5 29 (by rfl)
    have e5 := eval_at q5
    obtain ⟨t6, g6⟩ := dep 6 (by kernel_rfl)
    have q6 := t6 30 (by rfl)
    have e6 := eval_at q6
    obtain ⟨t7, g7⟩ := dep 7 (by kernel_rfl)
    have q7 := t7 31 (by rfl)
    have e7 := eval_at q7
    obtain ⟨v, w2, hr, hrow, hb⟩ := st_build3 g5 g6 g7
    refine inv_val (G := Kd.ok z (ring5K A B C 8)) (R := fun x y => Below x.heap.size x y) (wanted_none rfl) (v := v) (w2 := w2) (by simp [execOp, e5, e6, e7, hr]) hK hrow hb
  | 9, _ =>
    have hK : ∀ u y, Kd.ok z (ring5K A B C 9) u y → Below x.heap.size x y → K (a.put o.dst u) y := fun u y h1 h2 => hK0 u y h1 h2 (hH.keep (by decide) (by decide))
    obtain rfl : { dst := some 33, op := Op.call { callee := Callee.value (Operand.func 12), args := #[Operand.tmp 32], argTypes := #[32] }, type := 25, pos := "outright.go:18", after := #[{ on := 8, ground := Ground.data }, { on := 4, ground := Ground.chain }], guard := none } = o := Option.some.inj (show ring5Ops[9]? = some _ from ho)
    obtain ⟨t8, g8⟩ := dep 8 (by kernel_rfl)
    have q8 := t8 32 (by rfl)
    have e8 := eval_at q8
    refine inv_call (G := Kd.ok z (ring5K A B C 9)) (R := fun x y => Below x.heap.size x y) (wanted_none rfl) (F := 12) (args := #[f 8]) (by simp [go_sem, q8]) hK ?_
    exact k_mul g8 (by simp) HB hka hzx
  | 10, _ =>
    obtain rfl : { dst := some 7, op := Op.alloc 25, type := 0, pos := "outright.go:18", after := #[], guard := none } = o := Option.some.inj (show ring5Ops[10]? = some _ from ho)
    obtain ⟨hp2, hb2⟩ := st_alloc x z hzx
    refine inv_val (G := fun u y => Kd.ok z (ring5K A B C 10) u y ∧ u = .pointer (some ⟨x.heap.size, 0, none⟩)) (R := fun x y => Below x.heap.size x y) (wanted_none rfl) (v := .pointer (some ⟨x.heap.size, 0, none⟩)) (w2 := x.alloc (.cells #[.slice none 0 0] 25)) (by simp [execOp, run_alloc x]) (fun u y h1 h2 => hK0 u y h1.1 h2 ?_) ⟨hp2, rfl⟩ hb2
    rw [h1.2]
    exact Two.fst (by decide) (fun hd => ptr_new (hgood 11 (by decide) (by decide) (by rw [getD_flip (by rw [hdsz]; decide) true false]; exact hd)))
  | 11, _ =>
    obtain rfl : { dst := some 8, op := Op.alloc 25, type := 0, pos := "outright.go:18", after := #[], guard := none } = o := Option.some.inj (show ring5Ops[11]? = some _ from ho)
    obtain ⟨hp2, hb2⟩ := st_alloc x z hzx
    refine inv_val (G := fun u y => Kd.ok z (ring5K A B C 11) u y ∧ u = .pointer (some ⟨x.heap.size, 0, none⟩)) (R := fun x y => Below x.heap.size x y) (wanted_none rfl) (v := .pointer (some ⟨x.heap.size, 0, none⟩)) (w2 := x.alloc (.cells #[.slice none 0 0] 25)) (by simp [execOp, run_alloc x]) (fun u y h1 h2 => hK0 u y h1.1 h2 ?_) ⟨hp2, rfl⟩ hb2
    rw [h1.2]
    exact Two.snd (by decide) (fun hd => ptr_new (hgood 10 (by decide) (by decide) (by rw [getD_flip (by rw [hdsz]; decide) true false]; exact hd)))
  | 12, _ => exact absurd (show ring5Pre.getD 12 false = true from hp) (by decide)
  | 13, _ => exact absurd (show ring5Pre.getD 13 false = true from hp) (by decide)
def ring6Ops : Array Oper := #[{ dst := some 34, op := Op.load 25 (Operand.tmp 7), type := 25, pos := "outright.go:19", after := #[], guard := none },
  { dst := some 35, op := Op.load 25 (Operand.tmp 8), type := 25, pos := "outright.go:19", after := #[], guard := none },
  { dst := some 36, op := Op.call { callee := Callee.value (Operand.func 11), args := #[Operand.const (Value.slice none 0 0)], argTypes := #[32] }, type := 25, pos := "outright.go:19", after := #[], guard := none },
  { dst := some 37, op := Op.call { callee := Callee.value (Operand.func 12), args := #[Operand.const (Value.slice none 0 0)], argTypes := #[32] }, type := 25, pos := "outright.go:19", after := #[{ on := 2, ground := Ground.chain }], guard := none },
  { dst := some 38, op := Op.load 25 (Operand.tmp 3), type := 25, pos := "outright.go:19", after := #[], guard := none },
  { dst := some 39, op := Op.buildSlice 32 1 #[(0, Operand.tmp 38)], type := 32, pos := "outright.go:19", after := #[{ on := 4, ground := Ground.data }], guard := none },
  { dst := some 40, op := Op.call { callee := Callee.value (Operand.func 11), args := #[Operand.tmp 39], argTypes := #[32] }, type := 25, pos := "outright.go:19", after := #[{ on := 5, ground := Ground.data }, { on := 3, ground := Ground.chain }], guard := none },
  { dst := some 41, op := Op.load 25 (Operand.tmp 4), type := 25, pos := "outright.go:19", after := #[], guard := none },
  { dst := some 42, op := Op.buildSlice 32 1 #[(0, Operand.tmp 41)], type := 32, pos := "outright.go:19", after := #[{ on := 7, ground := Ground.data }], guard := none },
  { dst := some 43, op := Op.call { callee := Callee.value (Operand.func 12), args := #[Operand.tmp 42], argTypes := #[32] }, type := 25, pos := "outright.go:19", after := #[{ on := 8, ground := Ground.data }, { on := 6, ground := Ground.chain }], guard := none },
  { dst := some 44, op := Op.buildSlice 32 6 #[(0, Operand.tmp 34), (1, Operand.tmp 35), (2, Operand.tmp 36), (3, Operand.tmp 37), (4, Operand.tmp 40), (5, Operand.tmp 43)], type := 32, pos := "outright.go:19", after := #[{ on := 0, ground := Ground.data }, { on := 1, ground := Ground.data }, { on := 2, ground := Ground.data }, { on := 3, ground := Ground.data }, { on := 6, ground := Ground.data }, { on := 9, ground := Ground.data }], guard := none },
  { dst := some 9, op := Op.assign (Operand.tmp 44), type := 32, pos := "outright.go:19", after := #[{ on := 10, ground := Ground.data }, { on := 9, ground := Ground.chain }, { on := 0, ground := Ground.phase }, { on := 1, ground := Ground.phase }, { on := 2, ground := Ground.phase }, { on := 3, ground := Ground.phase }, { on := 4, ground := Ground.phase }, { on := 5, ground := Ground.phase }, { on := 6, ground := Ground.phase }, { on := 7, ground := Ground.phase }, { on := 8, ground := Ground.phase }, { on := 9, ground := Ground.phase }, { on := 10, ground := Ground.phase }], guard := none }]
def ring6Pre : Array Bool := #[true, true, true, true, true, true, true, true, true, true, true, true]
def ring6K (A B C : Nat) : Nat → Kd
  | 0 => .fre (sumn [A, B, C])
  | 1 => .fre (prodn [A, B, C])
  | 2 => .fre 0
  | 3 => .fre 1
  | 4 => .num A
  | 5 => .row [A]
  | 6 => .fre (sumn [A])
  | 7 => .num B
  | 8 => .row [B]
  | 9 => .fre (prodn [B])
  | 10 => .frow [sumn [A, B, C], prodn [A, B, C], 0, 1, sumn [A], prodn [B]]
  | 11 => .frow [sumn [A, B, C], prodn [A, B, C], 0, 1, sumn [A], prodn [B]]
  | _ => .val undef
theorem ring6_slots (f : Nat → Value) : slotsOf ring6Ops ring6Pre f = [(34, f 0), (35, f 1), (36, f 2), (37, f 3), (38, f 4), (39, f 5), (40, f 6), (41, f 7), (42, f 8), (43, f 9), (44, f 10), (9, f 11)] := by kernel_rfl
set_option maxHeartbeats 6400000 in
set_option maxRecDepth 100000 in
theorem ring6_wp {Q : Exit → Act → World → Prop} {a0 : Act} {w : World} {z : Nat} (A B C : Nat) (hz : z ≤ w.drew.heap.size) (hsize : a0.tmps.size = 191) (b3 b4 b7 b8 : Nat) (h3 : a0.tmps[3]? = some (.pointer (some ⟨b3, 0, none⟩))) (h4 : a0.tmps[4]? = some (.pointer (some ⟨b4, 0, none⟩))) (h7 : a0.tmps[7]? = some (.pointer (some ⟨b7, 0, none⟩))) (h8 : a0.tmps[8]? = some (.pointer (some ⟨b8, 0, none⟩)))
    (C3 : Held z w.drew b3 (.num A)) (C4 : Held z w.drew b4 (.num B)) (C7 : Held z w.drew b7 (.fre (sumn [A, B, C]))) (C8 : Held z w.drew b8 (.fre (prodn [A, B, C]))) (ka : Nat) (hka : ka ≤ 100000) (HA : sumn [A] < 2 ^ ka) (HB : prodn [B] < 2 ^ ka)
    (fin : ∀ (f : Nat → Value) (y : World), (∀ j, j < 12 → ring6Pre.getD j false = true → Kd.ok z (ring6K A B C j) (f j) y) → Below w.drew.heap.size w.drew y → Q .normal (putL a0 [(34, f 0), (35, f 1), (36, f 2), (37, f 3), (38, f 4), (39, f 5), (40, f 6), (41, f 7), (42, f 8), (43, f 9), (44, f 10), (9, f 11)]) y) (id : Nat) :
    (Code.region id ring6Ops true).wp Tryd.prog Q a0 w := by
  refine wp_region_inv ring6Pre (fun j => Kd.ok z (ring6K A B C j)) (fun x y => Below x.heap.size x y) 12 0 (by kernel_rfl) (by kernel_rfl) (by rw [hsize]; kernel_rfl) (by kernel_rfl) (by kernel_rfl) (Below.refl _ _) (fun _ _ _ h1 h2 => bl_trans h1 h2) (fun _ _ _ _ h1 h2 => Kd.below h1 h2) ?_ (fun f y h1 h2 => by rw [ring6_slots]; exact any_end (by kernel_rfl) (fin f y h1 h2) 0)
  intro i o ho hp f a x hR hbase hdeps K hK
  have hi : i < 12 := by
    rcases Nat.lt_or_ge i 12 with h | h
    · exact h
    · have : ring6Ops.size ≤ i := h
      rw [Array.getElem?_eq_none this] at ho; cases ho
  have hzx : z ≤ x.heap.size := Nat.le_trans hz hR.size
  have dep : ∀ j, (o.after.any fun e => Region.binds .any e && e.on == j) = true → (∀ s, slotOf ring6Ops j = some s → a.tmps[s]? = some (f j)) ∧ Kd.ok z (ring6K A B C j) (f j) x := by
    intro j h
    obtain ⟨e, he, h2⟩ := Array.any_eq_true'.1 h
    simp only [Bool.and_eq_true, beq_iff_eq] at h2
    obtain ⟨h3, rfl⟩ := h2
    exact hdeps e he h3
  have bas : ∀ s, ((List.range ring6Ops.size).all fun j => slotOf ring6Ops j != some s) = true → a.tmps[s]? = a0.tmps[s]? := by
    intro s h
    refine hbase s fun j hj _ e => ?_
    have h2 := (List.all_eq_true.1 h) j (List.mem_range.2 hj)
    rw [e] at h2; simp at h2
  match i, hi with
  | 0, _ =>
    obtain rfl : { dst := some 34, op := Op.load 25 (Operand.tmp 7), type := 25, pos := "outright.go:19", after := #[], guard := none } = o := Option.some.inj (show ring6Ops[0]? = some _ from ho)
    have qb7 := (bas 7 (by kernel_rfl)).trans h7
    have eb7 := eval_at qb7
    obtain ⟨xc, hc, hk⟩ := C7.below hR
    refine inv_val (G := Kd.ok z (ring6K A B C 0)) (R := fun x y => Below x.heap.size x y) (wanted_none rfl) (v := .agg #[xc]) (w2 := x) (by simp only [execOp, eb7]; go_simp) hK hk (Below.refl _ _)
  | 1, _ =>
    obtain rfl : { dst := some 35, op := Op.load 25 (Operand.tmp 8), type := 25, pos := "outright.go:19", after := #[], guard := none } = o := Option.some.inj (show ring6Ops[1]? = some _ from ho)
    have qb8 := (bas 8 (by kernel_rfl)).trans h8
    have eb8 := eval_at qb8
    obtain ⟨xc, hc, hk⟩ := C8.below hR
    refine inv_val (G := Kd.ok z (ring6K A B C 1)) (R := fun x y => Below x.heap.size x y) (wanted_none rfl) (v := .agg #[xc]) (w2 := x) (by simp only [execOp, eb8]; go_simp) hK hk (Below.refl _ _)
  | 2, _ =>
    obtain rfl : { dst := some 36, op := Op.call { callee := Callee.value (Operand.func 11), args := #[Operand.const (Value.slice none 0 0)], argTypes := #[32] }, type := 25, pos := "outright.go:19", after := #[], guard := none } = o := Option.some.inj (show ring6Ops[2]? = some _ from ho)
    refine inv_call (G := Kd.ok z (ring6K A B C 2)) (R := fun x y => Below x.heap.size x y) (wanted_none rfl) (F := 11) (args := #[(Value.slice none 0 0)]) (by simp [go_sem]) hK ?_
    exact k_add0 hzx
  | 3, _ =>
    obtain rfl : { dst := some 37, op := Op.call { callee := Callee.value (Operand.func 12), args := #[Operand.const (Value.slice none 0 0)], argTypes := #[32] }, type := 25, pos := "outright.go:19", after := #[{ on := 2, ground := Ground.chain }], guard := none } = o := Option.some.inj (show ring6Ops[3]? = some _ from ho)
    refine inv_call (G := Kd.ok z (ring6K A B C 3)) (R := fun x y => Below x.heap.size x y) (wanted_none rfl) (F := 12) (args := #[(Value.slice none 0 0)]) (by simp [go_sem]) hK ?_
    exact k_mul0 hzx
  | 4, _ =>
    obtain rfl : { dst := some 38, op := Op.load 25 (Operand.tmp 3), type := 25, pos := "outright.go:19", after := #[], guard := none } = o := Option.some.inj (show ring6Ops[4]? = some _ from ho)
    have qb3 := (bas 3 (by kernel_rfl)).trans h3
    have eb3 := eval_at qb3
    obtain ⟨xc, hc, hk⟩ := C3.below hR
    refine inv_val (G := Kd.ok z (ring6K A B C 4)) (R := fun x y => Below x.heap.size x y) (wanted_none rfl) (v := .agg #[xc]) (w2 := x) (by simp only [execOp, eb3]; go_simp) hK hk (Below.refl _ _)
  | 5, _ =>
    obtain rfl : { dst := some 39, op := Op.buildSlice 32 1 #[(0, Operand.tmp 38)], type := 32, pos := "outright.go:19", after := #[{ on := 4, ground := Ground.data }], guard := none } = o := Option.some.inj (show ring6Ops[5]? = some _ from ho)
    obtain ⟨t4, g4⟩ := dep 4 (by kernel_rfl)
    have q4 := t4 38 (by rfl)
    have e4 := eval_at q4
    obtain ⟨v, w2, hr, hrow, hb⟩ := st_build1 g4
    refine inv_val (G := Kd.ok z (ring6K A B C 5)) (R := fun x y => Below x.heap.size x y) (wanted_none rfl) (v := v) (w2 := w2) (by simp [execOp, e4, hr]) hK hrow hb
  | 6, _ =>
    obtain rfl : { dst := some 40, op := Op.call { callee := Callee.value (Operand.func 11), args := #[Operand.tmp 39], argTypes := #[32] }, type := 25, pos := "outright.go:19", after := #[{ on := 5, ground := Ground.data }, { on := 3, ground := Ground.chain }], guard := none } = o := Option.some.inj (show ring6Ops[6]? = some _ from ho)
    obtain ⟨t5, g5⟩ := dep 5 (by kernel_rfl)
    have q5 := t5 39 (by rfl)
    have e5 := eval_at q5
    refine inv_call (G := Kd.ok z (ring6K A B C 6)) (R := fun x y => Below x.heap.size x y) (wanted_none rfl) (F := 11) (args := #[f 5]) (by simp [go_sem, q5]) hK ?_
    exact k_add g5 (by simp) HA hka hzx
  | 7, _ =>
    obtain rfl : { dst := some 41, op := Op.load 25 (Operand.tmp 4), type := 25, pos := "outright.go:19", after := #[], guard := none } = o := Option.some.inj (show ring6Ops[7]? = some _ from ho)
    have qb4 := (bas 4 (by kernel_rfl)).trans h4
    have eb4 := eval_at qb4
    obtain ⟨xc, hc, hk⟩ := C4.below hR
    refine inv_val (G := Kd.ok z (ring6K A B C 7)) (R := fun x y => Below x.heap.size x y) (wanted_none rfl) (v := .agg #[xc]) (w2 := x) (by simp only [execOp, eb4]; go_simp) hK hk (Below.refl _ _)
  | 8, _ =>
    obtain rfl : { dst := some 42, op := Op.buildSlice 32 1 #[(0, Operand.tmp 41)], type := 32, pos := "outright.go:19", after := #[{ on := 7, ground := Ground.data }], guard := none } = o := Option.some.inj (show ring6Ops[8]? = some _ from ho)
    obtain ⟨t7, g7⟩ := dep 7 (by kernel_rfl)
    have q7 := t7 41 (by rfl)
    have e7 := eval_at q7
    obtain ⟨v, w2, hr, hrow, hb⟩ := st_build1 g7
    refine inv_val (G := Kd.ok z (ring6K A B C 8)) (R := fun x y => Below x.heap.size x y) (wanted_none rfl) (v := v) (w2 := w2) (by simp [execOp, e7, hr]) hK hrow hb
  | 9, _ =>
    obtain rfl : { dst := some 43, op := Op.call { callee := Callee.value (Operand.func 12), args := #[Operand.tmp 42], argTypes := #[32] }, type := 25, pos := "outright.go:19", after := #[{ on := 8, ground := Ground.data }, { on := 6, ground := Ground.chain }], guard := none } = o := Option.some.inj (show ring6Ops[9]? = some _ from ho)
    obtain ⟨t8, g8⟩ := dep 8 (by kernel_rfl)
    have q8 := t8 42 (by rfl)
    have e8 := eval_at q8
    refine inv_call (G := Kd.ok z (ring6K A B C 9)) (R := fun x y => Below x.heap.size x y) (wanted_none rfl) (F := 12) (args := #[f 8]) (by simp [go_sem, q8]) hK ?_
    exact k_mul g8 (by simp) HB hka hzx
  | 10, _ =>
    obtain rfl : { dst := some 44, op := Op.buildSlice 32 6 #[(0, Operand.tmp 34), (1, Operand.tmp 35), (2, Operand.tmp 36), (3, Operand.tmp 37), (4, Operand.tmp 40), (5, Operand.tmp 43)], type := 32, pos := "outright.go:19", after := #[{ on := 0, ground := Ground.data }, { on := 1, ground := Ground.data }, { on := 2, ground := Ground.data }, { on := 3, ground := Ground.data }, { on := 6, ground := Ground.data }, { on := 9, ground := Ground.data }], guard := none } = o := Option.some.inj (show ring6Ops[10]? = some _ from ho)
    obtain ⟨t0, g0⟩ := dep 0 (by kernel_rfl)
    have q0 := t0 34 (by rfl)
    have e0 := eval_at q0
    obtain ⟨t1, g1⟩ := dep 1 (by kernel_rfl)
    have q1 := t1 35 (by rfl)
    have e1 := eval_at q1
    obtain ⟨t2, g2⟩ := dep 2 (by kernel_rfl)
    have q2 := t2 36 (by rfl)
    have e2 := eval_at q2
    obtain ⟨t3, g3⟩ := dep 3 (by kernel_rfl)
    have q3 := t3 37 (by rfl)
    have e3 := eval_at q3
    obtain ⟨t6, g6⟩ := dep 6 (by kernel_rfl)
    have q6 := t6 40 (by rfl)
    have e6 := eval_at q6
    obtain ⟨t9, g9⟩ := dep 9 (by kernel_rfl)
    have q9 := t9 43 (by rfl)
    have e9 := eval_at q9
    obtain ⟨v, w2, hr, hrow, hb⟩ := st_build6 g0 g1 g2 g3 g6 g9
    refine inv_val (G := Kd.ok z (ring6K A B C 10)) (R := fun x y => Below x.heap.size x y) (wanted_none rfl) (v := v) (w2 := w2) (by simp [execOp, e0, e1, e2, e3, e6, e9, hr]) hK hrow hb
  | 11, _ =>
    obtain rfl : { dst := some 9, op := Op.assign (Operand.tmp 44), type := 32, pos := "outright.go:19", after := #[{ on := 10, ground := Ground.data }, { on := 9, ground := Ground.chain }, { on := 0, ground := Ground.phase }, { on := 1, ground := Ground.phase }, { on := 2, ground := Ground.phase }, { on := 3, ground := Ground.phase }, { on := 4, ground := Ground.phase }, { on := 5, ground := Ground.phase }, { on := 6, ground := Ground.phase }, { on := 7, ground := Ground.phase }, { on := 8, ground := Ground.phase }, { on := 9, ground := Ground.phase }, { on := 10, ground := Ground.phase }], guard := none } = o := Option.some.inj (show ring6Ops[11]? = some _ from ho)
    obtain ⟨t10, g10⟩ := dep 10 (by kernel_rfl)
    have q10 := t10 44 (by rfl)
    have e10 := eval_at q10
    refine inv_val (G := Kd.ok z (ring6K A B C 11)) (R := fun x y => Below x.heap.size x y) (wanted_none rfl) (v := (f 10)) (w2 := x) (by simp only [execOp, e10]; go_simp) hK g10 (Below.refl _ _)
end Go.Proofs.YteiadigkbhbolaaDoor
