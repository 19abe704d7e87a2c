/- PointsBytes: its three drawn regions. -/
import Derived.Test.YtalnfbbggmhbfaaDoorFi
import Derived.Test.YtalnfbbggmhbfaaDoorPzg
import Derived.Test.YtalnfbbggmhbfaaDoorPzb
import Derived.Test.YtalnfbbggmhbfaaDoorPj
namespace Go.Proofs.YtalnfbbggmhbfaaDoor
open Go.RowKit Tnd

theorem bl_drewD (w : World) : Below w.heap.size w w.drew := (Below.refl _ _).drew
theorem below_cell {w w' : World} {a : Addr} {v : Value} (hb : Below w.heap.size w w') (h : w.cell? a = some v) : w'.cell? a = some v := by rw [hb.cell (World.block_lt_of_cell? w _ h)]; exact h
theorem rof_at (s : ByteArray) (w : World) (l : List Nat) (at_ z : Nat) (hs : s.size ≤ 9223372036854775807) (hr : ofR s.data.toList = (l, at_, z)) :
    Calls Tryd.prog 5 #[.string s] w fun e w' => ∃ p c, e = .returned (.tuple #[.slice p l.length c, .int .i64 (at_ : Nat), .int .i64 (z : Nat)]) ∧ Own w' w.heap.size 3 .i64 (.slice p l.length c) l ∧ Below w.heap.size w w' := by
  have h := rof_any s w hs
  rw [hr] at h
  exact h
inductive Kd where
  | val (v : Value)
  | oft (l : List Nat) (a b : Nat)
  | ofs (l : List Nat)
  | row (l : List Int)
  | anyint
def Kd.ok (_z : Nat) : Kd → Value → World → Prop
  | .val u, v, _ => v = u
  | .oft l a b, v, w => ∃ p c, v = .tuple #[.slice p l.length c, .int .i64 (a : Nat), .int .i64 (b : Nat)] ∧ SlI w p (ints l)
  | .ofs l, v, w => ∃ p c, v = .slice p l.length c ∧ SlI w p (ints l)
  | .row l, v, w => ∃ p c, v = .slice p l.length c ∧ (p = none → c = 0) ∧ SlI w p l
  | .anyint, v, _ => ∃ n : Int, v = .int .i64 n
theorem Kd.below {z : Nat} {w w' : World} {v : Value} : ∀ {k : Kd}, Kd.ok z k v w → Below w.heap.size w w' → Kd.ok z k v w'
  | .val _, h, _ => h
  | .oft _ _ _, h, hb => by obtain ⟨p, c, h1, h2⟩ := h; exact ⟨p, c, h1, h2.below hb⟩
  | .ofs _, h, hb => by obtain ⟨p, c, h1, h2⟩ := h; exact ⟨p, c, h1, h2.below hb⟩
  | .row _, h, hb => by obtain ⟨p, c, h1, h3, h2⟩ := h; exact ⟨p, c, h1, h3, h2.below hb⟩
  | .anyint, h, _ => h
theorem k_of {w : World} {z : Nat} {v : Value} {s : ByteArray} {l : List Nat} {a b : Nat} (hv : Kd.ok z (.val (.string s)) v w) (hs : s.size ≤ 9223372036854775807) (hL : LeadsIn w) (hr : ofR s.data.toList = (l, a, b)) :
    Calls Tryd.prog 4 #[v] w fun e y => ∃ u, e = .returned u ∧ Kd.ok z (.oft l a b) u y ∧ Below w.heap.size w y := by
  obtain rfl : v = .string s := hv
  refine (of_at s w l a b hs hL hr).mono ?_
  rintro e y ⟨p, c, rfl, ho, hb⟩
  exact ⟨_, rfl, ⟨p, c, rfl, own_sli ho⟩, hb⟩
theorem k_rof {w : World} {z : Nat} {v : Value} {s : ByteArray} {l : List Nat} {a b : Nat} (hv : Kd.ok z (.val (.string s)) v w) (hs : s.size ≤ 9223372036854775807) (hr : ofR s.data.toList = (l, a, b)) :
    Calls Tryd.prog 5 #[v] w fun e y => ∃ u, e = .returned u ∧ Kd.ok z (.oft l a b) u y ∧ Below w.heap.size w y := by
  obtain rfl : v = .string s := hv
  refine (rof_at s w l a b hs hr).mono ?_
  rintro e y ⟨p, c, rfl, ho, hb⟩
  exact ⟨_, rfl, ⟨p, c, rfl, own_sli ho⟩, hb⟩
theorem k_writes {w : World} {z : Nat} {v : Value} {l : List Int} (hv : Kd.ok z (.row l) v w) (hL : LeadsIn w) (hS : SizesIn w) (hl : l.length ≤ 1000000000000000 := by simp) :
    Calls Tryd.prog 7 #[v] w fun e y => ∃ u, e = .returned u ∧ Kd.ok z (.val (.bool true)) u y ∧ Below w.heap.size w y := by
  obtain ⟨p, c, rfl, h1, h2⟩ := hv
  refine (writes_true p c l w hL hS h2 h1 hl).mono ?_
  rintro e y ⟨rfl, hb⟩
  exact ⟨_, rfl, rfl, hb⟩
theorem k_pairs {w : World} {z : Nat} {v u : Value} (hv : Kd.ok z .anyint v w) (hu : Kd.ok z .anyint u w) (hL : LeadsIn w) :
    Calls Tryd.prog 8 #[v, u] w fun e y => ∃ u, e = .returned u ∧ Kd.ok z (.val (.bool true)) u y ∧ Below w.heap.size w y := by
  obtain ⟨n, rfl⟩ := hv
  obtain ⟨m, rfl⟩ := hu
  refine (pairs_true n m w hL).mono ?_
  rintro e y ⟨rfl, hb⟩
  exact ⟨_, rfl, rfl, hb⟩
theorem st_pair (w : World) (z : Nat) (x1 x2 : Int) : ∃ v w2, (Instr.buildSlice 24 2 #[(0, .int .i64 x1), (1, .int .i64 x2)]).run Tryd.prog w = .ok v w2 ∧ Kd.ok z (.row [x1, x2]) v w2 ∧ Below w.heap.size w w2 := by
  refine ⟨.slice (some ⟨w.heap.size, 0, none⟩) 2 2, w.alloc (.cells #[.int .i64 x1, .int .i64 x2] 3), by go_simp, ⟨_, 2, rfl, (fun h => by cases h), .inr ⟨w.heap.size, 0, rfl, fun i hi => ?_⟩⟩, bl_alloc _ _⟩
  rw [Nat.zero_add, World.cell?_alloc_at _ _ _ _ rfl]
  match i, hi with
  | 0, _ => rfl
  | 1, _ => rfl

def bytes18Ops : Array Oper := #[{ dst := some 75, op := Op.move (Operand.tmp 4), type := 9, pos := "law.go:66", after := #[], guard := none },
  { dst := some 76, op := Op.move (Operand.tmp 1), type := 22, pos := "law.go:66", after := #[], guard := none },
  { dst := some 77, op := Op.move (Operand.tmp 6), type := 3, pos := "law.go:66", after := #[], guard := none },
  { dst := some 78, op := Op.indexAddr 22 (Operand.tmp 76) (Operand.tmp 77), type := 0, pos := "law.go:66", after := #[{ on := 1, ground := Ground.data }, { on := 2, ground := Ground.data }], guard := none },
  { dst := some 79, op := Op.load 9 (Operand.tmp 78), type := 9, pos := "law.go:66", after := #[{ on := 3, ground := Ground.data }], guard := none },
  { dst := some 80, op := Op.binOp BinOp.add 9 (Operand.tmp 75) (Operand.tmp 79) 9, type := 9, pos := "law.go:66", after := #[{ on := 0, ground := Ground.data }, { on := 4, ground := Ground.data }], guard := none },
  { dst := some 81, op := Op.move (Operand.tmp 1), type := 22, pos := "law.go:66", after := #[], guard := none },
  { dst := some 82, op := Op.move (Operand.tmp 7), type := 3, pos := "law.go:66", after := #[], guard := none },
  { dst := some 83, op := Op.indexAddr 22 (Operand.tmp 81) (Operand.tmp 82), type := 0, pos := "law.go:66", after := #[{ on := 6, ground := Ground.data }, { on := 7, ground := Ground.data }], guard := none },
  { dst := some 84, op := Op.load 9 (Operand.tmp 83), type := 9, pos := "law.go:66", after := #[{ on := 8, ground := Ground.data }], guard := none },
  { dst := some 85, op := Op.binOp BinOp.add 9 (Operand.tmp 80) (Operand.tmp 84) 9, type := 9, pos := "law.go:66", after := #[{ on := 5, ground := Ground.data }, { on := 9, ground := Ground.data }], guard := none },
  { dst := some 86, op := Op.call { callee := Callee.value (Operand.func 4), args := #[Operand.tmp 85], argTypes := #[9] }, type := 26, pos := "law.go:66", after := #[{ on := 10, ground := Ground.data }], guard := none },
  { dst := some 74, op := Op.move (Operand.tmp 86), type := 26, pos := "law.go:66", after := #[{ on := 11, ground := Ground.data }], guard := none },
  { dst := some 87, op := Op.extract (Operand.tmp 74) 0, type := 24, pos := "law.go:66", after := #[{ on := 12, ground := Ground.data }], guard := none },
  { dst := some 88, op := Op.extract (Operand.tmp 74) 1, type := 3, pos := "law.go:66", after := #[{ on := 12, ground := Ground.data }, { on := 16, ground := Ground.gcOnly Departure.lateStores }], guard := none },
  { dst := some 89, op := Op.extract (Operand.tmp 74) 2, type := 25, pos := "law.go:66", after := #[{ on := 12, ground := Ground.data }, { on := 17, ground := Ground.gcOnly Departure.lateStores }], guard := none },
  { dst := some 8, op := Op.assign (Operand.tmp 87), type := 24, pos := "law.go:66", after := #[{ on := 13, ground := Ground.data }, { on := 11, ground := Ground.chain }, { on := 0, ground := Ground.phase }, { on := 1, ground := Ground.phase }, { on := 2, ground := Ground.phase }, { on := 3, ground := Ground.phase }, { on := 4, ground := Ground.phase }, { on := 5, ground := Ground.phase }, { on := 6, ground := Ground.phase }, { on := 7, ground := Ground.phase }, { on := 8, ground := Ground.phase }, { on := 9, ground := Ground.phase }, { on := 10, ground := Ground.phase }, { on := 11, ground := Ground.phase }, { on := 12, ground := Ground.phase }, { on := 13, ground := Ground.phase }, { on := 14, ground := Ground.textOnly Departure.lateStores }, { on := 15, ground := Ground.textOnly Departure.lateStores }], guard := none },
  { dst := some 9, op := Op.assign (Operand.tmp 88), type := 3, pos := "law.go:66", after := #[{ on := 14, ground := Ground.data }, { on := 16, ground := Ground.chain }, { on := 0, ground := Ground.phase }, { on := 1, ground := Ground.phase }, { on := 2, ground := Ground.phase }, { on := 3, ground := Ground.phase }, { on := 4, ground := Ground.phase }, { on := 5, ground := Ground.phase }, { on := 6, ground := Ground.phase }, { on := 7, ground := Ground.phase }, { on := 8, ground := Ground.phase }, { on := 9, ground := Ground.phase }, { on := 10, ground := Ground.phase }, { on := 11, ground := Ground.phase }, { on := 12, ground := Ground.phase }, { on := 13, ground := Ground.phase }, { on := 14, ground := Ground.phase }, { on := 15, ground := Ground.textOnly Departure.lateStores }, { on := 16, ground := Ground.phase }], guard := none },
  { dst := some 10, op := Op.assign (Operand.tmp 89), type := 25, pos := "law.go:66", after := #[{ on := 15, ground := Ground.data }, { on := 17, ground := Ground.chain }, { on := 0, ground := Ground.phase }, { on := 1, ground := Ground.phase }, { on := 2, ground := Ground.phase }, { on := 3, ground := Ground.phase }, { on := 4, ground := Ground.phase }, { on := 5, ground := Ground.phase }, { on := 6, ground := Ground.phase }, { on := 7, ground := Ground.phase }, { on := 8, ground := Ground.phase }, { on := 9, ground := Ground.phase }, { on := 10, ground := Ground.phase }, { on := 11, ground := Ground.phase }, { on := 12, ground := Ground.phase }, { on := 13, ground := Ground.phase }, { on := 14, ground := Ground.phase }, { on := 15, ground := Ground.phase }, { on := 16, ground := Ground.phase }, { on := 17, ground := Ground.phase }], guard := none }]
def bytes18Pre : Array Bool := #[true, true, true, true, true, true, true, true, true, true, true, true, true, true, true, true, true, true, true]
def bytes18K (us ua ub : ByteArray) (be ni nk : Nat) (l : List Nat) (at_ zz : Nat) : Nat → Kd
  | 0 => .val (.string us)
  | 1 => .val (.slice (some ⟨be, 0, none⟩) 10 10)
  | 2 => .val (.int .i64 (ni : Nat))
  | 3 => .val (.pointer (some ⟨be, ni, none⟩))
  | 4 => .val (.string ua)
  | 5 => .val (.string (us ++ ua))
  | 6 => .val (.slice (some ⟨be, 0, none⟩) 10 10)
  | 7 => .val (.int .i64 (nk : Nat))
  | 8 => .val (.pointer (some ⟨be, nk, none⟩))
  | 9 => .val (.string ub)
  | 10 => .val (.string (us ++ ua ++ ub))
  | 11 => .oft l at_ zz
  | 12 => .oft l at_ zz
  | 13 => .ofs l
  | 14 => .val (.int .i64 (at_ : Nat))
  | 15 => .val (.int .i64 (zz : Nat))
  | 16 => .ofs l
  | 17 => .val (.int .i64 (at_ : Nat))
  | 18 => .val (.int .i64 (zz : Nat))
  | _ => .val undef
theorem bytes18_slots (f : Nat → Value) : slotsOf bytes18Ops bytes18Pre f = [(75, f 0), (76, f 1), (77, f 2), (78, f 3), (79, f 4), (80, f 5), (81, f 6), (82, f 7), (83, f 8), (84, f 9), (85, f 10), (86, f 11), (74, f 12), (87, f 13), (88, f 14), (89, f 15), (8, f 16), (9, f 17), (10, f 18)] := by kernel_rfl
set_option maxHeartbeats 6400000 in
set_option maxRecDepth 100000 in
theorem bytes18_wp {Q : Exit → Act → World → Prop} {a0 : Act} {w : World} {z : Nat} (us ua ub : ByteArray) (be ni nk : Nat) (l : List Nat) (at_ zz : Nat) (hz : z ≤ w.drew.heap.size) (hsize : a0.tmps.size = 241) (h4 : a0.tmps[4]? = some (.string us)) (h1 : a0.tmps[1]? = some (.slice (some ⟨be, 0, none⟩) 10 10)) (h6 : a0.tmps[6]? = some (.int .i64 (ni : Nat))) (h7 : a0.tmps[7]? = some (.int .i64 (nk : Nat))) (hiI : (ni : Int) < 10) (hkI : (nk : Int) < 10)
    (ca : w.drew.cell? ⟨be, ni, none⟩ = some (.string ua)) (cb : w.drew.cell? ⟨be, nk, none⟩ = some (.string ub)) (z1 : us.size + ua.size ≤ 4) (z2 : us.size + ua.size + ub.size ≤ 4) (z3 : (us ++ ua ++ ub).size ≤ 4) (hr : ofR (us ++ ua ++ ub).data.toList = (l, at_, zz)) (hL : LeadsIn w.drew)
    (fin : ∀ (f : Nat → Value) (y : World), (∀ j, j < 19 → bytes18Pre.getD j false = true → Kd.ok z (bytes18K us ua ub be ni nk l at_ zz j) (f j) y) → Below w.drew.heap.size w.drew y → Q .normal (putL a0 [(75, f 0), (76, f 1), (77, f 2), (78, f 3), (79, f 4), (80, f 5), (81, f 6), (82, f 7), (83, f 8), (84, f 9), (85, f 10), (86, f 11), (74, f 12), (87, f 13), (88, f 14), (89, f 15), (8, f 16), (9, f 17), (10, f 18)]) y) (id : Nat) :
    (Code.region id bytes18Ops true).wp Tryd.prog Q a0 w := by
  refine wp_region_inv bytes18Pre (fun j => Kd.ok z (bytes18K us ua ub be ni nk l at_ zz j)) (fun x y => Below x.heap.size x y) 19 0 (by kernel_rfl) (by kernel_rfl) (by rw [hsize]; kernel_rfl) (by kernel_rfl) (by kernel_rfl) (Below.refl _ _) (fun _ _ _ h1 h2 => bl_trans h1 h2) (fun _ _ _ _ h1 h2 => Kd.below h1 h2) ?_ (fun f y h1 h2 => by rw [bytes18_slots]; exact any_end (by kernel_rfl) (fin f y h1 h2) 0)
  intro i o ho hp f a x hR hbase hdeps K hK
  have hi : i < 19 := by
    rcases Nat.lt_or_ge i 19 with h | h
    · exact h
    · have : bytes18Ops.size ≤ i := h
      rw [Array.getElem?_eq_none this] at ho; cases ho
  have hzx : z ≤ x.heap.size := Nat.le_trans hz hR.size
  have dep : ∀ j, (o.after.any fun e => Region.binds .any e && e.on == j) = true → (∀ s, slotOf bytes18Ops j = some s → a.tmps[s]? = some (f j)) ∧ Kd.ok z (bytes18K us ua ub be ni nk l at_ zz j) (f j) x := by
    intro j h
    obtain ⟨e, he, h2⟩ := Array.any_eq_true'.1 h
    simp only [Bool.and_eq_true, beq_iff_eq] at h2
    obtain ⟨h3, rfl⟩ := h2
    exact hdeps e he h3
  have bas : ∀ s, ((List.range bytes18Ops.size).all fun j => slotOf bytes18Ops j != some s) = true → a.tmps[s]? = a0.tmps[s]? := by
    intro s h
    refine hbase s fun j hj _ e => ?_
    have h2 := (List.all_eq_true.1 h) j (List.mem_range.2 hj)
    rw [e] at h2; simp at h2
  match i, hi with
  | 0, _ =>
    obtain rfl : { dst := some 75, op := Op.move (Operand.tmp 4), type := 9, pos := "law.go:66", after := #[], guard := none } = o := Option.some.inj (show bytes18Ops[0]? = some _ from ho)
    have qb4 := (bas 4 (by kernel_rfl)).trans h4
    have eb4 := eval_at qb4
    refine inv_val (G := Kd.ok z (bytes18K us ua ub be ni nk l at_ zz 0)) (R := fun x y => Below x.heap.size x y) (wanted_none rfl) (v := (.string us)) (w2 := x) (by simp only [execOp, eb4]; go_simp) hK rfl (Below.refl _ _)
  | 1, _ =>
    obtain rfl : { dst := some 76, op := Op.move (Operand.tmp 1), type := 22, pos := "law.go:66", after := #[], guard := none } = o := Option.some.inj (show bytes18Ops[1]? = some _ from ho)
    have qb1 := (bas 1 (by kernel_rfl)).trans h1
    have eb1 := eval_at qb1
    refine inv_val (G := Kd.ok z (bytes18K us ua ub be ni nk l at_ zz 1)) (R := fun x y => Below x.heap.size x y) (wanted_none rfl) (v := (.slice (some ⟨be, 0, none⟩) 10 10)) (w2 := x) (by simp only [execOp, eb1]; go_simp) hK rfl (Below.refl _ _)
  | 2, _ =>
    obtain rfl : { dst := some 77, op := Op.move (Operand.tmp 6), type := 3, pos := "law.go:66", after := #[], guard := none } = o := Option.some.inj (show bytes18Ops[2]? = some _ from ho)
    have qb6 := (bas 6 (by kernel_rfl)).trans h6
    have eb6 := eval_at qb6
    refine inv_val (G := Kd.ok z (bytes18K us ua ub be ni nk l at_ zz 2)) (R := fun x y => Below x.heap.size x y) (wanted_none rfl) (v := (.int .i64 (ni : Nat))) (w2 := x) (by simp only [execOp, eb6]; go_simp) hK rfl (Below.refl _ _)
  | 3, _ =>
    obtain rfl : { dst := some 78, op := Op.indexAddr 22 (Operand.tmp 76) (Operand.tmp 77), type := 0, pos := "law.go:66", after := #[{ on := 1, ground := Ground.data }, { on := 2, ground := Ground.data }], guard := none } = o := Option.some.inj (show bytes18Ops[3]? = some _ from ho)
    obtain ⟨t1, g1⟩ := dep 1 (by kernel_rfl)
    have q1 := t1 76 (by rfl)
    have e1 := eval_at q1
    obtain ⟨t2, g2⟩ := dep 2 (by kernel_rfl)
    have q2 := t2 77 (by rfl)
    have e2 := eval_at q2
    have w1 : f 1 = (.slice (some ⟨be, 0, none⟩) 10 10) := g1
    have w2 : f 2 = (.int .i64 (ni : Nat)) := g2
    rw [w1] at e1
    rw [w2] at e2
    refine inv_val (G := Kd.ok z (bytes18K us ua ub be ni nk l at_ zz 3)) (R := fun x y => Below x.heap.size x y) (wanted_none rfl) (v := (.pointer (some ⟨be, ni, none⟩))) (w2 := x) (by simp only [execOp, e1, e2]; go_simp) hK rfl (Below.refl _ _)
  | 4, _ =>
    obtain rfl : { dst := some 79, op := Op.load 9 (Operand.tmp 78), type := 9, pos := "law.go:66", after := #[{ on := 3, ground := Ground.data }], guard := none } = o := Option.some.inj (show bytes18Ops[4]? = some _ from ho)
    obtain ⟨t3, g3⟩ := dep 3 (by kernel_rfl)
    have q3 := t3 78 (by rfl)
    have e3 := eval_at q3
    have w3 : f 3 = (.pointer (some ⟨be, ni, none⟩)) := g3
    rw [w3] at e3
    have hc := below_cell hR ca
    refine inv_val (G := Kd.ok z (bytes18K us ua ub be ni nk l at_ zz 4)) (R := fun x y => Below x.heap.size x y) (wanted_none rfl) (v := (.string ua)) (w2 := x) (by simp only [execOp, e3]; go_simp) hK rfl (Below.refl _ _)
  | 5, _ =>
    obtain rfl : { dst := some 80, op := Op.binOp BinOp.add 9 (Operand.tmp 75) (Operand.tmp 79) 9, type := 9, pos := "law.go:66", after := #[{ on := 0, ground := Ground.data }, { on := 4, ground := Ground.data }], guard := none } = o := Option.some.inj (show bytes18Ops[5]? = some _ from ho)
    obtain ⟨t0, g0⟩ := dep 0 (by kernel_rfl)
    have q0 := t0 75 (by rfl)
    have e0 := eval_at q0
    obtain ⟨t4, g4⟩ := dep 4 (by kernel_rfl)
    have q4 := t4 79 (by rfl)
    have e4 := eval_at q4
    have w0 : f 0 = (.string us) := g0
    have w4 : f 4 = (.string ua) := g4
    rw [w0] at e0
    rw [w4] at e4
    refine inv_val (G := Kd.ok z (bytes18K us ua ub be ni nk l at_ zz 5)) (R := fun x y => Below x.heap.size x y) (wanted_none rfl) (v := (.string (us ++ ua))) (w2 := x) (by simp only [execOp, e0, e4]; go_simp; omega) hK rfl (Below.refl _ _)
  | 6, _ =>
    obtain rfl : { dst := some 81, op := Op.move (Operand.tmp 1), type := 22, pos := "law.go:66", after := #[], guard := none } = o := Option.some.inj (show bytes18Ops[6]? = some _ from ho)
    have qb1 := (bas 1 (by kernel_rfl)).trans h1
    have eb1 := eval_at qb1
    refine inv_val (G := Kd.ok z (bytes18K us ua ub be ni nk l at_ zz 6)) (R := fun x y => Below x.heap.size x y) (wanted_none rfl) (v := (.slice (some ⟨be, 0, none⟩) 10 10)) (w2 := x) (by simp only [execOp, eb1]; go_simp) hK rfl (Below.refl _ _)
  | 7, _ =>
    obtain rfl : { dst := some 82, op := Op.move (Operand.tmp 7), type := 3, pos := "law.go:66", after := #[], guard := none } = o := Option.some.inj (show bytes18Ops[7]? = some _ from ho)
    have qb7 := (bas 7 (by kernel_rfl)).trans h7
    have eb7 := eval_at qb7
    refine inv_val (G := Kd.ok z (bytes18K us ua ub be ni nk l at_ zz 7)) (R := fun x y => Below x.heap.size x y) (wanted_none rfl) (v := (.int .i64 (nk : Nat))) (w2 := x) (by simp only [execOp, eb7]; go_simp) hK rfl (Below.refl _ _)
  | 8, _ =>
    obtain rfl : { dst := some 83, op := Op.indexAddr 22 (Operand.tmp 81) (Operand.tmp 82), type := 0, pos := "law.go:66", after := #[{ on := 6, ground := Ground.data }, { on := 7, ground := Ground.data }], guard := none } = o := Option.some.inj (show bytes18Ops[8]? = some _ from ho)
    obtain ⟨t6, g6⟩ := dep 6 (by kernel_rfl)
    have q6 := t6 81 (by rfl)
    have e6 := eval_at q6
    obtain ⟨t7, g7⟩ := dep 7 (by kernel_rfl)
    have q7 := t7 82 (by rfl)
    have e7 := eval_at q7
    have w6 : f 6 = (.slice (some ⟨be, 0, none⟩) 10 10) := g6
    have w7 : f 7 = (.int .i64 (nk : Nat)) := g7
    rw [w6] at e6
    rw [w7] at e7
    refine inv_val (G := Kd.ok z (bytes18K us ua ub be ni nk l at_ zz 8)) (R := fun x y => Below x.heap.size x y) (wanted_none rfl) (v := (.pointer (some ⟨be, nk, none⟩))) (w2 := x) (by simp only [execOp, e6, e7]; go_simp) hK rfl (Below.refl _ _)
  | 9, _ =>
    obtain rfl : { dst := some 84, op := Op.load 9 (Operand.tmp 83), type := 9, pos := "law.go:66", after := #[{ on := 8, ground := Ground.data }], guard := none } = o := Option.some.inj (show bytes18Ops[9]? = some _ from ho)
    obtain ⟨t8, g8⟩ := dep 8 (by kernel_rfl)
    have q8 := t8 83 (by rfl)
    have e8 := eval_at q8
    have w8 : f 8 = (.pointer (some ⟨be, nk, none⟩)) := g8
    rw [w8] at e8
    have hc := below_cell hR cb
    refine inv_val (G := Kd.ok z (bytes18K us ua ub be ni nk l at_ zz 9)) (R := fun x y => Below x.heap.size x y) (wanted_none rfl) (v := (.string ub)) (w2 := x) (by simp only [execOp, e8]; go_simp) hK rfl (Below.refl _ _)
  | 10, _ =>
    obtain rfl : { dst := some 85, op := Op.binOp BinOp.add 9 (Operand.tmp 80) (Operand.tmp 84) 9, type := 9, pos := "law.go:66", after := #[{ on := 5, ground := Ground.data }, { on := 9, ground := Ground.data }], guard := none } = o := Option.some.inj (show bytes18Ops[10]? = some _ from ho)
    obtain ⟨t5, g5⟩ := dep 5 (by kernel_rfl)
    have q5 := t5 80 (by rfl)
    have e5 := eval_at q5
    obtain ⟨t9, g9⟩ := dep 9 (by kernel_rfl)
    have q9 := t9 84 (by rfl)
    have e9 := eval_at q9
    have w5 : f 5 = (.string (us ++ ua)) := g5
    have w9 : f 9 = (.string ub) := g9
    rw [w5] at e5
    rw [w9] at e9
    refine inv_val (G := Kd.ok z (bytes18K us ua ub be ni nk l at_ zz 10)) (R := fun x y => Below x.heap.size x y) (wanted_none rfl) (v := (.string (us ++ ua ++ ub))) (w2 := x) (by simp only [execOp, e5, e9]; go_simp; omega) hK rfl (Below.refl _ _)
  | 11, _ =>
    obtain rfl : { dst := some 86, op := Op.call { callee := Callee.value (Operand.func 4), args := #[Operand.tmp 85], argTypes := #[9] }, type := 26, pos := "law.go:66", after := #[{ on := 10, ground := Ground.data }], guard := none } = o := Option.some.inj (show bytes18Ops[11]? = some _ from ho)
    obtain ⟨t10, g10⟩ := dep 10 (by kernel_rfl)
    have q10 := t10 85 (by rfl)
    have e10 := eval_at q10
    refine inv_call (G := Kd.ok z (bytes18K us ua ub be ni nk l at_ zz 11)) (R := fun x y => Below x.heap.size x y) (wanted_none rfl) (F := 4) (args := #[f 10]) (by simp [go_sem, q10]) hK ?_
    exact k_of g10 (by omega) (hL.below hR) hr
  | 12, _ =>
    obtain rfl : { dst := some 74, op := Op.move (Operand.tmp 86), type := 26, pos := "law.go:66", after := #[{ on := 11, ground := Ground.data }], guard := none } = o := Option.some.inj (show bytes18Ops[12]? = some _ from ho)
    obtain ⟨t11, g11⟩ := dep 11 (by kernel_rfl)
    have q11 := t11 86 (by rfl)
    have e11 := eval_at q11
    refine inv_val (G := Kd.ok z (bytes18K us ua ub be ni nk l at_ zz 12)) (R := fun x y => Below x.heap.size x y) (wanted_none rfl) (v := (f 11)) (w2 := x) (by simp only [execOp, e11]; go_simp) hK g11 (Below.refl _ _)
  | 13, _ =>
    obtain rfl : { dst := some 87, op := Op.extract (Operand.tmp 74) 0, type := 24, pos := "law.go:66", after := #[{ on := 12, ground := Ground.data }], guard := none } = o := Option.some.inj (show bytes18Ops[13]? = some _ from ho)
    obtain ⟨t12, g12⟩ := dep 12 (by kernel_rfl)
    have q12 := t12 74 (by rfl)
    have e12 := eval_at q12
    obtain ⟨p, c, hu, hs⟩ := g12
    rw [hu] at e12
    refine inv_val (G := Kd.ok z (bytes18K us ua ub be ni nk l at_ zz 13)) (R := fun x y => Below x.heap.size x y) (wanted_none rfl) (w2 := x) (by simp only [execOp, e12]; rfl) hK ⟨p, c, rfl, hs⟩ (Below.refl _ _)
  | 14, _ =>
    obtain rfl : { dst := some 88, op := Op.extract (Operand.tmp 74) 1, type := 3, pos := "law.go:66", after := #[{ on := 12, ground := Ground.data }, { on := 16, ground := Ground.gcOnly Departure.lateStores }], guard := none } = o := Option.some.inj (show bytes18Ops[14]? = some _ from ho)
    obtain ⟨t12, g12⟩ := dep 12 (by kernel_rfl)
    have q12 := t12 74 (by rfl)
    have e12 := eval_at q12
    obtain ⟨p, c, hu, hs⟩ := g12
    rw [hu] at e12
    refine inv_val (G := Kd.ok z (bytes18K us ua ub be ni nk l at_ zz 14)) (R := fun x y => Below x.heap.size x y) (wanted_none rfl) (w2 := x) (by simp only [execOp, e12]; rfl) hK rfl (Below.refl _ _)
  | 15, _ =>
    obtain rfl : { dst := some 89, op := Op.extract (Operand.tmp 74) 2, type := 25, pos := "law.go:66", after := #[{ on := 12, ground := Ground.data }, { on := 17, ground := Ground.gcOnly Departure.lateStores }], guard := none } = o := Option.some.inj (show bytes18Ops[15]? = some _ from ho)
    obtain ⟨t12, g12⟩ := dep 12 (by kernel_rfl)
    have q12 := t12 74 (by rfl)
    have e12 := eval_at q12
    obtain ⟨p, c, hu, hs⟩ := g12
    rw [hu] at e12
    refine inv_val (G := Kd.ok z (bytes18K us ua ub be ni nk l at_ zz 15)) (R := fun x y => Below x.heap.size x y) (wanted_none rfl) (w2 := x) (by simp only [execOp, e12]; rfl) hK rfl (Below.refl _ _)
  | 16, _ =>
    obtain rfl : { dst := some 8, op := Op.assign (Operand.tmp 87), type := 24, pos := "law.go:66", after := #[{ on := 13, ground := Ground.data }, { on := 11, ground := Ground.chain }, { on := 0, ground := Ground.phase }, { on := 1, ground := Ground.phase }, { on := 2, ground := Ground.phase }, { on := 3, ground := Ground.phase }, { on := 4, ground := Ground.phase }, { on := 5, ground := Ground.phase }, { on := 6, ground := Ground.phase }, { on := 7, ground := Ground.phase }, { on := 8, ground := Ground.phase }, { on := 9, ground := Ground.phase }, { on := 10, ground := Ground.phase }, { on := 11, ground := Ground.phase }, { on := 12, ground := Ground.phase }, { on := 13, ground := Ground.phase }, { on := 14, ground := Ground.textOnly Departure.lateStores }, { on := 15, ground := Ground.textOnly Departure.lateStores }], guard := none } = o := Option.some.inj (show bytes18Ops[16]? = some _ from ho)
    obtain ⟨t13, g13⟩ := dep 13 (by kernel_rfl)
    have q13 := t13 87 (by rfl)
    have e13 := eval_at q13
    refine inv_val (G := Kd.ok z (bytes18K us ua ub be ni nk l at_ zz 16)) (R := fun x y => Below x.heap.size x y) (wanted_none rfl) (v := (f 13)) (w2 := x) (by simp only [execOp, e13]; go_simp) hK g13 (Below.refl _ _)
  | 17, _ =>
    obtain rfl : { dst := some 9, op := Op.assign (Operand.tmp 88), type := 3, pos := "law.go:66", after := #[{ on := 14, ground := Ground.data }, { on := 16, ground := Ground.chain }, { on := 0, ground := Ground.phase }, { on := 1, ground := Ground.phase }, { on := 2, ground := Ground.phase }, { on := 3, ground := Ground.phase }, { on := 4, ground := Ground.phase }, { on := 5, ground := Ground.phase }, { on := 6, ground := Ground.phase }, { on := 7, ground := Ground.phase }, { on := 8, ground := Ground.phase }, { on := 9, ground := Ground.phase }, { on := 10, ground := Ground.phase }, { on := 11, ground := Ground.phase }, { on := 12, ground := Ground.phase }, { on := 13, ground := Ground.phase }, { on := 14, ground := Ground.phase }, { on := 15, ground := Ground.textOnly Departure.lateStores }, { on := 16, ground := Ground.phase }], guard := none } = o := Option.some.inj (show bytes18Ops[17]? = some _ from ho)
    obtain ⟨t14, g14⟩ := dep 14 (by kernel_rfl)
    have q14 := t14 88 (by rfl)
    have e14 := eval_at q14
    have w14 : f 14 = (.int .i64 (at_ : Nat)) := g14
    rw [w14] at e14
    refine inv_val (G := Kd.ok z (bytes18K us ua ub be ni nk l at_ zz 17)) (R := fun x y => Below x.heap.size x y) (wanted_none rfl) (v := (.int .i64 (at_ : Nat))) (w2 := x) (by simp only [execOp, e14]; go_simp) hK rfl (Below.refl _ _)
  | 18, _ =>
    obtain rfl : { dst := some 10, op := Op.assign (Operand.tmp 89), type := 25, pos := "law.go:66", after := #[{ on := 15, ground := Ground.data }, { on := 17, ground := Ground.chain }, { on := 0, ground := Ground.phase }, { on := 1, ground := Ground.phase }, { on := 2, ground := Ground.phase }, { on := 3, ground := Ground.phase }, { on := 4, ground := Ground.phase }, { on := 5, ground := Ground.phase }, { on := 6, ground := Ground.phase }, { on := 7, ground := Ground.phase }, { on := 8, ground := Ground.phase }, { on := 9, ground := Ground.phase }, { on := 10, ground := Ground.phase }, { on := 11, ground := Ground.phase }, { on := 12, ground := Ground.phase }, { on := 13, ground := Ground.phase }, { on := 14, ground := Ground.phase }, { on := 15, ground := Ground.phase }, { on := 16, ground := Ground.phase }, { on := 17, ground := Ground.phase }], guard := none } = o := Option.some.inj (show bytes18Ops[18]? = some _ from ho)
    obtain ⟨t15, g15⟩ := dep 15 (by kernel_rfl)
    have q15 := t15 89 (by rfl)
    have e15 := eval_at q15
    have w15 : f 15 = (.int .i64 (zz : Nat)) := g15
    rw [w15] at e15
    refine inv_val (G := Kd.ok z (bytes18K us ua ub be ni nk l at_ zz 18)) (R := fun x y => Below x.heap.size x y) (wanted_none rfl) (v := (.int .i64 (zz : Nat))) (w2 := x) (by simp only [execOp, e15]; go_simp) hK rfl (Below.refl _ _)
def bytes19Ops : Array Oper := #[{ dst := some 91, op := Op.move (Operand.tmp 4), type := 9, pos := "law.go:67", after := #[], guard := none },
  { dst := some 92, op := Op.move (Operand.tmp 1), type := 22, pos := "law.go:67", after := #[], guard := none },
  { dst := some 93, op := Op.move (Operand.tmp 6), type := 3, pos := "law.go:67", after := #[], guard := none },
  { dst := some 94, op := Op.indexAddr 22 (Operand.tmp 92) (Operand.tmp 93), type := 0, pos := "law.go:67", after := #[{ on := 1, ground := Ground.data }, { on := 2, ground := Ground.data }], guard := none },
  { dst := some 95, op := Op.load 9 (Operand.tmp 94), type := 9, pos := "law.go:67", after := #[{ on := 3, ground := Ground.data }], guard := none },
  { dst := some 96, op := Op.binOp BinOp.add 9 (Operand.tmp 91) (Operand.tmp 95) 9, type := 9, pos := "law.go:67", after := #[{ on := 0, ground := Ground.data }, { on := 4, ground := Ground.data }], guard := none },
  { dst := some 97, op := Op.move (Operand.tmp 1), type := 22, pos := "law.go:67", after := #[], guard := none },
  { dst := some 98, op := Op.move (Operand.tmp 7), type := 3, pos := "law.go:67", after := #[], guard := none },
  { dst := some 99, op := Op.indexAddr 22 (Operand.tmp 97) (Operand.tmp 98), type := 0, pos := "law.go:67", after := #[{ on := 6, ground := Ground.data }, { on := 7, ground := Ground.data }], guard := none },
  { dst := some 100, op := Op.load 9 (Operand.tmp 99), type := 9, pos := "law.go:67", after := #[{ on := 8, ground := Ground.data }], guard := none },
  { dst := some 101, op := Op.binOp BinOp.add 9 (Operand.tmp 96) (Operand.tmp 100) 9, type := 9, pos := "law.go:67", after := #[{ on := 5, ground := Ground.data }, { on := 9, ground := Ground.data }], guard := none },
  { dst := some 102, op := Op.call { callee := Callee.value (Operand.func 5), args := #[Operand.tmp 101], argTypes := #[9] }, type := 26, pos := "law.go:67", after := #[{ on := 10, ground := Ground.data }], guard := none },
  { dst := some 90, op := Op.move (Operand.tmp 102), type := 26, pos := "law.go:67", after := #[{ on := 11, ground := Ground.data }], guard := none },
  { dst := some 103, op := Op.extract (Operand.tmp 90) 0, type := 24, pos := "law.go:67", after := #[{ on := 12, ground := Ground.data }], guard := none },
  { dst := some 104, op := Op.extract (Operand.tmp 90) 1, type := 3, pos := "law.go:67", after := #[{ on := 12, ground := Ground.data }, { on := 16, ground := Ground.gcOnly Departure.lateStores }], guard := none },
  { dst := some 105, op := Op.extract (Operand.tmp 90) 2, type := 25, pos := "law.go:67", after := #[{ on := 12, ground := Ground.data }, { on := 17, ground := Ground.gcOnly Departure.lateStores }], guard := none },
  { dst := some 11, op := Op.assign (Operand.tmp 103), type := 24, pos := "law.go:67", after := #[{ on := 13, ground := Ground.data }, { on := 11, ground := Ground.chain }, { on := 0, ground := Ground.phase }, { on := 1, ground := Ground.phase }, { on := 2, ground := Ground.phase }, { on := 3, ground := Ground.phase }, { on := 4, ground := Ground.phase }, { on := 5, ground := Ground.phase }, { on := 6, ground := Ground.phase }, { on := 7, ground := Ground.phase }, { on := 8, ground := Ground.phase }, { on := 9, ground := Ground.phase }, { on := 10, ground := Ground.phase }, { on := 11, ground := Ground.phase }, { on := 12, ground := Ground.phase }, { on := 13, ground := Ground.phase }, { on := 14, ground := Ground.textOnly Departure.lateStores }, { on := 15, ground := Ground.textOnly Departure.lateStores }], guard := none },
  { dst := some 12, op := Op.assign (Operand.tmp 104), type := 3, pos := "law.go:67", after := #[{ on := 14, ground := Ground.data }, { on := 16, ground := Ground.chain }, { on := 0, ground := Ground.phase }, { on := 1, ground := Ground.phase }, { on := 2, ground := Ground.phase }, { on := 3, ground := Ground.phase }, { on := 4, ground := Ground.phase }, { on := 5, ground := Ground.phase }, { on := 6, ground := Ground.phase }, { on := 7, ground := Ground.phase }, { on := 8, ground := Ground.phase }, { on := 9, ground := Ground.phase }, { on := 10, ground := Ground.phase }, { on := 11, ground := Ground.phase }, { on := 12, ground := Ground.phase }, { on := 13, ground := Ground.phase }, { on := 14, ground := Ground.phase }, { on := 15, ground := Ground.textOnly Departure.lateStores }, { on := 16, ground := Ground.phase }], guard := none },
  { dst := some 13, op := Op.assign (Operand.tmp 105), type := 25, pos := "law.go:67", after := #[{ on := 15, ground := Ground.data }, { on := 17, ground := Ground.chain }, { on := 0, ground := Ground.phase }, { on := 1, ground := Ground.phase }, { on := 2, ground := Ground.phase }, { on := 3, ground := Ground.phase }, { on := 4, ground := Ground.phase }, { on := 5, ground := Ground.phase }, { on := 6, ground := Ground.phase }, { on := 7, ground := Ground.phase }, { on := 8, ground := Ground.phase }, { on := 9, ground := Ground.phase }, { on := 10, ground := Ground.phase }, { on := 11, ground := Ground.phase }, { on := 12, ground := Ground.phase }, { on := 13, ground := Ground.phase }, { on := 14, ground := Ground.phase }, { on := 15, ground := Ground.phase }, { on := 16, ground := Ground.phase }, { on := 17, ground := Ground.phase }], guard := none }]
def bytes19Pre : Array Bool := #[true, true, true, true, true, true, true, true, true, true, true, true, true, true, true, true, true, true, true]
def bytes19K (us ua ub : ByteArray) (be ni nk : Nat) (l : List Nat) (at_ zz : Nat) : Nat → Kd
  | 0 => .val (.string us)
  | 1 => .val (.slice (some ⟨be, 0, none⟩) 10 10)
  | 2 => .val (.int .i64 (ni : Nat))
  | 3 => .val (.pointer (some ⟨be, ni, none⟩))
  | 4 => .val (.string ua)
  | 5 => .val (.string (us ++ ua))
  | 6 => .val (.slice (some ⟨be, 0, none⟩) 10 10)
  | 7 => .val (.int .i64 (nk : Nat))
  | 8 => .val (.pointer (some ⟨be, nk, none⟩))
  | 9 => .val (.string ub)
  | 10 => .val (.string (us ++ ua ++ ub))
  | 11 => .oft l at_ zz
  | 12 => .oft l at_ zz
  | 13 => .ofs l
  | 14 => .val (.int .i64 (at_ : Nat))
  | 15 => .val (.int .i64 (zz : Nat))
  | 16 => .ofs l
  | 17 => .val (.int .i64 (at_ : Nat))
  | 18 => .val (.int .i64 (zz : Nat))
  | _ => .val undef
theorem bytes19_slots (f : Nat → Value) : slotsOf bytes19Ops bytes19Pre f = [(91, f 0), (92, f 1), (93, f 2), (94, f 3), (95, f 4), (96, f 5), (97, f 6), (98, f 7), (99, f 8), (100, f 9), (101, f 10), (102, f 11), (90, f 12), (103, f 13), (104, f 14), (105, f 15), (11, f 16), (12, f 17), (13, f 18)] := by kernel_rfl
set_option maxHeartbeats 6400000 in
set_option maxRecDepth 100000 in
theorem bytes19_wp {Q : Exit → Act → World → Prop} {a0 : Act} {w : World} {z : Nat} (us ua ub : ByteArray) (be ni nk : Nat) (l : List Nat) (at_ zz : Nat) (hz : z ≤ w.drew.heap.size) (hsize : a0.tmps.size = 241) (h4 : a0.tmps[4]? = some (.string us)) (h1 : a0.tmps[1]? = some (.slice (some ⟨be, 0, none⟩) 10 10)) (h6 : a0.tmps[6]? = some (.int .i64 (ni : Nat))) (h7 : a0.tmps[7]? = some (.int .i64 (nk : Nat))) (hiI : (ni : Int) < 10) (hkI : (nk : Int) < 10)
    (ca : w.drew.cell? ⟨be, ni, none⟩ = some (.string ua)) (cb : w.drew.cell? ⟨be, nk, none⟩ = some (.string ub)) (z1 : us.size + ua.size ≤ 4) (z2 : us.size + ua.size + ub.size ≤ 4) (z3 : (us ++ ua ++ ub).size ≤ 4) (hr : ofR (us ++ ua ++ ub).data.toList = (l, at_, zz)) (hL : LeadsIn w.drew)
    (fin : ∀ (f : Nat → Value) (y : World), (∀ j, j < 19 → bytes19Pre.getD j false = true → Kd.ok z (bytes19K us ua ub be ni nk l at_ zz j) (f j) y) → Below w.drew.heap.size w.drew y → Q .normal (putL a0 [(91, f 0), (92, f 1), (93, f 2), (94, f 3), (95, f 4), (96, f 5), (97, f 6), (98, f 7), (99, f 8), (100, f 9), (101, f 10), (102, f 11), (90, f 12), (103, f 13), (104, f 14), (105, f 15), (11, f 16), (12, f 17), (13, f 18)]) y) (id : Nat) :
    (Code.region id bytes19Ops true).wp Tryd.prog Q a0 w := by
  refine wp_region_inv bytes19Pre (fun j => Kd.ok z (bytes19K us ua ub be ni nk l at_ zz j)) (fun x y => Below x.heap.size x y) 19 0 (by kernel_rfl) (by kernel_rfl) (by rw [hsize]; kernel_rfl) (by kernel_rfl) (by kernel_rfl) (Below.refl _ _) (fun _ _ _ h1 h2 => bl_trans h1 h2) (fun _ _ _ _ h1 h2 => Kd.below h1 h2) ?_ (fun f y h1 h2 => by rw [bytes19_slots]; exact any_end (by kernel_rfl) (fin f y h1 h2) 0)
  intro i o ho hp f a x hR hbase hdeps K hK
  have hi : i < 19 := by
    rcases Nat.lt_or_ge i 19 with h | h
    · exact h
    · have : bytes19Ops.size ≤ i := h
      rw [Array.getElem?_eq_none this] at ho; cases ho
  have hzx : z ≤ x.heap.size := Nat.le_trans hz hR.size
  have dep : ∀ j, (o.after.any fun e => Region.binds .any e && e.on == j) = true → (∀ s, slotOf bytes19Ops j = some s → a.tmps[s]? = some (f j)) ∧ Kd.ok z (bytes19K us ua ub be ni nk l at_ zz j) (f j) x := by
    intro j h
    obtain ⟨e, he, h2⟩ := Array.any_eq_true'.1 h
    simp only [Bool.and_eq_true, beq_iff_eq] at h2
    obtain ⟨h3, rfl⟩ := h2
    exact hdeps e he h3
  have bas : ∀ s, ((List.range bytes19Ops.size).all fun j => slotOf bytes19Ops j != some s) = true → a.tmps[s]? = a0.tmps[s]? := by
    intro s h
    refine hbase s fun j hj _ e => ?_
    have h2 := (List.all_eq_true.1 h) j (List.mem_range.2 hj)
    rw [e] at h2; simp at h2
  match i, hi with
  | 0, _ =>
    obtain rfl : { dst := some 91, op := Op.move (Operand.tmp 4), type := 9, pos := "law.go:67", after := #[], guard := none } = o := Option.some.inj (show bytes19Ops[0]? = some _ from ho)
    have qb4 := (bas 4 (by kernel_rfl)).trans h4
    have eb4 := eval_at qb4
    refine inv_val (G := Kd.ok z (bytes19K us ua ub be ni nk l at_ zz 0)) (R := fun x y => Below x.heap.size x y) (wanted_none rfl) (v := (.string us)) (w2 := x) (by simp only [execOp, eb4]; go_simp) hK rfl (Below.refl _ _)
  | 1, _ =>
    obtain rfl : { dst := some 92, op := Op.move (Operand.tmp 1), type := 22, pos := "law.go:67", after := #[], guard := none } = o := Option.some.inj (show bytes19Ops[1]? = some _ from ho)
    have qb1 := (bas 1 (by kernel_rfl)).trans h1
    have eb1 := eval_at qb1
    refine inv_val (G := Kd.ok z (bytes19K us ua ub be ni nk l at_ zz 1)) (R := fun x y => Below x.heap.size x y) (wanted_none rfl) (v := (.slice (some ⟨be, 0, none⟩) 10 10)) (w2 := x) (by simp only [execOp, eb1]; go_simp) hK rfl (Below.refl _ _)
  | 2, _ =>
    obtain rfl : { dst := some 93, op := Op.move (Operand.tmp 6), type := 3, pos := "law.go:67", after := #[], guard := none } = o := Option.some.inj (show bytes19Ops[2]? = some _ from ho)
    have qb6 := (bas 6 (by kernel_rfl)).trans h6
    have eb6 := eval_at qb6
    refine inv_val (G := Kd.ok z (bytes19K us ua ub be ni nk l at_ zz 2)) (R := fun x y => Below x.heap.size x y) (wanted_none rfl) (v := (.int .i64 (ni : Nat))) (w2 := x) (by simp only [execOp, eb6]; go_simp) hK rfl (Below.refl _ _)
  | 3, _ =>
    obtain rfl : { dst := some 94, op := Op.indexAddr 22 (Operand.tmp 92) (Operand.tmp 93), type := 0, pos := "law.go:67", after := #[{ on := 1, ground := Ground.data }, { on := 2, ground := Ground.data }], guard := none } = o := Option.some.inj (show bytes19Ops[3]? = some _ from ho)
    obtain ⟨t1, g1⟩ := dep 1 (by kernel_rfl)
    have q1 := t1 92 (by rfl)
    have e1 := eval_at q1
    obtain ⟨t2, g2⟩ := dep 2 (by kernel_rfl)
    have q2 := t2 93 (by rfl)
    have e2 := eval_at q2
    have w1 : f 1 = (.slice (some ⟨be, 0, none⟩) 10 10) := g1
    have w2 : f 2 = (.int .i64 (ni : Nat)) := g2
    rw [w1] at e1
    rw [w2] at e2
    refine inv_val (G := Kd.ok z (bytes19K us ua ub be ni nk l at_ zz 3)) (R := fun x y => Below x.heap.size x y) (wanted_none rfl) (v := (.pointer (some ⟨be, ni, none⟩))) (w2 := x) (by simp only [execOp, e1, e2]; go_simp) hK rfl (Below.refl _ _)
  | 4, _ =>
    obtain rfl : { dst := some 95, op := Op.load 9 (Operand.tmp 94), type := 9, pos := "law.go:67", after := #[{ on := 3, ground := Ground.data }], guard := none } = o := Option.some.inj (show bytes19Ops[4]? = some _ from ho)
    obtain ⟨t3, g3⟩ := dep 3 (by kernel_rfl)
    have q3 := t3 94 (by rfl)
    have e3 := eval_at q3
    have w3 : f 3 = (.pointer (some ⟨be, ni, none⟩)) := g3
    rw [w3] at e3
    have hc := below_cell hR ca
    refine inv_val (G := Kd.ok z (bytes19K us ua ub be ni nk l at_ zz 4)) (R := fun x y => Below x.heap.size x y) (wanted_none rfl) (v := (.string ua)) (w2 := x) (by simp only [execOp, e3]; go_simp) hK rfl (Below.refl _ _)
  | 5, _ =>
    obtain rfl : { dst := some 96, op := Op.binOp BinOp.add 9 (Operand.tmp 91) (Operand.tmp 95) 9, type := 9, pos := "law.go:67", after := #[{ on := 0, ground := Ground.data }, { on := 4, ground := Ground.data }], guard := none } = o := Option.some.inj (show bytes19Ops[5]? = some _ from ho)
    obtain ⟨t0, g0⟩ := dep 0 (by kernel_rfl)
    have q0 := t0 91 (by rfl)
    have e0 := eval_at q0
    obtain ⟨t4, g4⟩ := dep 4 (by kernel_rfl)
    have q4 := t4 95 (by rfl)
    have e4 := eval_at q4
    have w0 : f 0 = (.string us) := g0
    have w4 : f 4 = (.string ua) := g4
    rw [w0] at e0
    rw [w4] at e4
    refine inv_val (G := Kd.ok z (bytes19K us ua ub be ni nk l at_ zz 5)) (R := fun x y => Below x.heap.size x y) (wanted_none rfl) (v := (.string (us ++ ua))) (w2 := x) (by simp only [execOp, e0, e4]; go_simp; omega) hK rfl (Below.refl _ _)
  | 6, _ =>
    obtain rfl : { dst := some 97, op := Op.move (Operand.tmp 1), type := 22, pos := "law.go:67", after := #[], guard := none } = o := Option.some.inj (show bytes19Ops[6]? = some _ from ho)
    have qb1 := (bas 1 (by kernel_rfl)).trans h1
    have eb1 := eval_at qb1
    refine inv_val (G := Kd.ok z (bytes19K us ua ub be ni nk l at_ zz 6)) (R := fun x y => Below x.heap.size x y) (wanted_none rfl) (v := (.slice (some ⟨be, 0, none⟩) 10 10)) (w2 := x) (by simp only [execOp, eb1]; go_simp) hK rfl (Below.refl _ _)
  | 7, _ =>
    obtain rfl : { dst := some 98, op := Op.move (Operand.tmp 7), type := 3, pos := "law.go:67", after := #[], guard := none } = o := Option.some.inj (show bytes19Ops[7]? = some _ from ho)
    have qb7 := (bas 7 (by kernel_rfl)).trans h7
    have eb7 := eval_at qb7
    refine inv_val (G := Kd.ok z (bytes19K us ua ub be ni nk l at_ zz 7)) (R := fun x y => Below x.heap.size x y) (wanted_none rfl) (v := (.int .i64 (nk : Nat))) (w2 := x) (by simp only [execOp, eb7]; go_simp) hK rfl (Below.refl _ _)
  | 8, _ =>
    obtain rfl : { dst := some 99, op := Op.indexAddr 22 (Operand.tmp 97) (Operand.tmp 98), type := 0, pos := "law.go:67", after := #[{ on := 6, ground := Ground.data }, { on := 7, ground := Ground.data }], guard := none } = o := Option.some.inj (show bytes19Ops[8]? = some _ from ho)
    obtain ⟨t6, g6⟩ := dep 6 (by kernel_rfl)
    have q6 := t6 97 (by rfl)
    have e6 := eval_at q6
    obtain ⟨t7, g7⟩ := dep 7 (by kernel_rfl)
    have q7 := t7 98 (by rfl)
    have e7 := eval_at q7
    have w6 : f 6 = (.slice (some ⟨be, 0, none⟩) 10 10) := g6
    have w7 : f 7 = (.int .i64 (nk : Nat)) := g7
    rw [w6] at e6
    rw [w7] at e7
    refine inv_val (G := Kd.ok z (bytes19K us ua ub be ni nk l at_ zz 8)) (R := fun x y => Below x.heap.size x y) (wanted_none rfl) (v := (.pointer (some ⟨be, nk, none⟩))) (w2 := x) (by simp only [execOp, e6, e7]; go_simp) hK rfl (Below.refl _ _)
  | 9, _ =>
    obtain rfl : { dst := some 100, op := Op.load 9 (Operand.tmp 99), type := 9, pos := "law.go:67", after := #[{ on := 8, ground := Ground.data }], guard := none } = o := Option.some.inj (show bytes19Ops[9]? = some _ from ho)
    obtain ⟨t8, g8⟩ := dep 8 (by kernel_rfl)
    have q8 := t8 99 (by rfl)
    have e8 := eval_at q8
    have w8 : f 8 = (.pointer (some ⟨be, nk, none⟩)) := g8
    rw [w8] at e8
    have hc := below_cell hR cb
    refine inv_val (G := Kd.ok z (bytes19K us ua ub be ni nk l at_ zz 9)) (R := fun x y => Below x.heap.size x y) (wanted_none rfl) (v := (.string ub)) (w2 := x) (by simp only [execOp, e8]; go_simp) hK rfl (Below.refl _ _)
  | 10, _ =>
    obtain rfl : { dst := some 101, op := Op.binOp BinOp.add 9 (Operand.tmp 96) (Operand.tmp 100) 9, type := 9, pos := "law.go:67", after := #[{ on := 5, ground := Ground.data }, { on := 9, ground := Ground.data }], guard := none } = o := Option.some.inj (show bytes19Ops[10]? = some _ from ho)
    obtain ⟨t5, g5⟩ := dep 5 (by kernel_rfl)
    have q5 := t5 96 (by rfl)
    have e5 := eval_at q5
    obtain ⟨t9, g9⟩ := dep 9 (by kernel_rfl)
    have q9 := t9 100 (by rfl)
    have e9 := eval_at q9
    have w5 : f 5 = (.string (us ++ ua)) := g5
    have w9 : f 9 = (.string ub) := g9
    rw [w5] at e5
    rw [w9] at e9
    refine inv_val (G := Kd.ok z (bytes19K us ua ub be ni nk l at_ zz 10)) (R := fun x y => Below x.heap.size x y) (wanted_none rfl) (v := (.string (us ++ ua ++ ub))) (w2 := x) (by simp only [execOp, e5, e9]; go_simp; omega) hK rfl (Below.refl _ _)
  | 11, _ =>
    obtain rfl : { dst := some 102, op := Op.call { callee := Callee.value (Operand.func 5), args := #[Operand.tmp 101], argTypes := #[9] }, type := 26, pos := "law.go:67", after := #[{ on := 10, ground := Ground.data }], guard := none } = o := Option.some.inj (show bytes19Ops[11]? = some _ from ho)
    obtain ⟨t10, g10⟩ := dep 10 (by kernel_rfl)
    have q10 := t10 101 (by rfl)
    have e10 := eval_at q10
    refine inv_call (G := Kd.ok z (bytes19K us ua ub be ni nk l at_ zz 11)) (R := fun x y => Below x.heap.size x y) (wanted_none rfl) (F := 5) (args := #[f 10]) (by simp [go_sem, q10]) hK ?_
    exact k_rof g10 (by omega) hr
  | 12, _ =>
    obtain rfl : { dst := some 90, op := Op.move (Operand.tmp 102), type := 26, pos := "law.go:67", after := #[{ on := 11, ground := Ground.data }], guard := none } = o := Option.some.inj (show bytes19Ops[12]? = some _ from ho)
    obtain ⟨t11, g11⟩ := dep 11 (by kernel_rfl)
    have q11 := t11 102 (by rfl)
    have e11 := eval_at q11
    refine inv_val (G := Kd.ok z (bytes19K us ua ub be ni nk l at_ zz 12)) (R := fun x y => Below x.heap.size x y) (wanted_none rfl) (v := (f 11)) (w2 := x) (by simp only [execOp, e11]; go_simp) hK g11 (Below.refl _ _)
  | 13, _ =>
    obtain rfl : { dst := some 103, op := Op.extract (Operand.tmp 90) 0, type := 24, pos := "law.go:67", after := #[{ on := 12, ground := Ground.data }], guard := none } = o := Option.some.inj (show bytes19Ops[13]? = some _ from ho)
    obtain ⟨t12, g12⟩ := dep 12 (by kernel_rfl)
    have q12 := t12 90 (by rfl)
    have e12 := eval_at q12
    obtain ⟨p, c, hu, hs⟩ := g12
    rw [hu] at e12
    refine inv_val (G := Kd.ok z (bytes19K us ua ub be ni nk l at_ zz 13)) (R := fun x y => Below x.heap.size x y) (wanted_none rfl) (w2 := x) (by simp only [execOp, e12]; rfl) hK ⟨p, c, rfl, hs⟩ (Below.refl _ _)
  | 14, _ =>
    obtain rfl : { dst := some 104, op := Op.extract (Operand.tmp 90) 1, type := 3, pos := "law.go:67", after := #[{ on := 12, ground := Ground.data }, { on := 16, ground := Ground.gcOnly Departure.lateStores }], guard := none } = o := Option.some.inj (show bytes19Ops[14]? = some _ from ho)
    obtain ⟨t12, g12⟩ := dep 12 (by kernel_rfl)
    have q12 := t12 90 (by rfl)
    have e12 := eval_at q12
    obtain ⟨p, c, hu, hs⟩ := g12
    rw [hu] at e12
    refine inv_val (G := Kd.ok z (bytes19K us ua ub be ni nk l at_ zz 14)) (R := fun x y => Below x.heap.size x y) (wanted_none rfl) (w2 := x) (by simp only [execOp, e12]; rfl) hK rfl (Below.refl _ _)
  | 15, _ =>
    obtain rfl : { dst := some 105, op := Op.extract (Operand.tmp 90) 2, type := 25, pos := "law.go:67", after := #[{ on := 12, ground := Ground.data }, { on := 17, ground := Ground.gcOnly Departure.lateStores }], guard := none } = o := Option.some.inj (show bytes19Ops[15]? = some _ from ho)
    obtain ⟨t12, g12⟩ := dep 12 (by kernel_rfl)
    have q12 := t12 90 (by rfl)
    have e12 := eval_at q12
    obtain ⟨p, c, hu, hs⟩ := g12
    rw [hu] at e12
    refine inv_val (G := Kd.ok z (bytes19K us ua ub be ni nk l at_ zz 15)) (R := fun x y => Below x.heap.size x y) (wanted_none rfl) (w2 := x) (by simp only [execOp, e12]; rfl) hK rfl (Below.refl _ _)
  | 16, _ =>
    obtain rfl : { dst := some 11, op := Op.assign (Operand.tmp 103), type := 24, pos := "law.go:67", after := #[{ on := 13, ground := Ground.data }, { on := 11, ground := Ground.chain }, { on := 0, ground := Ground.phase }, { on := 1, ground := Ground.phase }, { on := 2, ground := Ground.phase }, { on := 3, ground := Ground.phase }, { on := 4, ground := Ground.phase }, { on := 5, ground := Ground.phase }, { on := 6, ground := Ground.phase }, { on := 7, ground := Ground.phase }, { on := 8, ground := Ground.phase }, { on := 9, ground := Ground.phase }, { on := 10, ground := Ground.phase }, { on := 11, ground := Ground.phase }, { on := 12, ground := Ground.phase }, { on := 13, ground := Ground.phase }, { on := 14, ground := Ground.textOnly Departure.lateStores }, { on := 15, ground := Ground.textOnly Departure.lateStores }], guard := none } = o := Option.some.inj (show bytes19Ops[16]? = some _ from ho)
    obtain ⟨t13, g13⟩ := dep 13 (by kernel_rfl)
    have q13 := t13 103 (by rfl)
    have e13 := eval_at q13
    refine inv_val (G := Kd.ok z (bytes19K us ua ub be ni nk l at_ zz 16)) (R := fun x y => Below x.heap.size x y) (wanted_none rfl) (v := (f 13)) (w2 := x) (by simp only [execOp, e13]; go_simp) hK g13 (Below.refl _ _)
  | 17, _ =>
    obtain rfl : { dst := some 12, op := Op.assign (Operand.tmp 104), type := 3, pos := "law.go:67", after := #[{ on := 14, ground := Ground.data }, { on := 16, ground := Ground.chain }, { on := 0, ground := Ground.phase }, { on := 1, ground := Ground.phase }, { on := 2, ground := Ground.phase }, { on := 3, ground := Ground.phase }, { on := 4, ground := Ground.phase }, { on := 5, ground := Ground.phase }, { on := 6, ground := Ground.phase }, { on := 7, ground := Ground.phase }, { on := 8, ground := Ground.phase }, { on := 9, ground := Ground.phase }, { on := 10, ground := Ground.phase }, { on := 11, ground := Ground.phase }, { on := 12, ground := Ground.phase }, { on := 13, ground := Ground.phase }, { on := 14, ground := Ground.phase }, { on := 15, ground := Ground.textOnly Departure.lateStores }, { on := 16, ground := Ground.phase }], guard := none } = o := Option.some.inj (show bytes19Ops[17]? = some _ from ho)
    obtain ⟨t14, g14⟩ := dep 14 (by kernel_rfl)
    have q14 := t14 104 (by rfl)
    have e14 := eval_at q14
    have w14 : f 14 = (.int .i64 (at_ : Nat)) := g14
    rw [w14] at e14
    refine inv_val (G := Kd.ok z (bytes19K us ua ub be ni nk l at_ zz 17)) (R := fun x y => Below x.heap.size x y) (wanted_none rfl) (v := (.int .i64 (at_ : Nat))) (w2 := x) (by simp only [execOp, e14]; go_simp) hK rfl (Below.refl _ _)
  | 18, _ =>
    obtain rfl : { dst := some 13, op := Op.assign (Operand.tmp 105), type := 25, pos := "law.go:67", after := #[{ on := 15, ground := Ground.data }, { on := 17, ground := Ground.chain }, { on := 0, ground := Ground.phase }, { on := 1, ground := Ground.phase }, { on := 2, ground := Ground.phase }, { on := 3, ground := Ground.phase }, { on := 4, ground := Ground.phase }, { on := 5, ground := Ground.phase }, { on := 6, ground := Ground.phase }, { on := 7, ground := Ground.phase }, { on := 8, ground := Ground.phase }, { on := 9, ground := Ground.phase }, { on := 10, ground := Ground.phase }, { on := 11, ground := Ground.phase }, { on := 12, ground := Ground.phase }, { on := 13, ground := Ground.phase }, { on := 14, ground := Ground.phase }, { on := 15, ground := Ground.phase }, { on := 16, ground := Ground.phase }, { on := 17, ground := Ground.phase }], guard := none } = o := Option.some.inj (show bytes19Ops[18]? = some _ from ho)
    obtain ⟨t15, g15⟩ := dep 15 (by kernel_rfl)
    have q15 := t15 105 (by rfl)
    have e15 := eval_at q15
    have w15 : f 15 = (.int .i64 (zz : Nat)) := g15
    rw [w15] at e15
    refine inv_val (G := Kd.ok z (bytes19K us ua ub be ni nk l at_ zz 18)) (R := fun x y => Below x.heap.size x y) (wanted_none rfl) (v := (.int .i64 (zz : Nat))) (w2 := x) (by simp only [execOp, e15]; go_simp) hK rfl (Below.refl _ _)
def bytes29Ops : Array Oper := #[{ dst := some 133, op := Op.move (Operand.tmp 14), type := 24, pos := "law.go:78", after := #[], guard := none },
  { dst := some 134, op := Op.move (Operand.tmp 15), type := 3, pos := "law.go:78", after := #[], guard := none },
  { dst := some 135, op := Op.indexAddr 24 (Operand.tmp 133) (Operand.tmp 134), type := 0, pos := "law.go:78", after := #[{ on := 0, ground := Ground.data }, { on := 1, ground := Ground.data }], guard := none },
  { dst := some 136, op := Op.load 3 (Operand.tmp 135), type := 3, pos := "law.go:78", after := #[{ on := 2, ground := Ground.data }], guard := none },
  { dst := some 137, op := Op.move (Operand.tmp 14), type := 24, pos := "law.go:78", after := #[], guard := none },
  { dst := some 138, op := Op.move (Operand.tmp 16), type := 3, pos := "law.go:78", after := #[], guard := none },
  { dst := some 139, op := Op.indexAddr 24 (Operand.tmp 137) (Operand.tmp 138), type := 0, pos := "law.go:78", after := #[{ on := 4, ground := Ground.data }, { on := 5, ground := Ground.data }], guard := none },
  { dst := some 140, op := Op.load 3 (Operand.tmp 139), type := 3, pos := "law.go:78", after := #[{ on := 6, ground := Ground.data }], guard := none },
  { dst := some 141, op := Op.buildSlice 24 2 #[(0, Operand.tmp 136), (1, Operand.tmp 140)], type := 24, pos := "law.go:78", after := #[{ on := 3, ground := Ground.data }, { on := 7, ground := Ground.data }], guard := none },
  { dst := some 142, op := Op.call { callee := Callee.value (Operand.func 7), args := #[Operand.tmp 141], argTypes := #[24] }, type := 4, pos := "law.go:78", after := #[{ on := 8, ground := Ground.data }], guard := none },
  { dst := some 143, op := Op.unOp UnOp.not 4 (Operand.tmp 142), type := 4, pos := "law.go:78", after := #[{ on := 9, ground := Ground.data }], guard := none },
  { dst := some 144, op := Op.move (Operand.tmp 143), type := 4, pos := "law.go:78", after := #[{ on := 10, ground := Ground.data }, { on := 9, ground := Ground.chain }], guard := none },
  { dst := some 145, op := Op.move (Operand.tmp 14), type := 24, pos := "law.go:78", after := #[{ on := 11, ground := Ground.guard }], guard := some (11, false) },
  { dst := some 146, op := Op.move (Operand.tmp 15), type := 3, pos := "law.go:78", after := #[{ on := 11, ground := Ground.guard }], guard := some (11, false) },
  { dst := some 147, op := Op.indexAddr 24 (Operand.tmp 145) (Operand.tmp 146), type := 0, pos := "law.go:78", after := #[{ on := 12, ground := Ground.data }, { on := 13, ground := Ground.data }, { on := 11, ground := Ground.guard }], guard := some (11, false) },
  { dst := some 148, op := Op.load 3 (Operand.tmp 147), type := 3, pos := "law.go:78", after := #[{ on := 14, ground := Ground.data }, { on := 11, ground := Ground.guard }], guard := some (11, false) },
  { dst := some 149, op := Op.move (Operand.tmp 14), type := 24, pos := "law.go:78", after := #[{ on := 11, ground := Ground.guard }], guard := some (11, false) },
  { dst := some 150, op := Op.move (Operand.tmp 16), type := 3, pos := "law.go:78", after := #[{ on := 11, ground := Ground.guard }], guard := some (11, false) },
  { dst := some 151, op := Op.indexAddr 24 (Operand.tmp 149) (Operand.tmp 150), type := 0, pos := "law.go:78", after := #[{ on := 16, ground := Ground.data }, { on := 17, ground := Ground.data }, { on := 11, ground := Ground.guard }], guard := some (11, false) },
  { dst := some 152, op := Op.load 3 (Operand.tmp 151), type := 3, pos := "law.go:78", after := #[{ on := 18, ground := Ground.data }, { on := 11, ground := Ground.guard }], guard := some (11, false) },
  { dst := some 153, op := Op.call { callee := Callee.value (Operand.func 8), args := #[Operand.tmp 148, Operand.tmp 152], argTypes := #[3, 3] }, type := 4, pos := "law.go:78", after := #[{ on := 15, ground := Ground.data }, { on := 19, ground := Ground.data }, { on := 11, ground := Ground.chain }, { on := 11, ground := Ground.guard }], guard := some (11, false) },
  { dst := some 154, op := Op.unOp UnOp.not 4 (Operand.tmp 153), type := 4, pos := "law.go:78", after := #[{ on := 20, ground := Ground.data }, { on := 11, ground := Ground.guard }], guard := some (11, false) },
  { dst := some 155, op := Op.pick (Operand.tmp 144) (Operand.const (Value.bool true)) (Operand.tmp 154), type := 4, pos := "law.go:78", after := #[{ on := 11, ground := Ground.data }, { on := 21, ground := Ground.data }], guard := none },
  { dst := some 156, op := Op.move (Operand.tmp 155), type := 4, pos := "law.go:78", after := #[{ on := 22, ground := Ground.data }, { on := 20, ground := Ground.chain }], guard := none },
  { dst := some 157, op := Op.move (Operand.tmp 14), type := 24, pos := "law.go:78", after := #[{ on := 23, ground := Ground.guard }], guard := some (23, false) },
  { dst := some 158, op := Op.move (Operand.tmp 15), type := 3, pos := "law.go:78", after := #[{ on := 23, ground := Ground.guard }], guard := some (23, false) },
  { dst := some 159, op := Op.indexAddr 24 (Operand.tmp 157) (Operand.tmp 158), type := 0, pos := "law.go:78", after := #[{ on := 24, ground := Ground.data }, { on := 25, ground := Ground.data }, { on := 23, ground := Ground.guard }], guard := some (23, false) },
  { dst := some 160, op := Op.load 3 (Operand.tmp 159), type := 3, pos := "law.go:78", after := #[{ on := 26, ground := Ground.data }, { on := 23, ground := Ground.guard }], guard := some (23, false) },
  { dst := some 161, op := Op.binOp BinOp.add 3 (Operand.tmp 160) (Operand.const (Value.int IntKind.i64 4294967296)) 3, type := 3, pos := "law.go:78", after := #[{ on := 27, ground := Ground.data }, { on := 23, ground := Ground.guard }], guard := some (23, false) },
  { dst := some 162, op := Op.move (Operand.tmp 14), type := 24, pos := "law.go:78", after := #[{ on := 23, ground := Ground.guard }], guard := some (23, false) },
  { dst := some 163, op := Op.move (Operand.tmp 16), type := 3, pos := "law.go:78", after := #[{ on := 23, ground := Ground.guard }], guard := some (23, false) },
  { dst := some 164, op := Op.indexAddr 24 (Operand.tmp 162) (Operand.tmp 163), type := 0, pos := "law.go:78", after := #[{ on := 29, ground := Ground.data }, { on := 30, ground := Ground.data }, { on := 23, ground := Ground.guard }], guard := some (23, false) },
  { dst := some 165, op := Op.load 3 (Operand.tmp 164), type := 3, pos := "law.go:78", after := #[{ on := 31, ground := Ground.data }, { on := 23, ground := Ground.guard }], guard := some (23, false) },
  { dst := some 166, op := Op.call { callee := Callee.value (Operand.func 8), args := #[Operand.tmp 161, Operand.tmp 165], argTypes := #[3, 3] }, type := 4, pos := "law.go:78", after := #[{ on := 28, ground := Ground.data }, { on := 32, ground := Ground.data }, { on := 23, ground := Ground.chain }, { on := 23, ground := Ground.guard }], guard := some (23, false) },
  { dst := some 167, op := Op.unOp UnOp.not 4 (Operand.tmp 166), type := 4, pos := "law.go:78", after := #[{ on := 33, ground := Ground.data }, { on := 23, ground := Ground.guard }], guard := some (23, false) },
  { dst := some 168, op := Op.pick (Operand.tmp 156) (Operand.const (Value.bool true)) (Operand.tmp 167), type := 4, pos := "law.go:78", after := #[{ on := 23, ground := Ground.data }, { on := 34, ground := Ground.data }], guard := none }]
def bytes29Pre : Array Bool := #[true, true, true, true, true, true, true, true, true, true, true, true, true, true, true, true, true, true, true, true, true, true, true, true, true, true, true, true, true, true, true, true, true, true, true, true]
def bytes29K (na nb : Int) (bn ni nk : Nat) : Nat → Kd
  | 0 => .val (.slice (some ⟨bn, 0, none⟩) 18 18)
  | 1 => .val (.int .i64 (ni : Nat))
  | 2 => .val (.pointer (some ⟨bn, ni, none⟩))
  | 3 => .val (.int .i64 (na))
  | 4 => .val (.slice (some ⟨bn, 0, none⟩) 18 18)
  | 5 => .val (.int .i64 (nk : Nat))
  | 6 => .val (.pointer (some ⟨bn, nk, none⟩))
  | 7 => .val (.int .i64 (nb))
  | 8 => .row [na, nb]
  | 9 => .val (.bool true)
  | 10 => .val (.bool false)
  | 11 => .val (.bool false)
  | 12 => .val (.slice (some ⟨bn, 0, none⟩) 18 18)
  | 13 => .val (.int .i64 (ni : Nat))
  | 14 => .val (.pointer (some ⟨bn, ni, none⟩))
  | 15 => .val (.int .i64 (na))
  | 16 => .val (.slice (some ⟨bn, 0, none⟩) 18 18)
  | 17 => .val (.int .i64 (nk : Nat))
  | 18 => .val (.pointer (some ⟨bn, nk, none⟩))
  | 19 => .val (.int .i64 (nb))
  | 20 => .val (.bool true)
  | 21 => .val (.bool false)
  | 22 => .val (.bool false)
  | 23 => .val (.bool false)
  | 24 => .val (.slice (some ⟨bn, 0, none⟩) 18 18)
  | 25 => .val (.int .i64 (ni : Nat))
  | 26 => .val (.pointer (some ⟨bn, ni, none⟩))
  | 27 => .val (.int .i64 (na))
  | 28 => .anyint
  | 29 => .val (.slice (some ⟨bn, 0, none⟩) 18 18)
  | 30 => .val (.int .i64 (nk : Nat))
  | 31 => .val (.pointer (some ⟨bn, nk, none⟩))
  | 32 => .val (.int .i64 (nb))
  | 33 => .val (.bool true)
  | 34 => .val (.bool false)
  | 35 => .val (.bool false)
  | _ => .val undef
theorem bytes29_slots (f : Nat → Value) : slotsOf bytes29Ops bytes29Pre f = [(133, f 0), (134, f 1), (135, f 2), (136, f 3), (137, f 4), (138, f 5), (139, f 6), (140, f 7), (141, f 8), (142, f 9), (143, f 10), (144, f 11), (145, f 12), (146, f 13), (147, f 14), (148, f 15), (149, f 16), (150, f 17), (151, f 18), (152, f 19), (153, f 20), (154, f 21), (155, f 22), (156, f 23), (157, f 24), (158, f 25), (159, f 26), (160, f 27), (161, f 28), (162, f 29), (163, f 30), (164, f 31), (165, f 32), (166, f 33), (167, f 34), (168, f 35)] := by kernel_rfl
set_option maxHeartbeats 6400000 in
set_option maxRecDepth 100000 in
theorem bytes29_wp {Q : Exit → Act → World → Prop} {a0 : Act} {w : World} {z : Nat} (na nb : Int) (bn ni nk : Nat) (hz : z ≤ w.drew.heap.size) (hsize : a0.tmps.size = 241) (h14 : a0.tmps[14]? = some (.slice (some ⟨bn, 0, none⟩) 18 18)) (h15 : a0.tmps[15]? = some (.int .i64 (ni : Nat))) (h16 : a0.tmps[16]? = some (.int .i64 (nk : Nat))) (hiI : (ni : Int) < 18) (hkI : (nk : Int) < 18)
    (ca : w.drew.cell? ⟨bn, ni, none⟩ = some (.int .i64 na)) (cb : w.drew.cell? ⟨bn, nk, none⟩ = some (.int .i64 nb)) (hL : LeadsIn w.drew) (hS : SizesIn w.drew)
    (fin : ∀ (f : Nat → Value) (y : World), (∀ j, j < 36 → bytes29Pre.getD j false = true → Kd.ok z (bytes29K na nb bn ni nk j) (f j) y) → Below w.drew.heap.size w.drew y → Q .normal (putL a0 [(133, f 0), (134, f 1), (135, f 2), (136, f 3), (137, f 4), (138, f 5), (139, f 6), (140, f 7), (141, f 8), (142, f 9), (143, f 10), (144, f 11), (145, f 12), (146, f 13), (147, f 14), (148, f 15), (149, f 16), (150, f 17), (151, f 18), (152, f 19), (153, f 20), (154, f 21), (155, f 22), (156, f 23), (157, f 24), (158, f 25), (159, f 26), (160, f 27), (161, f 28), (162, f 29), (163, f 30), (164, f 31), (165, f 32), (166, f 33), (167, f 34), (168, f 35)]) y) (id : Nat) :
    (Code.region id bytes29Ops true).wp Tryd.prog Q a0 w := by
  refine wp_region_inv bytes29Pre (fun j => Kd.ok z (bytes29K na nb bn ni nk j)) (fun x y => Below x.heap.size x y) 36 0 (by kernel_rfl) (by kernel_rfl) (by rw [hsize]; kernel_rfl) (by kernel_rfl) (by kernel_rfl) (Below.refl _ _) (fun _ _ _ h1 h2 => bl_trans h1 h2) (fun _ _ _ _ h1 h2 => Kd.below h1 h2) ?_ (fun f y h1 h2 => by rw [bytes29_slots]; exact any_end (by kernel_rfl) (fin f y h1 h2) 0)
  intro i o ho hp f a x hR hbase hdeps K hK
  have hi : i < 36 := by
    rcases Nat.lt_or_ge i 36 with h | h
    · exact h
    · have : bytes29Ops.size ≤ i := h
      rw [Array.getElem?_eq_none this] at ho; cases ho
  have hzx : z ≤ x.heap.size := Nat.le_trans hz hR.size
  have dep : ∀ j, (o.after.any fun e => Region.binds .any e && e.on == j) = true → (∀ s, slotOf bytes29Ops j = some s → a.tmps[s]? = some (f j)) ∧ Kd.ok z (bytes29K na nb bn ni nk j) (f j) x := by
    intro j h
    obtain ⟨e, he, h2⟩ := Array.any_eq_true'.1 h
    simp only [Bool.and_eq_true, beq_iff_eq] at h2
    obtain ⟨h3, rfl⟩ := h2
    exact hdeps e he h3
  have bas : ∀ s, ((List.range bytes29Ops.size).all fun j => slotOf bytes29Ops j != some s) = true → a.tmps[s]? = a0.tmps[s]? := by
    intro s h
    refine hbase s fun j hj _ e => ?_
    have h2 := (List.all_eq_true.1 h) j (List.mem_range.2 hj)
    rw [e] at h2; simp at h2
  match i, hi with
  | 0, _ =>
    obtain rfl : { dst := some 133, op := Op.move (Operand.tmp 14), type := 24, pos := "law.go:78", after := #[], guard := none } = o := Option.some.inj (show bytes29Ops[0]? = some _ from ho)
    have qb14 := (bas 14 (by kernel_rfl)).trans h14
    have eb14 := eval_at qb14
    refine inv_val (G := Kd.ok z (bytes29K na nb bn ni nk 0)) (R := fun x y => Below x.heap.size x y) (wanted_none rfl) (v := (.slice (some ⟨bn, 0, none⟩) 18 18)) (w2 := x) (by simp only [execOp, eb14]; go_simp) hK rfl (Below.refl _ _)
  | 1, _ =>
    obtain rfl : { dst := some 134, op := Op.move (Operand.tmp 15), type := 3, pos := "law.go:78", after := #[], guard := none } = o := Option.some.inj (show bytes29Ops[1]? = some _ from ho)
    have qb15 := (bas 15 (by kernel_rfl)).trans h15
    have eb15 := eval_at qb15
    refine inv_val (G := Kd.ok z (bytes29K na nb bn ni nk 1)) (R := fun x y => Below x.heap.size x y) (wanted_none rfl) (v := (.int .i64 (ni : Nat))) (w2 := x) (by simp only [execOp, eb15]; go_simp) hK rfl (Below.refl _ _)
  | 2, _ =>
    obtain rfl : { dst := some 135, op := Op.indexAddr 24 (Operand.tmp 133) (Operand.tmp 134), type := 0, pos := "law.go:78", after := #[{ on := 0, ground := Ground.data }, { on := 1, ground := Ground.data }], guard := none } = o := Option.some.inj (show bytes29Ops[2]? = some _ from ho)
    obtain ⟨t0, g0⟩ := dep 0 (by kernel_rfl)
    have q0 := t0 133 (by rfl)
    have e0 := eval_at q0
    obtain ⟨t1, g1⟩ := dep 1 (by kernel_rfl)
    have q1 := t1 134 (by rfl)
    have e1 := eval_at q1
    have w0 : f 0 = (.slice (some ⟨bn, 0, none⟩) 18 18) := g0
    have w1 : f 1 = (.int .i64 (ni : Nat)) := g1
    rw [w0] at e0
    rw [w1] at e1
    refine inv_val (G := Kd.ok z (bytes29K na nb bn ni nk 2)) (R := fun x y => Below x.heap.size x y) (wanted_none rfl) (v := (.pointer (some ⟨bn, ni, none⟩))) (w2 := x) (by simp only [execOp, e0, e1]; go_simp) hK rfl (Below.refl _ _)
  | 3, _ =>
    obtain rfl : { dst := some 136, op := Op.load 3 (Operand.tmp 135), type := 3, pos := "law.go:78", after := #[{ on := 2, ground := Ground.data }], guard := none } = o := Option.some.inj (show bytes29Ops[3]? = some _ from ho)
    obtain ⟨t2, g2⟩ := dep 2 (by kernel_rfl)
    have q2 := t2 135 (by rfl)
    have e2 := eval_at q2
    have w2 : f 2 = (.pointer (some ⟨bn, ni, none⟩)) := g2
    rw [w2] at e2
    have hc := below_cell hR ca
    refine inv_val (G := Kd.ok z (bytes29K na nb bn ni nk 3)) (R := fun x y => Below x.heap.size x y) (wanted_none rfl) (v := (.int .i64 (na))) (w2 := x) (by simp only [execOp, e2]; go_simp) hK rfl (Below.refl _ _)
  | 4, _ =>
    obtain rfl : { dst := some 137, op := Op.move (Operand.tmp 14), type := 24, pos := "law.go:78", after := #[], guard := none } = o := Option.some.inj (show bytes29Ops[4]? = some _ from ho)
    have qb14 := (bas 14 (by kernel_rfl)).trans h14
    have eb14 := eval_at qb14
    refine inv_val (G := Kd.ok z (bytes29K na nb bn ni nk 4)) (R := fun x y => Below x.heap.size x y) (wanted_none rfl) (v := (.slice (some ⟨bn, 0, none⟩) 18 18)) (w2 := x) (by simp only [execOp, eb14]; go_simp) hK rfl (Below.refl _ _)
  | 5, _ =>
    obtain rfl : { dst := some 138, op := Op.move (Operand.tmp 16), type := 3, pos := "law.go:78", after := #[], guard := none } = o := Option.some.inj (show bytes29Ops[5]? = some _ from ho)
    have qb16 := (bas 16 (by kernel_rfl)).trans h16
    have eb16 := eval_at qb16
    refine inv_val (G := Kd.ok z (bytes29K na nb bn ni nk 5)) (R := fun x y => Below x.heap.size x y) (wanted_none rfl) (v := (.int .i64 (nk : Nat))) (w2 := x) (by simp only [execOp, eb16]; go_simp) hK rfl (Below.refl _ _)
  | 6, _ =>
    obtain rfl : { dst := some 139, op := Op.indexAddr 24 (Operand.tmp 137) (Operand.tmp 138), type := 0, pos := "law.go:78", after := #[{ on := 4, ground := Ground.data }, { on := 5, ground := Ground.data }], guard := none } = o := Option.some.inj (show bytes29Ops[6]? = some _ from ho)
    obtain ⟨t4, g4⟩ := dep 4 (by kernel_rfl)
    have q4 := t4 137 (by rfl)
    have e4 := eval_at q4
    obtain ⟨t5, g5⟩ := dep 5 (by kernel_rfl)
    have q5 := t5 138 (by rfl)
    have e5 := eval_at q5
    have w4 : f 4 = (.slice (some ⟨bn, 0, none⟩) 18 18) := g4
    have w5 : f 5 = (.int .i64 (nk : Nat)) := g5
    rw [w4] at e4
    rw [w5] at e5
    refine inv_val (G := Kd.ok z (bytes29K na nb bn ni nk 6)) (R := fun x y => Below x.heap.size x y) (wanted_none rfl) (v := (.pointer (some ⟨bn, nk, none⟩))) (w2 := x) (by simp only [execOp, e4, e5]; go_simp) hK rfl (Below.refl _ _)
  | 7, _ =>
    obtain rfl : { dst := some 140, op := Op.load 3 (Operand.tmp 139), type := 3, pos := "law.go:78", after := #[{ on := 6, ground := Ground.data }], guard := none } = o := Option.some.inj (show bytes29Ops[7]? = some _ from ho)
    obtain ⟨t6, g6⟩ := dep 6 (by kernel_rfl)
    have q6 := t6 139 (by rfl)
    have e6 := eval_at q6
    have w6 : f 6 = (.pointer (some ⟨bn, nk, none⟩)) := g6
    rw [w6] at e6
    have hc := below_cell hR cb
    refine inv_val (G := Kd.ok z (bytes29K na nb bn ni nk 7)) (R := fun x y => Below x.heap.size x y) (wanted_none rfl) (v := (.int .i64 (nb))) (w2 := x) (by simp only [execOp, e6]; go_simp) hK rfl (Below.refl _ _)
  | 8, _ =>
    obtain rfl : { dst := some 141, op := Op.buildSlice 24 2 #[(0, Operand.tmp 136), (1, Operand.tmp 140)], type := 24, pos := "law.go:78", after := #[{ on := 3, ground := Ground.data }, { on := 7, ground := Ground.data }], guard := none } = o := Option.some.inj (show bytes29Ops[8]? = some _ from ho)
    obtain ⟨t3, g3⟩ := dep 3 (by kernel_rfl)
    have q3 := t3 136 (by rfl)
    have e3 := eval_at q3
    obtain ⟨t7, g7⟩ := dep 7 (by kernel_rfl)
    have q7 := t7 140 (by rfl)
    have e7 := eval_at q7
    have w3 : f 3 = (.int .i64 (na)) := g3
    rw [w3] at e3
    have w7 : f 7 = (.int .i64 (nb)) := g7
    rw [w7] at e7
    obtain ⟨v, w2, hr, hrow, hb⟩ := st_pair x z ( (na)) ( (nb))
    refine inv_val (G := Kd.ok z (bytes29K na nb bn ni nk 8)) (R := fun x y => Below x.heap.size x y) (wanted_none rfl) (v := v) (w2 := w2) (by simp [execOp, e3, e7, hr]) hK hrow hb
  | 9, _ =>
    obtain rfl : { dst := some 142, op := Op.call { callee := Callee.value (Operand.func 7), args := #[Operand.tmp 141], argTypes := #[24] }, type := 4, pos := "law.go:78", after := #[{ on := 8, ground := Ground.data }], guard := none } = o := Option.some.inj (show bytes29Ops[9]? = some _ from ho)
    obtain ⟨t8, g8⟩ := dep 8 (by kernel_rfl)
    have q8 := t8 141 (by rfl)
    have e8 := eval_at q8
    refine inv_call (G := Kd.ok z (bytes29K na nb bn ni nk 9)) (R := fun x y => Below x.heap.size x y) (wanted_none rfl) (F := 7) (args := #[f 8]) (by simp [go_sem, q8]) hK ?_
    exact k_writes g8 (hL.below hR) (hS.below hR)
  | 10, _ =>
    obtain rfl : { dst := some 143, op := Op.unOp UnOp.not 4 (Operand.tmp 142), type := 4, pos := "law.go:78", after := #[{ on := 9, ground := Ground.data }], guard := none } = o := Option.some.inj (show bytes29Ops[10]? = some _ from ho)
    obtain ⟨t9, g9⟩ := dep 9 (by kernel_rfl)
    have q9 := t9 142 (by rfl)
    have e9 := eval_at q9
    have w9 : f 9 = (.bool true) := g9
    rw [w9] at e9
    refine inv_val (G := Kd.ok z (bytes29K na nb bn ni nk 10)) (R := fun x y => Below x.heap.size x y) (wanted_none rfl) (v := (.bool false)) (w2 := x) (by simp only [execOp, e9]; go_simp) hK rfl (Below.refl _ _)
  | 11, _ =>
    obtain rfl : { dst := some 144, op := Op.move (Operand.tmp 143), type := 4, pos := "law.go:78", after := #[{ on := 10, ground := Ground.data }, { on := 9, ground := Ground.chain }], guard := none } = o := Option.some.inj (show bytes29Ops[11]? = some _ from ho)
    obtain ⟨t10, g10⟩ := dep 10 (by kernel_rfl)
    have q10 := t10 143 (by rfl)
    have e10 := eval_at q10
    have w10 : f 10 = (.bool false) := g10
    rw [w10] at e10
    refine inv_val (G := Kd.ok z (bytes29K na nb bn ni nk 11)) (R := fun x y => Below x.heap.size x y) (wanted_none rfl) (v := (.bool false)) (w2 := x) (by simp only [execOp, e10]; go_simp) hK rfl (Below.refl _ _)
  | 12, _ =>
    obtain rfl : { dst := some 145, op := Op.move (Operand.tmp 14), type := 24, pos := "law.go:78", after := #[{ on := 11, ground := Ground.guard }], guard := some (11, false) } = o := Option.some.inj (show bytes29Ops[12]? = some _ from ho)
    obtain ⟨t11, g11⟩ := dep 11 (by kernel_rfl)
    have q11 := t11 144 (by rfl)
    have e11 := eval_at q11
    have v11 : f 11 = .bool false := g11
    have hw := wanted_some (ops := bytes29Ops) (o := { dst := some 145, op := Op.move (Operand.tmp 14), type := 24, pos := "law.go:78", after := #[{ on := 11, ground := Ground.guard }], guard := some (11, false) }) (a := a) (j := 11) (s := 144) (b := false) (c := false) rfl (by rfl) (by rw [← v11]; exact q11)
    have qb14 := (bas 14 (by kernel_rfl)).trans h14
    have eb14 := eval_at qb14
    have w11 : f 11 = (.bool false) := g11
    refine inv_val (G := Kd.ok z (bytes29K na nb bn ni nk 12)) (R := fun x y => Below x.heap.size x y) (hw.trans (by decide)) (v := (.slice (some ⟨bn, 0, none⟩) 18 18)) (w2 := x) (by simp only [execOp, eb14]; go_simp) hK rfl (Below.refl _ _)
  | 13, _ =>
    obtain rfl : { dst := some 146, op := Op.move (Operand.tmp 15), type := 3, pos := "law.go:78", after := #[{ on := 11, ground := Ground.guard }], guard := some (11, false) } = o := Option.some.inj (show bytes29Ops[13]? = some _ from ho)
    obtain ⟨t11, g11⟩ := dep 11 (by kernel_rfl)
    have q11 := t11 144 (by rfl)
    have e11 := eval_at q11
    have v11 : f 11 = .bool false := g11
    have hw := wanted_some (ops := bytes29Ops) (o := { dst := some 146, op := Op.move (Operand.tmp 15), type := 3, pos := "law.go:78", after := #[{ on := 11, ground := Ground.guard }], guard := some (11, false) }) (a := a) (j := 11) (s := 144) (b := false) (c := false) rfl (by rfl) (by rw [← v11]; exact q11)
    have qb15 := (bas 15 (by kernel_rfl)).trans h15
    have eb15 := eval_at qb15
    have w11 : f 11 = (.bool false) := g11
    refine inv_val (G := Kd.ok z (bytes29K na nb bn ni nk 13)) (R := fun x y => Below x.heap.size x y) (hw.trans (by decide)) (v := (.int .i64 (ni : Nat))) (w2 := x) (by simp only [execOp, eb15]; go_simp) hK rfl (Below.refl _ _)
  | 14, _ =>
    obtain rfl : { dst := some 147, op := Op.indexAddr 24 (Operand.tmp 145) (Operand.tmp 146), type := 0, pos := "law.go:78", after := #[{ on := 12, ground := Ground.data }, { on := 13, ground := Ground.data }, { on := 11, ground := Ground.guard }], guard := some (11, false) } = o := Option.some.inj (show bytes29Ops[14]? = some _ from ho)
    obtain ⟨t11, g11⟩ := dep 11 (by kernel_rfl)
    have q11 := t11 144 (by rfl)
    have e11 := eval_at q11
    have v11 : f 11 = .bool false := g11
    have hw := wanted_some (ops := bytes29Ops) (o := { dst := some 147, op := Op.indexAddr 24 (Operand.tmp 145) (Operand.tmp 146), type := 0, pos := "law.go:78", after := #[{ on := 12, ground := Ground.data }, { on := 13, ground := Ground.data }, { on := 11, ground := Ground.guard }], guard := some (11, false) }) (a := a) (j := 11) (s := 144) (b := false) (c := false) rfl (by rfl) (by rw [← v11]; exact q11)
    obtain ⟨t12, g12⟩ := dep 12 (by kernel_rfl)
    have q12 := t12 145 (by rfl)
    have e12 := eval_at q12
    obtain ⟨t13, g13⟩ := dep 13 (by kernel_rfl)
    have q13 := t13 146 (by rfl)
    have e13 := eval_at q13
    have w11 : f 11 = (.bool false) := g11
    have w12 : f 12 = (.slice (some ⟨bn, 0, none⟩) 18 18) := g12
    have w13 : f 13 = (.int .i64 (ni : Nat)) := g13
    rw [w12] at e12
    rw [w13] at e13
    refine inv_val (G := Kd.ok z (bytes29K na nb bn ni nk 14)) (R := fun x y => Below x.heap.size x y) (hw.trans (by decide)) (v := (.pointer (some ⟨bn, ni, none⟩))) (w2 := x) (by simp only [execOp, e12, e13]; go_simp) hK rfl (Below.refl _ _)
  | 15, _ =>
    obtain rfl : { dst := some 148, op := Op.load 3 (Operand.tmp 147), type := 3, pos := "law.go:78", after := #[{ on := 14, ground := Ground.data }, { on := 11, ground := Ground.guard }], guard := some (11, false) } = o := Option.some.inj (show bytes29Ops[15]? = some _ from ho)
    obtain ⟨t11, g11⟩ := dep 11 (by kernel_rfl)
    have q11 := t11 144 (by rfl)
    have e11 := eval_at q11
    have v11 : f 11 = .bool false := g11
    have hw := wanted_some (ops := bytes29Ops) (o := { dst := some 148, op := Op.load 3 (Operand.tmp 147), type := 3, pos := "law.go:78", after := #[{ on := 14, ground := Ground.data }, { on := 11, ground := Ground.guard }], guard := some (11, false) }) (a := a) (j := 11) (s := 144) (b := false) (c := false) rfl (by rfl) (by rw [← v11]; exact q11)
    obtain ⟨t14, g14⟩ := dep 14 (by kernel_rfl)
    have q14 := t14 147 (by rfl)
    have e14 := eval_at q14
    have w14 : f 14 = (.pointer (some ⟨bn, ni, none⟩)) := g14
    rw [w14] at e14
    have hc := below_cell hR ca
    refine inv_val (G := Kd.ok z (bytes29K na nb bn ni nk 15)) (R := fun x y => Below x.heap.size x y) (hw.trans (by decide)) (v := (.int .i64 (na))) (w2 := x) (by simp only [execOp, e14]; go_simp) hK rfl (Below.refl _ _)
  | 16, _ =>
    obtain rfl : { dst := some 149, op := Op.move (Operand.tmp 14), type := 24, pos := "law.go:78", after := #[{ on := 11, ground := Ground.guard }], guard := some (11, false) } = o := Option.some.inj (show bytes29Ops[16]? = some _ from ho)
    obtain ⟨t11, g11⟩ := dep 11 (by kernel_rfl)
    have q11 := t11 144 (by rfl)
    have e11 := eval_at q11
    have v11 : f 11 = .bool false := g11
    have hw := wanted_some (ops := bytes29Ops) (o := { dst := some 149, op := Op.move (Operand.tmp 14), type := 24, pos := "law.go:78", after := #[{ on := 11, ground := Ground.guard }], guard := some (11, false) }) (a := a) (j := 11) (s := 144) (b := false) (c := false) rfl (by rfl) (by rw [← v11]; exact q11)
    have qb14 := (bas 14 (by kernel_rfl)).trans h14
    have eb14 := eval_at qb14
    have w11 : f 11 = (.bool false) := g11
    refine inv_val (G := Kd.ok z (bytes29K na nb bn ni nk 16)) (R := fun x y => Below x.heap.size x y) (hw.trans (by decide)) (v := (.slice (some ⟨bn, 0, none⟩) 18 18)) (w2 := x) (by simp only [execOp, eb14]; go_simp) hK rfl (Below.refl _ _)
  | 17, _ =>
    obtain rfl : { dst := some 150, op := Op.move (Operand.tmp 16), type := 3, pos := "law.go:78", after := #[{ on := 11, ground := Ground.guard }], guard := some (11, false) } = o := Option.some.inj (show bytes29Ops[17]? = some _ from ho)
    obtain ⟨t11, g11⟩ := dep 11 (by kernel_rfl)
    have q11 := t11 144 (by rfl)
    have e11 := eval_at q11
    have v11 : f 11 = .bool false := g11
    have hw := wanted_some (ops := bytes29Ops) (o := { dst := some 150, op := Op.move (Operand.tmp 16), type := 3, pos := "law.go:78", after := #[{ on := 11, ground := Ground.guard }], guard := some (11, false) }) (a := a) (j := 11) (s := 144) (b := false) (c := false) rfl (by rfl) (by rw [← v11]; exact q11)
    have qb16 := (bas 16 (by kernel_rfl)).trans h16
    have eb16 := eval_at qb16
    have w11 : f 11 = (.bool false) := g11
    refine inv_val (G := Kd.ok z (bytes29K na nb bn ni nk 17)) (R := fun x y => Below x.heap.size x y) (hw.trans (by decide)) (v := (.int .i64 (nk : Nat))) (w2 := x) (by simp only [execOp, eb16]; go_simp) hK rfl (Below.refl _ _)
  | 18, _ =>
    obtain rfl : { dst := some 151, op := Op.indexAddr 24 (Operand.tmp 149) (Operand.tmp 150), type := 0, pos := "law.go:78", after := #[{ on := 16, ground := Ground.data }, { on := 17, ground := Ground.data }, { on := 11, ground := Ground.guard }], guard := some (11, false) } = o := Option.some.inj (show bytes29Ops[18]? = some _ from ho)
    obtain ⟨t11, g11⟩ := dep 11 (by kernel_rfl)
    have q11 := t11 144 (by rfl)
    have e11 := eval_at q11
    have v11 : f 11 = .bool false := g11
    have hw := wanted_some (ops := bytes29Ops) (o := { dst := some 151, op := Op.indexAddr 24 (Operand.tmp 149) (Operand.tmp 150), type := 0, pos := "law.go:78", after := #[{ on := 16, ground := Ground.data }, { on := 17, ground := Ground.data }, { on := 11, ground := Ground.guard }], guard := some (11, false) }) (a := a) (j := 11) (s := 144) (b := false) (c := false) rfl (by rfl) (by rw [← v11]; exact q11)
    obtain ⟨t16, g16⟩ := dep 16 (by kernel_rfl)
    have q16 := t16 149 (by rfl)
    have e16 := eval_at q16
    obtain ⟨t17, g17⟩ := dep 17 (by kernel_rfl)
    have q17 := t17 150 (by rfl)
    have e17 := eval_at q17
    have w11 : f 11 = (.bool false) := g11
    have w16 : f 16 = (.slice (some ⟨bn, 0, none⟩) 18 18) := g16
    have w17 : f 17 = (.int .i64 (nk : Nat)) := g17
    rw [w16] at e16
    rw [w17] at e17
    refine inv_val (G := Kd.ok z (bytes29K na nb bn ni nk 18)) (R := fun x y => Below x.heap.size x y) (hw.trans (by decide)) (v := (.pointer (some ⟨bn, nk, none⟩))) (w2 := x) (by simp only [execOp, e16, e17]; go_simp) hK rfl (Below.refl _ _)
  | 19, _ =>
    obtain rfl : { dst := some 152, op := Op.load 3 (Operand.tmp 151), type := 3, pos := "law.go:78", after := #[{ on := 18, ground := Ground.data }, { on := 11, ground := Ground.guard }], guard := some (11, false) } = o := Option.some.inj (show bytes29Ops[19]? = some _ from ho)
    obtain ⟨t11, g11⟩ := dep 11 (by kernel_rfl)
    have q11 := t11 144 (by rfl)
    have e11 := eval_at q11
    have v11 : f 11 = .bool false := g11
    have hw := wanted_some (ops := bytes29Ops) (o := { dst := some 152, op := Op.load 3 (Operand.tmp 151), type := 3, pos := "law.go:78", after := #[{ on := 18, ground := Ground.data }, { on := 11, ground := Ground.guard }], guard := some (11, false) }) (a := a) (j := 11) (s := 144) (b := false) (c := false) rfl (by rfl) (by rw [← v11]; exact q11)
    obtain ⟨t18, g18⟩ := dep 18 (by kernel_rfl)
    have q18 := t18 151 (by rfl)
    have e18 := eval_at q18
    have w18 : f 18 = (.pointer (some ⟨bn, nk, none⟩)) := g18
    rw [w18] at e18
    have hc := below_cell hR cb
    refine inv_val (G := Kd.ok z (bytes29K na nb bn ni nk 19)) (R := fun x y => Below x.heap.size x y) (hw.trans (by decide)) (v := (.int .i64 (nb))) (w2 := x) (by simp only [execOp, e18]; go_simp) hK rfl (Below.refl _ _)
  | 20, _ =>
    obtain rfl : { dst := some 153, op := Op.call { callee := Callee.value (Operand.func 8), args := #[Operand.tmp 148, Operand.tmp 152], argTypes := #[3, 3] }, type := 4, pos := "law.go:78", after := #[{ on := 15, ground := Ground.data }, { on := 19, ground := Ground.data }, { on := 11, ground := Ground.chain }, { on := 11, ground := Ground.guard }], guard := some (11, false) } = o := Option.some.inj (show bytes29Ops[20]? = some _ from ho)
    obtain ⟨t11, g11⟩ := dep 11 (by kernel_rfl)
    have q11 := t11 144 (by rfl)
    have e11 := eval_at q11
    have v11 : f 11 = .bool false := g11
    have hw := wanted_some (ops := bytes29Ops) (o := { dst := some 153, op := Op.call { callee := Callee.value (Operand.func 8), args := #[Operand.tmp 148, Operand.tmp 152], argTypes := #[3, 3] }, type := 4, pos := "law.go:78", after := #[{ on := 15, ground := Ground.data }, { on := 19, ground := Ground.data }, { on := 11, ground := Ground.chain }, { on := 11, ground := Ground.guard }], guard := some (11, false) }) (a := a) (j := 11) (s := 144) (b := false) (c := false) rfl (by rfl) (by rw [← v11]; exact q11)
    obtain ⟨t15, g15⟩ := dep 15 (by kernel_rfl)
    have q15 := t15 148 (by rfl)
    have e15 := eval_at q15
    obtain ⟨t19, g19⟩ := dep 19 (by kernel_rfl)
    have q19 := t19 152 (by rfl)
    have e19 := eval_at q19
    refine inv_call (G := Kd.ok z (bytes29K na nb bn ni nk 20)) (R := fun x y => Below x.heap.size x y) (hw.trans (by decide)) (F := 8) (args := #[f 15, f 19]) (by simp [go_sem, q15, q19]) hK ?_
    exact k_pairs ⟨_, g15⟩ ⟨_, g19⟩ (hL.below hR)
  | 21, _ =>
    obtain rfl : { dst := some 154, op := Op.unOp UnOp.not 4 (Operand.tmp 153), type := 4, pos := "law.go:78", after := #[{ on := 20, ground := Ground.data }, { on := 11, ground := Ground.guard }], guard := some (11, false) } = o := Option.some.inj (show bytes29Ops[21]? = some _ from ho)
    obtain ⟨t11, g11⟩ := dep 11 (by kernel_rfl)
    have q11 := t11 144 (by rfl)
    have e11 := eval_at q11
    have v11 : f 11 = .bool false := g11
    have hw := wanted_some (ops := bytes29Ops) (o := { dst := some 154, op := Op.unOp UnOp.not 4 (Operand.tmp 153), type := 4, pos := "law.go:78", after := #[{ on := 20, ground := Ground.data }, { on := 11, ground := Ground.guard }], guard := some (11, false) }) (a := a) (j := 11) (s := 144) (b := false) (c := false) rfl (by rfl) (by rw [← v11]; exact q11)
    obtain ⟨t20, g20⟩ := dep 20 (by kernel_rfl)
    have q20 := t20 153 (by rfl)
    have e20 := eval_at q20
    have w11 : f 11 = (.bool false) := g11
    have w20 : f 20 = (.bool true) := g20
    rw [w20] at e20
    refine inv_val (G := Kd.ok z (bytes29K na nb bn ni nk 21)) (R := fun x y => Below x.heap.size x y) (hw.trans (by decide)) (v := (.bool false)) (w2 := x) (by simp only [execOp, e20]; go_simp) hK rfl (Below.refl _ _)
  | 22, _ =>
    obtain rfl : { dst := some 155, op := Op.pick (Operand.tmp 144) (Operand.const (Value.bool true)) (Operand.tmp 154), type := 4, pos := "law.go:78", after := #[{ on := 11, ground := Ground.data }, { on := 21, ground := Ground.data }], guard := none } = o := Option.some.inj (show bytes29Ops[22]? = some _ from ho)
    obtain ⟨t11, g11⟩ := dep 11 (by kernel_rfl)
    have q11 := t11 144 (by rfl)
    have e11 := eval_at q11
    obtain ⟨t21, g21⟩ := dep 21 (by kernel_rfl)
    have q21 := t21 154 (by rfl)
    have e21 := eval_at q21
    have w11 : f 11 = (.bool false) := g11
    have w21 : f 21 = (.bool false) := g21
    rw [w11] at e11
    rw [w21] at e21
    refine inv_val (G := Kd.ok z (bytes29K na nb bn ni nk 22)) (R := fun x y => Below x.heap.size x y) (wanted_none rfl) (v := (.bool false)) (w2 := x) (by simp only [execOp, e11, e21]; go_simp) hK rfl (Below.refl _ _)
  | 23, _ =>
    obtain rfl : { dst := some 156, op := Op.move (Operand.tmp 155), type := 4, pos := "law.go:78", after := #[{ on := 22, ground := Ground.data }, { on := 20, ground := Ground.chain }], guard := none } = o := Option.some.inj (show bytes29Ops[23]? = some _ from ho)
    obtain ⟨t22, g22⟩ := dep 22 (by kernel_rfl)
    have q22 := t22 155 (by rfl)
    have e22 := eval_at q22
    have w22 : f 22 = (.bool false) := g22
    rw [w22] at e22
    refine inv_val (G := Kd.ok z (bytes29K na nb bn ni nk 23)) (R := fun x y => Below x.heap.size x y) (wanted_none rfl) (v := (.bool false)) (w2 := x) (by simp only [execOp, e22]; go_simp) hK rfl (Below.refl _ _)
  | 24, _ =>
    obtain rfl : { dst := some 157, op := Op.move (Operand.tmp 14), type := 24, pos := "law.go:78", after := #[{ on := 23, ground := Ground.guard }], guard := some (23, false) } = o := Option.some.inj (show bytes29Ops[24]? = some _ from ho)
    obtain ⟨t23, g23⟩ := dep 23 (by kernel_rfl)
    have q23 := t23 156 (by rfl)
    have e23 := eval_at q23
    have v23 : f 23 = .bool false := g23
    have hw := wanted_some (ops := bytes29Ops) (o := { dst := some 157, op := Op.move (Operand.tmp 14), type := 24, pos := "law.go:78", after := #[{ on := 23, ground := Ground.guard }], guard := some (23, false) }) (a := a) (j := 23) (s := 156) (b := false) (c := false) rfl (by rfl) (by rw [← v23]; exact q23)
    have qb14 := (bas 14 (by kernel_rfl)).trans h14
    have eb14 := eval_at qb14
    have w23 : f 23 = (.bool false) := g23
    refine inv_val (G := Kd.ok z (bytes29K na nb bn ni nk 24)) (R := fun x y => Below x.heap.size x y) (hw.trans (by decide)) (v := (.slice (some ⟨bn, 0, none⟩) 18 18)) (w2 := x) (by simp only [execOp, eb14]; go_simp) hK rfl (Below.refl _ _)
  | 25, _ =>
    obtain rfl : { dst := some 158, op := Op.move (Operand.tmp 15), type := 3, pos := "law.go:78", after := #[{ on := 23, ground := Ground.guard }], guard := some (23, false) } = o := Option.some.inj (show bytes29Ops[25]? = some _ from ho)
    obtain ⟨t23, g23⟩ := dep 23 (by kernel_rfl)
    have q23 := t23 156 (by rfl)
    have e23 := eval_at q23
    have v23 : f 23 = .bool false := g23
    have hw := wanted_some (ops := bytes29Ops) (o := { dst := some 158, op := Op.move (Operand.tmp 15), type := 3, pos := "law.go:78", after := #[{ on := 23, ground := Ground.guard }], guard := some (23, false) }) (a := a) (j := 23) (s := 156) (b := false) (c := false) rfl (by rfl) (by rw [← v23]; exact q23)
    have qb15 := (bas 15 (by kernel_rfl)).trans h15
    have eb15 := eval_at qb15
    have w23 : f 23 = (.bool false) := g23
    refine inv_val (G := Kd.ok z (bytes29K na nb bn ni nk 25)) (R := fun x y => Below x.heap.size x y) (hw.trans (by decide)) (v := (.int .i64 (ni : Nat))) (w2 := x) (by simp only [execOp, eb15]; go_simp) hK rfl (Below.refl _ _)
  | 26, _ =>
    obtain rfl : { dst := some 159, op := Op.indexAddr 24 (Operand.tmp 157) (Operand.tmp 158), type := 0, pos := "law.go:78", after := #[{ on := 24, ground := Ground.data }, { on := 25, ground := Ground.data }, { on := 23, ground := Ground.guard }], guard := some (23, false) } = o := Option.some.inj (show bytes29Ops[26]? = some _ from ho)
    obtain ⟨t23, g23⟩ := dep 23 (by kernel_rfl)
    have q23 := t23 156 (by rfl)
    have e23 := eval_at q23
    have v23 : f 23 = .bool false := g23
    have hw := wanted_some (ops := bytes29Ops) (o := { dst := some 159, op := Op.indexAddr 24 (Operand.tmp 157) (Operand.tmp 158), type := 0, pos := "law.go:78", after := #[{ on := 24, ground := Ground.data }, { on := 25, ground := Ground.data }, { on := 23, ground := Ground.guard }], guard := some (23, false) }) (a := a) (j := 23) (s := 156) (b := false) (c := false) rfl (by rfl) (by rw [← v23]; exact q23)
    obtain ⟨t24, g24⟩ := dep 24 (by kernel_rfl)
    have q24 := t24 157 (by rfl)
    have e24 := eval_at q24
    obtain ⟨t25, g25⟩ := dep 25 (by kernel_rfl)
    have q25 := t25 158 (by rfl)
    have e25 := eval_at q25
    have w23 : f 23 = (.bool false) := g23
    have w24 : f 24 = (.slice (some ⟨bn, 0, none⟩) 18 18) := g24
    have w25 : f 25 = (.int .i64 (ni : Nat)) := g25
    rw [w24] at e24
    rw [w25] at e25
    refine inv_val (G := Kd.ok z (bytes29K na nb bn ni nk 26)) (R := fun x y => Below x.heap.size x y) (hw.trans (by decide)) (v := (.pointer (some ⟨bn, ni, none⟩))) (w2 := x) (by simp only [execOp, e24, e25]; go_simp) hK rfl (Below.refl _ _)
  | 27, _ =>
    obtain rfl : { dst := some 160, op := Op.load 3 (Operand.tmp 159), type := 3, pos := "law.go:78", after := #[{ on := 26, ground := Ground.data }, { on := 23, ground := Ground.guard }], guard := some (23, false) } = o := Option.some.inj (show bytes29Ops[27]? = some _ from ho)
    obtain ⟨t23, g23⟩ := dep 23 (by kernel_rfl)
    have q23 := t23 156 (by rfl)
    have e23 := eval_at q23
    have v23 : f 23 = .bool false := g23
    have hw := wanted_some (ops := bytes29Ops) (o := { dst := some 160, op := Op.load 3 (Operand.tmp 159), type := 3, pos := "law.go:78", after := #[{ on := 26, ground := Ground.data }, { on := 23, ground := Ground.guard }], guard := some (23, false) }) (a := a) (j := 23) (s := 156) (b := false) (c := false) rfl (by rfl) (by rw [← v23]; exact q23)
    obtain ⟨t26, g26⟩ := dep 26 (by kernel_rfl)
    have q26 := t26 159 (by rfl)
    have e26 := eval_at q26
    have w26 : f 26 = (.pointer (some ⟨bn, ni, none⟩)) := g26
    rw [w26] at e26
    have hc := below_cell hR ca
    refine inv_val (G := Kd.ok z (bytes29K na nb bn ni nk 27)) (R := fun x y => Below x.heap.size x y) (hw.trans (by decide)) (v := (.int .i64 (na))) (w2 := x) (by simp only [execOp, e26]; go_simp) hK rfl (Below.refl _ _)
  | 28, _ =>
    obtain rfl : { dst := some 161, op := Op.binOp BinOp.add 3 (Operand.tmp 160) (Operand.const (Value.int IntKind.i64 4294967296)) 3, type := 3, pos := "law.go:78", after := #[{ on := 27, ground := Ground.data }, { on := 23, ground := Ground.guard }], guard := some (23, false) } = o := Option.some.inj (show bytes29Ops[28]? = some _ from ho)
    obtain ⟨t23, g23⟩ := dep 23 (by kernel_rfl)
    have q23 := t23 156 (by rfl)
    have e23 := eval_at q23
    have v23 : f 23 = .bool false := g23
    have hw := wanted_some (ops := bytes29Ops) (o := { dst := some 161, op := Op.binOp BinOp.add 3 (Operand.tmp 160) (Operand.const (Value.int IntKind.i64 4294967296)) 3, type := 3, pos := "law.go:78", after := #[{ on := 27, ground := Ground.data }, { on := 23, ground := Ground.guard }], guard := some (23, false) }) (a := a) (j := 23) (s := 156) (b := false) (c := false) rfl (by rfl) (by rw [← v23]; exact q23)
    obtain ⟨t27, g27⟩ := dep 27 (by kernel_rfl)
    have q27 := t27 160 (by rfl)
    have e27 := eval_at q27
    have w27 : f 27 = (.int .i64 (na)) := g27
    rw [w27] at e27
    refine inv_val (G := Kd.ok z (bytes29K na nb bn ni nk 28)) (R := fun x y => Below x.heap.size x y) (hw.trans (by decide)) (v := .int .i64 (IntKind.i64.wrap (na + 4294967296))) (w2 := x) (by simp only [execOp, e27]; go_simp) hK ⟨_, rfl⟩ (Below.refl _ _)
  | 29, _ =>
    obtain rfl : { dst := some 162, op := Op.move (Operand.tmp 14), type := 24, pos := "law.go:78", after := #[{ on := 23, ground := Ground.guard }], guard := some (23, false) } = o := Option.some.inj (show bytes29Ops[29]? = some _ from ho)
    obtain ⟨t23, g23⟩ := dep 23 (by kernel_rfl)
    have q23 := t23 156 (by rfl)
    have e23 := eval_at q23
    have v23 : f 23 = .bool false := g23
    have hw := wanted_some (ops := bytes29Ops) (o := { dst := some 162, op := Op.move (Operand.tmp 14), type := 24, pos := "law.go:78", after := #[{ on := 23, ground := Ground.guard }], guard := some (23, false) }) (a := a) (j := 23) (s := 156) (b := false) (c := false) rfl (by rfl) (by rw [← v23]; exact q23)
    have qb14 := (bas 14 (by kernel_rfl)).trans h14
    have eb14 := eval_at qb14
    have w23 : f 23 = (.bool false) := g23
    refine inv_val (G := Kd.ok z (bytes29K na nb bn ni nk 29)) (R := fun x y => Below x.heap.size x y) (hw.trans (by decide)) (v := (.slice (some ⟨bn, 0, none⟩) 18 18)) (w2 := x) (by simp only [execOp, eb14]; go_simp) hK rfl (Below.refl _ _)
  | 30, _ =>
    obtain rfl : { dst := some 163, op := Op.move (Operand.tmp 16), type := 3, pos := "law.go:78", after := #[{ on := 23, ground := Ground.guard }], guard := some (23, false) } = o := Option.some.inj (show bytes29Ops[30]? = some _ from ho)
    obtain ⟨t23, g23⟩ := dep 23 (by kernel_rfl)
    have q23 := t23 156 (by rfl)
    have e23 := eval_at q23
    have v23 : f 23 = .bool false := g23
    have hw := wanted_some (ops := bytes29Ops) (o := { dst := some 163, op := Op.move (Operand.tmp 16), type := 3, pos := "law.go:78", after := #[{ on := 23, ground := Ground.guard }], guard := some (23, false) }) (a := a) (j := 23) (s := 156) (b := false) (c := false) rfl (by rfl) (by rw [← v23]; exact q23)
    have qb16 := (bas 16 (by kernel_rfl)).trans h16
    have eb16 := eval_at qb16
    have w23 : f 23 = (.bool false) := g23
    refine inv_val (G := Kd.ok z (bytes29K na nb bn ni nk 30)) (R := fun x y => Below x.heap.size x y) (hw.trans (by decide)) (v := (.int .i64 (nk : Nat))) (w2 := x) (by simp only [execOp, eb16]; go_simp) hK rfl (Below.refl _ _)
  | 31, _ =>
    obtain rfl : { dst := some 164, op := Op.indexAddr 24 (Operand.tmp 162) (Operand.tmp 163), type := 0, pos := "law.go:78", after := #[{ on := 29, ground := Ground.data }, { on := 30, ground := Ground.data }, { on := 23, ground := Ground.guard }], guard := some (23, false) } = o := Option.some.inj (show bytes29Ops[31]? = some _ from ho)
    obtain ⟨t23, g23⟩ := dep 23 (by kernel_rfl)
    have q23 := t23 156 (by rfl)
    have e23 := eval_at q23
    have v23 : f 23 = .bool false := g23
    have hw := wanted_some (ops := bytes29Ops) (o := { dst := some 164, op := Op.indexAddr 24 (Operand.tmp 162) (Operand.tmp 163), type := 0, pos := "law.go:78", after := #[{ on := 29, ground := Ground.data }, { on := 30, ground := Ground.data }, { on := 23, ground := Ground.guard }], guard := some (23, false) }) (a := a) (j := 23) (s := 156) (b := false) (c := false) rfl (by rfl) (by rw [← v23]; exact q23)
    obtain ⟨t29, g29⟩ := dep 29 (by kernel_rfl)
    have q29 := t29 162 (by rfl)
    have e29 := eval_at q29
    obtain ⟨t30, g30⟩ := dep 30 (by kernel_rfl)
    have q30 := t30 163 (by rfl)
    have e30 := eval_at q30
    have w23 : f 23 = (.bool false) := g23
    have w29 : f 29 = (.slice (some ⟨bn, 0, none⟩) 18 18) := g29
    have w30 : f 30 = (.int .i64 (nk : Nat)) := g30
    rw [w29] at e29
    rw [w30] at e30
    refine inv_val (G := Kd.ok z (bytes29K na nb bn ni nk 31)) (R := fun x y => Below x.heap.size x y) (hw.trans (by decide)) (v := (.pointer (some ⟨bn, nk, none⟩))) (w2 := x) (by simp only [execOp, e29, e30]; go_simp) hK rfl (Below.refl _ _)
  | 32, _ =>
    obtain rfl : { dst := some 165, op := Op.load 3 (Operand.tmp 164), type := 3, pos := "law.go:78", after := #[{ on := 31, ground := Ground.data }, { on := 23, ground := Ground.guard }], guard := some (23, false) } = o := Option.some.inj (show bytes29Ops[32]? = some _ from ho)
    obtain ⟨t23, g23⟩ := dep 23 (by kernel_rfl)
    have q23 := t23 156 (by rfl)
    have e23 := eval_at q23
    have v23 : f 23 = .bool false := g23
    have hw := wanted_some (ops := bytes29Ops) (o := { dst := some 165, op := Op.load 3 (Operand.tmp 164), type := 3, pos := "law.go:78", after := #[{ on := 31, ground := Ground.data }, { on := 23, ground := Ground.guard }], guard := some (23, false) }) (a := a) (j := 23) (s := 156) (b := false) (c := false) rfl (by rfl) (by rw [← v23]; exact q23)
    obtain ⟨t31, g31⟩ := dep 31 (by kernel_rfl)
    have q31 := t31 164 (by rfl)
    have e31 := eval_at q31
    have w31 : f 31 = (.pointer (some ⟨bn, nk, none⟩)) := g31
    rw [w31] at e31
    have hc := below_cell hR cb
    refine inv_val (G := Kd.ok z (bytes29K na nb bn ni nk 32)) (R := fun x y => Below x.heap.size x y) (hw.trans (by decide)) (v := (.int .i64 (nb))) (w2 := x) (by simp only [execOp, e31]; go_simp) hK rfl (Below.refl _ _)
  | 33, _ =>
    obtain rfl : { dst := some 166, op := Op.call { callee := Callee.value (Operand.func 8), args := #[Operand.tmp 161, Operand.tmp 165], argTypes := #[3, 3] }, type := 4, pos := "law.go:78", after := #[{ on := 28, ground := Ground.data }, { on := 32, ground := Ground.data }, { on := 23, ground := Ground.chain }, { on := 23, ground := Ground.guard }], guard := some (23, false) } = o := Option.some.inj (show bytes29Ops[33]? = some _ from ho)
    obtain ⟨t23, g23⟩ := dep 23 (by kernel_rfl)
    have q23 := t23 156 (by rfl)
    have e23 := eval_at q23
    have v23 : f 23 = .bool false := g23
    have hw := wanted_some (ops := bytes29Ops) (o := { dst := some 166, op := Op.call { callee := Callee.value (Operand.func 8), args := #[Operand.tmp 161, Operand.tmp 165], argTypes := #[3, 3] }, type := 4, pos := "law.go:78", after := #[{ on := 28, ground := Ground.data }, { on := 32, ground := Ground.data }, { on := 23, ground := Ground.chain }, { on := 23, ground := Ground.guard }], guard := some (23, false) }) (a := a) (j := 23) (s := 156) (b := false) (c := false) rfl (by rfl) (by rw [← v23]; exact q23)
    obtain ⟨t28, g28⟩ := dep 28 (by kernel_rfl)
    have q28 := t28 161 (by rfl)
    have e28 := eval_at q28
    obtain ⟨t32, g32⟩ := dep 32 (by kernel_rfl)
    have q32 := t32 165 (by rfl)
    have e32 := eval_at q32
    refine inv_call (G := Kd.ok z (bytes29K na nb bn ni nk 33)) (R := fun x y => Below x.heap.size x y) (hw.trans (by decide)) (F := 8) (args := #[f 28, f 32]) (by simp [go_sem, q28, q32]) hK ?_
    exact k_pairs g28 ⟨_, g32⟩ (hL.below hR)
  | 34, _ =>
    obtain rfl : { dst := some 167, op := Op.unOp UnOp.not 4 (Operand.tmp 166), type := 4, pos := "law.go:78", after := #[{ on := 33, ground := Ground.data }, { on := 23, ground := Ground.guard }], guard := some (23, false) } = o := Option.some.inj (show bytes29Ops[34]? = some _ from ho)
    obtain ⟨t23, g23⟩ := dep 23 (by kernel_rfl)
    have q23 := t23 156 (by rfl)
    have e23 := eval_at q23
    have v23 : f 23 = .bool false := g23
    have hw := wanted_some (ops := bytes29Ops) (o := { dst := some 167, op := Op.unOp UnOp.not 4 (Operand.tmp 166), type := 4, pos := "law.go:78", after := #[{ on := 33, ground := Ground.data }, { on := 23, ground := Ground.guard }], guard := some (23, false) }) (a := a) (j := 23) (s := 156) (b := false) (c := false) rfl (by rfl) (by rw [← v23]; exact q23)
    obtain ⟨t33, g33⟩ := dep 33 (by kernel_rfl)
    have q33 := t33 166 (by rfl)
    have e33 := eval_at q33
    have w23 : f 23 = (.bool false) := g23
    have w33 : f 33 = (.bool true) := g33
    rw [w33] at e33
    refine inv_val (G := Kd.ok z (bytes29K na nb bn ni nk 34)) (R := fun x y => Below x.heap.size x y) (hw.trans (by decide)) (v := (.bool false)) (w2 := x) (by simp only [execOp, e33]; go_simp) hK rfl (Below.refl _ _)
  | 35, _ =>
    obtain rfl : { dst := some 168, op := Op.pick (Operand.tmp 156) (Operand.const (Value.bool true)) (Operand.tmp 167), type := 4, pos := "law.go:78", after := #[{ on := 23, ground := Ground.data }, { on := 34, ground := Ground.data }], guard := none } = o := Option.some.inj (show bytes29Ops[35]? = some _ from ho)
    obtain ⟨t23, g23⟩ := dep 23 (by kernel_rfl)
    have q23 := t23 156 (by rfl)
    have e23 := eval_at q23
    obtain ⟨t34, g34⟩ := dep 34 (by kernel_rfl)
    have q34 := t34 167 (by rfl)
    have e34 := eval_at q34
    have w23 : f 23 = (.bool false) := g23
    have w34 : f 34 = (.bool false) := g34
    rw [w23] at e23
    rw [w34] at e34
    refine inv_val (G := Kd.ok z (bytes29K na nb bn ni nk 35)) (R := fun x y => Below x.heap.size x y) (wanted_none rfl) (v := (.bool false)) (w2 := x) (by simp only [execOp, e23, e34]; go_simp) hK rfl (Below.refl _ _)
end Go.Proofs.YtalnfbbggmhbfaaDoor
