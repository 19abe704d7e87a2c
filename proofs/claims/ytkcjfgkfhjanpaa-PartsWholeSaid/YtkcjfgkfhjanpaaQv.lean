/- PartsWhole: its drawn region with two joins. -/
import Derived.Test.YtkcjfgkfhjanpaaFi
import Derived.Test.YtkcjfgkfhjanpaaQt
namespace Go.Proofs.Ytkcjfgkfhjanpaa
open Go.RowKit Tnr

inductive Kd where
  | val (v : Value)
  | rws (l : List R)
  | row (l : List R)
def Kd.ok (_z : Nat) : Kd → Value → World → Prop
  | .val u, v, _ => v = u
  | .rws l, v, w => ∃ p c xs, v = .slice p 1 c ∧ xs.length = 1 ∧ SlS w p xs ∧ flat xs = l ∧ l.length ≤ 20000
  | .row l, v, w => ∃ p c n, v = .slice p n c ∧ n = l.length ∧ SlR w p l
theorem Kd.below {z : Nat} {w w' : World} {v : Value} : ∀ {k : Kd}, Kd.ok z k v w → Below w.heap.size w w' → Kd.ok z k v w'
  | .val _, h, _ => h
  | .rws _, h, hb => by obtain ⟨p, c, xs, h1, h2, h3, h4, h5⟩ := h; exact ⟨p, c, xs, h1, h2, h3.below hb, h4, h5⟩
  | .row _, h, hb => by obtain ⟨p, c, n, h1, h2, h3⟩ := h; exact ⟨p, c, n, h1, h2, h3.below hb⟩
theorem k_join {w : World} {z : Nat} {v : Value} {po : Option Addr} {nj co : Nat} {xs : List SV} {F : List R} (hn : nj = xs.length) (hx : SlS w po xs) (hF : flat xs = F) (hl : F.length ≤ 20000) (hxl : xs.length ≤ 20000) (hv : Kd.ok z (.val (.slice po nj co)) v w) :
    Calls Try.prog 11 #[v] w fun e y => ∃ u, e = .returned u ∧ Kd.ok z (.row (cn F)) u y ∧ Below w.heap.size w y := by
  obtain rfl : v = .slice po nj co := hv
  refine (join_any po co nj xs (cn F) w (by rw [hF]) hn hx (by rw [hF]; omega) (by omega)).mono ?_
  rintro e y ⟨p, c, rfl, ho, hb⟩
  exact ⟨_, rfl, ⟨p, c, _, rfl, rfl, ownR_sl ho⟩, hb⟩
theorem k_joinr {w : World} {z : Nat} {v : Value} {l : List R} (hv : Kd.ok z (.rws l) v w) :
    Calls Try.prog 11 #[v] w fun e y => ∃ u, e = .returned u ∧ Kd.ok z (.row (cn l)) u y ∧ Below w.heap.size w y := by
  obtain ⟨p, c, xs, rfl, h1, h2, h3, h4⟩ := hv
  refine (join_any p c 1 xs (cn l) w (by rw [h3]) h1.symm h2 (by rw [h3]; omega) (by omega)).mono ?_
  rintro e y ⟨q, c2, rfl, ho, hb⟩
  exact ⟨_, rfl, ⟨q, c2, _, rfl, rfl, ownR_sl ho⟩, hb⟩
theorem k_same {w : World} {z : Nat} {v u : Value} {a b : List R} (hv : Kd.ok z (.row a) v w) (hu : Kd.ok z (.row b) u w) (he : a = b) (hl : b.length ≤ 100000) :
    Calls Try.prog 13 #[v, u] w fun e y => ∃ u, e = .returned u ∧ Kd.ok z (.val (.bool true)) u y ∧ Below w.heap.size w y := by
  obtain ⟨p, c, n, rfl, h1, h2⟩ := hv
  obtain ⟨q, d, m, rfl, h3, h4⟩ := hu
  subst he
  subst h1
  subst h3
  refine (samek p q c d a.length a w rfl h2 h4 hl).mono ?_
  rintro e y ⟨rfl, hb⟩
  exact ⟨_, rfl, rfl, hb⟩
theorem st_one (w : World) (z : Nat) (pa : Option Addr) (ca na : Nat) (la : List R) (hna : na = la.length) (hs : SlR w pa la) (hl : la.length ≤ 20000) : ∃ v w2, (Instr.buildSlice 22 1 #[(0, .slice pa na ca)]).run Try.prog w = .ok v w2 ∧ Kd.ok z (.rws la) v w2 ∧ Below w.heap.size w w2 := by
  subst hna
  refine ⟨.slice (some ⟨w.heap.size, 0, none⟩) 1 1, w.alloc (.cells #[.slice pa la.length ca] 31), by go_simp, ⟨_, 1, [(pa, ca, la)], rfl, rfl, sls_new (fun x hx => ?_) rfl, flat_one pa ca la, hl⟩, bl_alloc _ _⟩
  simp only [List.mem_singleton] at hx
  subst hx
  exact hs

def whole27Ops : Array Oper := #[{ dst := some 138, op := Op.move (Operand.tmp 13), type := 22, pos := "outright.go:41", after := #[], guard := none },
  { dst := some 139, op := Op.call { callee := Callee.value (Operand.func 11), args := #[Operand.tmp 138], argTypes := #[22] }, type := 31, pos := "outright.go:41", after := #[{ on := 0, ground := Ground.data }], guard := none },
  { dst := some 140, op := Op.move (Operand.tmp 0), type := 22, pos := "outright.go:41", after := #[], guard := none },
  { dst := some 141, op := Op.move (Operand.tmp 11), type := 3, pos := "outright.go:41", after := #[], guard := none },
  { dst := some 142, op := Op.indexAddr 22 (Operand.tmp 140) (Operand.tmp 141), type := 0, pos := "outright.go:41", after := #[{ on := 2, ground := Ground.data }, { on := 3, ground := Ground.data }], guard := none },
  { dst := some 143, op := Op.load 31 (Operand.tmp 142), type := 31, pos := "outright.go:41", after := #[{ on := 4, ground := Ground.data }], guard := none },
  { dst := some 144, op := Op.buildSlice 22 1 #[(0, Operand.tmp 143)], type := 22, pos := "outright.go:41", after := #[{ on := 5, ground := Ground.data }], guard := none },
  { dst := some 145, op := Op.call { callee := Callee.value (Operand.func 11), args := #[Operand.tmp 144], argTypes := #[22] }, type := 31, pos := "outright.go:41", after := #[{ on := 6, ground := Ground.data }, { on := 1, ground := Ground.chain }], guard := none },
  { dst := some 146, op := Op.call { callee := Callee.value (Operand.func 13), args := #[Operand.tmp 139, Operand.tmp 145], argTypes := #[31, 31] }, type := 4, pos := "outright.go:41", after := #[{ on := 1, ground := Ground.data }, { on := 7, ground := Ground.data }, { on := 7, ground := Ground.chain }], guard := none },
  { dst := some 147, op := Op.unOp UnOp.not 4 (Operand.tmp 146), type := 4, pos := "outright.go:41", after := #[{ on := 8, ground := Ground.data }], guard := none }]
def whole27Pre : Array Bool := #[true, true, true, true, true, true, true, true, true, true]
def whole27K (po pa : Option Addr) (nj co bs os m c ni na ca : Nat) (F la : List R) : Nat → Kd
  | 0 => .val (.slice po nj co)
  | 1 => .row (cn F)
  | 2 => .val (.slice (some ⟨bs, os, none⟩) m c)
  | 3 => .val (.int .i64 (ni : Nat))
  | 4 => .val (.pointer (some ⟨bs, os + ni, none⟩))
  | 5 => .val (.slice pa na ca)
  | 6 => .rws la
  | 7 => .row (cn la)
  | 8 => .val (.bool true)
  | 9 => .val (.bool false)
  | _ => .val undef
theorem whole27_slots (f : Nat → Value) : slotsOf whole27Ops whole27Pre f = [(138, f 0), (139, f 1), (140, f 2), (141, f 3), (142, f 4), (143, f 5), (144, f 6), (145, f 7), (146, f 8), (147, f 9)] := by kernel_rfl
set_option maxHeartbeats 6400000 in
set_option maxRecDepth 100000 in
theorem whole27_wp {Q : Exit → Act → World → Prop} {a0 : Act} {w : World} {z : Nat} (po pa : Option Addr) (nj co bs os m c ni na ca : Nat) (F la : List R) (hz : z ≤ w.drew.heap.size) (hsize : a0.tmps.size = 152) (xs : List SV) (h13 : a0.tmps[13]? = some (.slice po nj co)) (h0 : a0.tmps[0]? = some (.slice (some ⟨bs, os, none⟩) m c)) (h11 : a0.tmps[11]? = some (.int .i64 (ni : Nat))) (hiI : (ni : Int) < m)
    (hcell : w.drew.cell? ⟨bs, os + ni, none⟩ = some (.slice pa na ca)) (hna : na = la.length) (hsl : SlR w.drew pa la) (hla : la.length ≤ 20000) (hnj : nj = xs.length) (hxs : SlS w.drew po xs) (hF : flat xs = F) (hFl : F.length ≤ 20000) (hxl : xs.length ≤ 20000) (heq : cn F = cn la)
    (fin : ∀ (f : Nat → Value) (y : World), (∀ j, j < 10 → whole27Pre.getD j false = true → Kd.ok z (whole27K po pa nj co bs os m c ni na ca F la j) (f j) y) → Below w.drew.heap.size w.drew y → Q .normal (putL a0 [(138, f 0), (139, f 1), (140, f 2), (141, f 3), (142, f 4), (143, f 5), (144, f 6), (145, f 7), (146, f 8), (147, f 9)]) y) (id : Nat) :
    (Code.region id whole27Ops true).wp Try.prog Q a0 w := by
  refine wp_region_inv whole27Pre (fun j => Kd.ok z (whole27K po pa nj co bs os m c ni na ca F la j)) (fun x y => Below x.heap.size x y) 10 0 (by kernel_rfl) (by kernel_rfl) (by rw [hsize]; kernel_rfl) (by kernel_rfl) (by kernel_rfl) (Below.refl _ _) (fun _ _ _ h1 h2 => bl_trans h1 h2) (fun _ _ _ _ h1 h2 => Kd.below h1 h2) ?_ (fun f y h1 h2 => by rw [whole27_slots]; exact any_end (by kernel_rfl) (fin f y h1 h2) 0)
  intro i o ho hp f a x hR hbase hdeps K hK
  have hi : i < 10 := by
    rcases Nat.lt_or_ge i 10 with h | h
    · exact h
    · have : whole27Ops.size ≤ i := h
      rw [Array.getElem?_eq_none this] at ho; cases ho
  have hzx : z ≤ x.heap.size := Nat.le_trans hz hR.size
  have dep : ∀ j, (o.after.any fun e => Region.binds .any e && e.on == j) = true → (∀ s, slotOf whole27Ops j = some s → a.tmps[s]? = some (f j)) ∧ Kd.ok z (whole27K po pa nj co bs os m c ni na ca F la j) (f j) x := by
    intro j h
    obtain ⟨e, he, h2⟩ := Array.any_eq_true'.1 h
    simp only [Bool.and_eq_true, beq_iff_eq] at h2
    obtain ⟨h3, rfl⟩ := h2
    exact hdeps e he h3
  have bas : ∀ s, ((List.range whole27Ops.size).all fun j => slotOf whole27Ops j != some s) = true → a.tmps[s]? = a0.tmps[s]? := by
    intro s h
    refine hbase s fun j hj _ e => ?_
    have h2 := (List.all_eq_true.1 h) j (List.mem_range.2 hj)
    rw [e] at h2; simp at h2
  match i, hi with
  | 0, _ =>
    obtain rfl : { dst := some 138, op := Op.move (Operand.tmp 13), type := 22, pos := "outright.go:41", after := #[], guard := none } = o := Option.some.inj (show whole27Ops[0]? = some _ from ho)
    have qb13 := (bas 13 (by kernel_rfl)).trans h13
    have eb13 := eval_at qb13
    refine inv_val (G := Kd.ok z (whole27K po pa nj co bs os m c ni na ca F la 0)) (R := fun x y => Below x.heap.size x y) (wanted_none rfl) (v := (.slice po nj co)) (w2 := x) (by simp only [execOp, eb13]; go_simp) hK rfl (Below.refl _ _)
  | 1, _ =>
    obtain rfl : { dst := some 139, op := Op.call { callee := Callee.value (Operand.func 11), args := #[Operand.tmp 138], argTypes := #[22] }, type := 31, pos := "outright.go:41", after := #[{ on := 0, ground := Ground.data }], guard := none } = o := Option.some.inj (show whole27Ops[1]? = some _ from ho)
    obtain ⟨t0, g0⟩ := dep 0 (by kernel_rfl)
    have q0 := t0 138 (by rfl)
    have e0 := eval_at q0
    refine inv_call (G := Kd.ok z (whole27K po pa nj co bs os m c ni na ca F la 1)) (R := fun x y => Below x.heap.size x y) (wanted_none rfl) (F := 11) (args := #[f 0]) (by simp [go_sem, q0]) hK ?_
    exact k_join (z := z) hnj (hxs.below hR) hF hFl hxl g0
  | 2, _ =>
    obtain rfl : { dst := some 140, op := Op.move (Operand.tmp 0), type := 22, pos := "outright.go:41", after := #[], guard := none } = o := Option.some.inj (show whole27Ops[2]? = some _ from ho)
    have qb0 := (bas 0 (by kernel_rfl)).trans h0
    have eb0 := eval_at qb0
    refine inv_val (G := Kd.ok z (whole27K po pa nj co bs os m c ni na ca F la 2)) (R := fun x y => Below x.heap.size x y) (wanted_none rfl) (v := (.slice (some ⟨bs, os, none⟩) m c)) (w2 := x) (by simp only [execOp, eb0]; go_simp) hK rfl (Below.refl _ _)
  | 3, _ =>
    obtain rfl : { dst := some 141, op := Op.move (Operand.tmp 11), type := 3, pos := "outright.go:41", after := #[], guard := none } = o := Option.some.inj (show whole27Ops[3]? = some _ from ho)
    have qb11 := (bas 11 (by kernel_rfl)).trans h11
    have eb11 := eval_at qb11
    refine inv_val (G := Kd.ok z (whole27K po pa nj co bs os m c ni na ca F la 3)) (R := fun x y => Below x.heap.size x y) (wanted_none rfl) (v := (.int .i64 (ni : Nat))) (w2 := x) (by simp only [execOp, eb11]; go_simp) hK rfl (Below.refl _ _)
  | 4, _ =>
    obtain rfl : { dst := some 142, op := Op.indexAddr 22 (Operand.tmp 140) (Operand.tmp 141), type := 0, pos := "outright.go:41", after := #[{ on := 2, ground := Ground.data }, { on := 3, ground := Ground.data }], guard := none } = o := Option.some.inj (show whole27Ops[4]? = some _ from ho)
    obtain ⟨t2, g2⟩ := dep 2 (by kernel_rfl)
    have q2 := t2 140 (by rfl)
    have e2 := eval_at q2
    obtain ⟨t3, g3⟩ := dep 3 (by kernel_rfl)
    have q3 := t3 141 (by rfl)
    have e3 := eval_at q3
    have w2 : f 2 = (.slice (some ⟨bs, os, none⟩) m c) := g2
    have w3 : f 3 = (.int .i64 (ni : Nat)) := g3
    rw [w2] at e2
    rw [w3] at e3
    refine inv_val (G := Kd.ok z (whole27K po pa nj co bs os m c ni na ca F la 4)) (R := fun x y => Below x.heap.size x y) (wanted_none rfl) (v := (.pointer (some ⟨bs, os + ni, none⟩))) (w2 := x) (by simp only [execOp, e2, e3]; go_simp) hK rfl (Below.refl _ _)
  | 5, _ =>
    obtain rfl : { dst := some 143, op := Op.load 31 (Operand.tmp 142), type := 31, pos := "outright.go:41", after := #[{ on := 4, ground := Ground.data }], guard := none } = o := Option.some.inj (show whole27Ops[5]? = some _ from ho)
    obtain ⟨t4, g4⟩ := dep 4 (by kernel_rfl)
    have q4 := t4 142 (by rfl)
    have e4 := eval_at q4
    have w4 : f 4 = (.pointer (some ⟨bs, os + ni, none⟩)) := g4
    rw [w4] at e4
    have hc := keep_cell hR hcell
    refine inv_val (G := Kd.ok z (whole27K po pa nj co bs os m c ni na ca F la 5)) (R := fun x y => Below x.heap.size x y) (wanted_none rfl) (v := (.slice pa na ca)) (w2 := x) (by simp only [execOp, e4]; go_simp) hK rfl (Below.refl _ _)
  | 6, _ =>
    obtain rfl : { dst := some 144, op := Op.buildSlice 22 1 #[(0, Operand.tmp 143)], type := 22, pos := "outright.go:41", after := #[{ on := 5, ground := Ground.data }], guard := none } = o := Option.some.inj (show whole27Ops[6]? = some _ from ho)
    obtain ⟨t5, g5⟩ := dep 5 (by kernel_rfl)
    have q5 := t5 143 (by rfl)
    have e5 := eval_at q5
    have w5 : f 5 = (.slice pa na ca) := g5
    rw [w5] at e5
    obtain ⟨v, w2, hr, hrow, hb⟩ := st_one x z pa ca na la hna (hsl.below hR) hla
    refine inv_val (G := Kd.ok z (whole27K po pa nj co bs os m c ni na ca F la 6)) (R := fun x y => Below x.heap.size x y) (wanted_none rfl) (v := v) (w2 := w2) (by simp [execOp, e5, hr]) hK hrow hb
  | 7, _ =>
    obtain rfl : { dst := some 145, op := Op.call { callee := Callee.value (Operand.func 11), args := #[Operand.tmp 144], argTypes := #[22] }, type := 31, pos := "outright.go:41", after := #[{ on := 6, ground := Ground.data }, { on := 1, ground := Ground.chain }], guard := none } = o := Option.some.inj (show whole27Ops[7]? = some _ from ho)
    obtain ⟨t6, g6⟩ := dep 6 (by kernel_rfl)
    have q6 := t6 144 (by rfl)
    have e6 := eval_at q6
    refine inv_call (G := Kd.ok z (whole27K po pa nj co bs os m c ni na ca F la 7)) (R := fun x y => Below x.heap.size x y) (wanted_none rfl) (F := 11) (args := #[f 6]) (by simp [go_sem, q6]) hK ?_
    exact k_joinr g6
  | 8, _ =>
    obtain rfl : { dst := some 146, op := Op.call { callee := Callee.value (Operand.func 13), args := #[Operand.tmp 139, Operand.tmp 145], argTypes := #[31, 31] }, type := 4, pos := "outright.go:41", after := #[{ on := 1, ground := Ground.data }, { on := 7, ground := Ground.data }, { on := 7, ground := Ground.chain }], guard := none } = o := Option.some.inj (show whole27Ops[8]? = some _ from ho)
    obtain ⟨t1, g1⟩ := dep 1 (by kernel_rfl)
    have q1 := t1 139 (by rfl)
    have e1 := eval_at q1
    obtain ⟨t7, g7⟩ := dep 7 (by kernel_rfl)
    have q7 := t7 145 (by rfl)
    have e7 := eval_at q7
    refine inv_call (G := Kd.ok z (whole27K po pa nj co bs os m c ni na ca F la 8)) (R := fun x y => Below x.heap.size x y) (wanted_none rfl) (F := 13) (args := #[f 1, f 7]) (by simp [go_sem, q1, q7]) hK ?_
    exact k_same g1 g7 heq (by have := cn_length la; omega)
  | 9, _ =>
    obtain rfl : { dst := some 147, op := Op.unOp UnOp.not 4 (Operand.tmp 146), type := 4, pos := "outright.go:41", after := #[{ on := 8, ground := Ground.data }], guard := none } = o := Option.some.inj (show whole27Ops[9]? = some _ from ho)
    obtain ⟨t8, g8⟩ := dep 8 (by kernel_rfl)
    have q8 := t8 146 (by rfl)
    have e8 := eval_at q8
    have w8 : f 8 = (.bool true) := g8
    rw [w8] at e8
    refine inv_val (G := Kd.ok z (whole27K po pa nj co bs os m c ni na ca F la 9)) (R := fun x y => Below x.heap.size x y) (wanted_none rfl) (v := (.bool false)) (w2 := x) (by simp only [execOp, e8]; go_simp) hK rfl (Below.refl _ _)
end Go.Proofs.Ytkcjfgkfhjanpaa
