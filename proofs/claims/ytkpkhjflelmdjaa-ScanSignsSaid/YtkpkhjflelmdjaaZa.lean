/- The drawn region of the law in which two scans are asked. -/
import Derived.Test.YtkpkhjflelmdjaaYz
namespace Go.Proofs.Ytkpkhjflelmdjaa
open Go.RowKit Tnd

def r15Ops : Array Oper := #[{ dst := some 67, op := Op.move (Operand.tmp 5), type := 26, pos := "outright.go:31", after := #[], guard := none },
  { dst := some 68, op := Op.move (Operand.tmp 1), type := 23, pos := "outright.go:31", after := #[], guard := none },
  { dst := some 69, op := Op.move (Operand.tmp 6), type := 3, pos := "outright.go:31", after := #[], guard := none },
  { dst := some 70, op := Op.indexAddr 23 (Operand.tmp 68) (Operand.tmp 69), type := 0, pos := "outright.go:31", after := #[{ on := 1, ground := Ground.data }, { on := 2, ground := Ground.data }], guard := none },
  { dst := some 71, op := Op.load 33 (Operand.tmp 70), type := 33, pos := "outright.go:31", after := #[{ on := 3, ground := Ground.data }], guard := none },
  { dst := some 72, op := Op.call { callee := Callee.value (Operand.func 16), args := #[Operand.tmp 67, Operand.tmp 71], argTypes := #[26, 33] }, type := 37, pos := "outright.go:31", after := #[{ on := 0, ground := Ground.data }, { on := 4, ground := Ground.data }], guard := none },
  { dst := some 73, op := Op.move (Operand.tmp 0), type := 22, pos := "outright.go:31", after := #[], guard := none },
  { dst := some 74, op := Op.move (Operand.tmp 7), type := 3, pos := "outright.go:31", after := #[], guard := none },
  { dst := some 75, op := Op.slice 22 (Operand.tmp 73) (some (Operand.tmp 74)) none none, type := 22, pos := "outright.go:31", after := #[{ on := 6, ground := Ground.data }, { on := 7, ground := Ground.data }], guard := none },
  { dst := some 76, op := Op.call { callee := Callee.value (Operand.func 10), args := #[Operand.tmp 75], argTypes := #[22] }, type := 26, pos := "outright.go:31", after := #[{ on := 8, ground := Ground.data }, { on := 5, ground := Ground.chain }], guard := none },
  { dst := some 77, op := Op.move (Operand.tmp 1), type := 23, pos := "outright.go:31", after := #[], guard := none },
  { dst := some 78, op := Op.move (Operand.tmp 6), type := 3, pos := "outright.go:31", after := #[], guard := none },
  { dst := some 79, op := Op.indexAddr 23 (Operand.tmp 77) (Operand.tmp 78), type := 0, pos := "outright.go:31", after := #[{ on := 10, ground := Ground.data }, { on := 11, ground := Ground.data }], guard := none },
  { dst := some 80, op := Op.load 33 (Operand.tmp 79), type := 33, pos := "outright.go:31", after := #[{ on := 12, ground := Ground.data }], guard := none },
  { dst := some 81, op := Op.call { callee := Callee.value (Operand.func 16), args := #[Operand.tmp 76, Operand.tmp 80], argTypes := #[26, 33] }, type := 37, pos := "outright.go:31", after := #[{ on := 9, ground := Ground.data }, { on := 13, ground := Ground.data }, { on := 9, ground := Ground.chain }], guard := none },
  { dst := some 8, op := Op.alloc 37, type := 0, pos := "outright.go:31", after := #[], guard := none },
  { dst := some 9, op := Op.alloc 37, type := 0, pos := "outright.go:31", after := #[], guard := none },
  { dst := none, op := Op.store 37 (Operand.tmp 8) (Operand.tmp 72), type := 0, pos := "outright.go:31", after := #[{ on := 15, ground := Ground.data }, { on := 5, ground := Ground.data }, { on := 14, ground := Ground.chain }, { on := 0, ground := Ground.phase }, { on := 1, ground := Ground.phase }, { on := 2, ground := Ground.phase }, { on := 3, ground := Ground.phase }, { on := 4, ground := Ground.phase }, { on := 5, ground := Ground.phase }, { on := 6, ground := Ground.textOnly Departure.lateStores }, { on := 7, ground := Ground.textOnly Departure.lateStores }, { on := 8, ground := Ground.textOnly Departure.lateStoresUnsure }, { on := 9, ground := Ground.textOnly Departure.lateStoresUnsure }, { on := 10, ground := Ground.textOnly Departure.lateStores }, { on := 11, ground := Ground.textOnly Departure.lateStores }, { on := 12, ground := Ground.textOnly Departure.lateStores }, { on := 13, ground := Ground.textOnly Departure.lateStores }, { on := 14, ground := Ground.textOnly Departure.lateStoresUnsure }, { on := 15, ground := Ground.phase }, { on := 16, ground := Ground.phase }], guard := none },
  { dst := none, op := Op.store 37 (Operand.tmp 9) (Operand.tmp 81), type := 0, pos := "outright.go:31", after := #[{ on := 16, ground := Ground.data }, { on := 14, ground := Ground.data }, { on := 17, ground := Ground.chain }, { on := 0, ground := Ground.phase }, { on := 1, ground := Ground.phase }, { on := 2, ground := Ground.phase }, { on := 3, ground := Ground.phase }, { on := 4, ground := Ground.phase }, { on := 5, ground := Ground.phase }, { on := 6, ground := Ground.phase }, { on := 7, ground := Ground.phase }, { on := 8, ground := Ground.phase }, { on := 9, ground := Ground.phase }, { on := 10, ground := Ground.phase }, { on := 11, ground := Ground.phase }, { on := 12, ground := Ground.phase }, { on := 13, ground := Ground.phase }, { on := 14, ground := Ground.phase }, { on := 15, ground := Ground.phase }, { on := 16, ground := Ground.phase }, { on := 17, ground := Ground.phase }], guard := none }]
def r15Pre : Array Bool := #[true, true, true, true, true, true, true, true, true, true, true, true, true, true, true, true, true, false, false]
theorem r15_slots (f : Nat → Value) : slotsOf r15Ops r15Pre f = [(67, f 0), (68, f 1), (69, f 2), (70, f 3), (71, f 4), (72, f 5), (73, f 6), (74, f 7), (75, f 8), (76, f 9), (77, f 10), (78, f 11), (79, f 12), (80, f 13), (81, f 14), (8, f 15), (9, f 16)] := by kernel_rfl

/-- what each slot holds. -/
def r15G (z b : Nat) (A Y : Array Value) (vl va vi vp vk v8 vask : Value) (j : Nat) (v : Value) (x : World) : Prop :=
  match j with
  | 0 => v = .pointer (some ⟨b, 0, none⟩)
  | 1 => v = va
  | 2 => v = vi
  | 3 => v = vp
  | 4 => v = vask
  | 5 => v = .agg A
  | 6 => v = vl
  | 7 => v = vk
  | 8 => v = v8
  | 9 => ∃ b2, v = .pointer (some ⟨b2, 0, none⟩)
  | 10 => v = va
  | 11 => v = vi
  | 12 => v = vp
  | 13 => v = vask
  | 14 => v = .agg Y
  | 15 => PT x z v
  | 16 => PT x z v
  | _ => True
theorem r15G_rs {z b : Nat} {A Y : Array Value} {vl va vi vp vk v8 vask : Value} (j : Nat) (v : Value) (x y : World) (h : r15G z b A Y vl va vi vp vk v8 vask j v x) (hr : RS x y) : r15G z b A Y vl va vi vp vk v8 vask j v y := by
  match j, h with
  | 0, h => exact h
  | 1, h => exact h
  | 2, h => exact h
  | 3, h => exact h
  | 4, h => exact h
  | 5, h => exact h
  | 6, h => exact h
  | 7, h => exact h
  | 8, h => exact h
  | 9, h => exact h
  | 10, h => exact h
  | 11, h => exact h
  | 12, h => exact h
  | 13, h => exact h
  | 14, h => exact h
  | 15, h => exact PT.rs h hr
  | 16, h => exact PT.rs h hr
  | _ + 17, _ => exact trivial
/-- what holds of the world by what is done. -/
structure R15H (w0 : World) (b : Nat) (l L : List Int) (k k' : Nat) (done : Array Bool) (f : Nat → Value) (x : World) : Prop where
  bel : Below w0.heap.size w0 x
  ahead : done.getD 5 true = false → Sc x w0.heap.size b l k
  behind : done.getD 5 true = true → Sc x w0.heap.size b l k'
  new : done.getD 9 true = true → done.getD 14 true = false → ∃ b2, f 9 = .pointer (some ⟨b2, 0, none⟩) ∧ Sc x w0.heap.size b2 L 0 ∧ b2 ≠ b
  ord : done.getD 9 true = true → done.getD 5 true = true
  two : done.getD 15 true = true → done.getD 16 true = true → f 15 ≠ f 16
theorem R15H.plain {w0 : World} {b : Nat} {l L : List Int} {k k' : Nat} {done : Array Bool} {f : Nat → Value} {x : World} (h : R15H w0 b l L k k' done f x) (i : Nat) (u : Value) (h5 : i ≠ 5) (h9 : i ≠ 9) (h14 : i ≠ 14) (h15 : i ≠ 15) (h16 : i ≠ 16) :
    R15H w0 b l L k k' (done.setIfInBounds i true) (upd f i u) x := by
  refine ⟨h.bel, ?_, ?_, ?_, ?_, ?_⟩
  · rw [getD_set_ne true h5]; exact h.ahead
  · rw [getD_set_ne true h5]; exact h.behind
  · rw [getD_set_ne true h9, getD_set_ne true h14]
    show _ → _ → ∃ b2, (if 9 = i then u else f 9) = _ ∧ _
    rw [if_neg (Ne.symm h9)]; exact h.new
  · rw [getD_set_ne true h5, getD_set_ne true h9]; exact h.ord
  · rw [getD_set_ne true h15, getD_set_ne true h16]
    show _ → _ → (if 15 = i then u else f 15) ≠ (if 16 = i then u else f 16)
    rw [if_neg (Ne.symm h15), if_neg (Ne.symm h16)]; exact h.two
theorem sc_tb {w w' : World} {B b nb : Nat} {l : List Int} {k : Nat} {cs : Array Value} (h : Sc w B b l k) (ht : Tb w nb cs) (hg : w.grownBy w' (some nb)) : Sc w' B b l k := by
  refine Cu.kept h hg (fun b2 e => ?_)
  cases e
  refine ⟨?_, fun _ => ⟨_, _, _, ht, by decide⟩⟩
  rintro rfl
  obtain ⟨p, c, h1, _⟩ := h
  unfold Tb at ht
  rw [h1] at ht
  simp only [Option.some.injEq, Obj.cells.injEq] at ht
  exact absurd ht.2.1 (by decide)
theorem getD_set_self {done : Array Bool} {i : Nat} (h : i < done.size) : (done.setIfInBounds i true).getD i true = true := by simp [h]
theorem run_alloc_told (x : World) : (Instr.alloc 37 true (.tuple #[])).run Try.prog x = .ok (.pointer (some ⟨x.heap.size, 0, none⟩)) (x.alloc (.cells (tvl 0 0 0 ⟨#[]⟩ false false) 37)) := by
  unfold tvl
  go_simp

set_option maxHeartbeats 6400000 in
set_option maxRecDepth 100000 in
theorem r15_wp {Q : Exit → Act → World → Prop} {a0 : Act} {w w0 : World} {b ba oa i k n c na ca : Nat} {q : Option Addr} {l : List Int} {y : Int} {t : ByteArray} {q8 : Option Addr} {c8 : Nat} (A Y : Int × Int × ByteArray × Bool × Nat)
    (hsize : a0.tmps.size = 154) (h0 : a0.tmps[0]? = some (.slice q n c)) (h1 : a0.tmps[1]? = some (.slice (some ⟨ba, oa, none⟩) na ca)) (h5 : a0.tmps[5]? = some (.pointer (some ⟨b, 0, none⟩))) (h6 : a0.tmps[6]? = some (.int .i64 (i : Nat))) (h7 : a0.tmps[7]? = some (.int .i64 (k : Nat)))
    (HAC : ∀ W, Below w0.heap.size w0 W → W.cell? ⟨ba, oa + i * 2, none⟩ = some (.int .i64 y) ∧ W.cell? ⟨ba, oa + i * 2 + 1, none⟩ = some (.string t))
    (HC : Sc w w0.heap.size b l k) (HB : Below w0.heap.size w0 w)
    (HA : ∀ W, Sc W w0.heap.size b l k → Calls Try.prog 16 #[.pointer (some ⟨b, 0, none⟩), .agg #[.int .i64 y, .string t]] W (AP W w0.heap.size b l k A))
    (HY : ∀ W b2, Sc W w0.heap.size b2 (l.drop k) 0 → Calls Try.prog 16 #[.pointer (some ⟨b2, 0, none⟩), .agg #[.int .i64 y, .string t]] W (AP W w0.heap.size b2 (l.drop k) 0 Y))
    (hix : ∀ x : World, (Instr.indexAt 23 (.slice (some ⟨ba, oa, none⟩) na ca) (.int .i64 (i : Nat))).run Try.prog x = .ok (.pointer (some ⟨ba, oa + i * 2, none⟩)) x)
    (hsl : ∀ x : World, (Instr.sliceAt 22 (.slice q n c) (some (.int .i64 (k : Nat))) none none).run Try.prog x = .ok (.slice q8 (l.drop k).length c8) x)
    (HNEW : ∀ W, Below w0.heap.size w0 W → Calls Try.prog 10 #[.slice q8 (l.drop k).length c8] W (ObjPost (l.drop k) 0 W))
    (fin : ∀ (u : Nat → Value) (n1 n2 : Nat) (x : World), n1 ≠ n2 → w0.heap.size ≤ n1 → w0.heap.size ≤ n2 → Tb x n1 (tvl A.1 A.2.1 ((k + A.2.2.2.2 : Nat) : Int) A.2.2.1 A.2.2.2.1 (decide (k + A.2.2.2.2 = l.length))) → Tb x n2 (tvl Y.1 Y.2.1 ((0 + Y.2.2.2.2 : Nat) : Int) Y.2.2.1 Y.2.2.2.1 (decide (0 + Y.2.2.2.2 = (l.drop k).length))) → Sc x w0.heap.size b l (k + A.2.2.2.2) → Below w0.heap.size w0 x →
      Q .normal (putL a0 [(67, u 0), (68, u 1), (69, u 2), (70, u 3), (71, u 4), (72, u 5), (73, u 6), (74, u 7), (75, u 8), (76, u 9), (77, u 10), (78, u 11), (79, u 12), (80, u 13), (81, u 14), (8, .pointer (some ⟨n1, 0, none⟩)), (9, .pointer (some ⟨n2, 0, none⟩))]) x) (id : Nat) :
    (Code.region id r15Ops true).wp Try.prog Q a0 w := by
  have hgr : ∀ (v : Value) (j : Nat) (x x2 : World), _ := fun v j x x2 => r15G_rs (z := w0.heap.size) (b := b) (A := tvl A.1 A.2.1 ((k + A.2.2.2.2 : Nat) : Int) A.2.2.1 A.2.2.2.1 (decide (k + A.2.2.2.2 = l.length))) (Y := tvl Y.1 Y.2.1 ((0 + Y.2.2.2.2 : Nat) : Int) Y.2.2.1 Y.2.2.2.1 (decide (0 + Y.2.2.2.2 = (l.drop k).length))) (vl := .slice q n c) (va := .slice (some ⟨ba, oa, none⟩) na ca) (vi := .int .i64 (i : Nat)) (vp := .pointer (some ⟨ba, oa + i * 2, none⟩)) (vk := .int .i64 (k : Nat)) (v8 := .slice q8 (l.drop k).length c8) (vask := .agg #[.int .i64 y, .string t]) j v x x2
  refine wp_region_invS r15Pre (r15G w0.heap.size b (tvl A.1 A.2.1 ((k + A.2.2.2.2 : Nat) : Int) A.2.2.1 A.2.2.2.1 (decide (k + A.2.2.2.2 = l.length))) (tvl Y.1 Y.2.1 ((0 + Y.2.2.2.2 : Nat) : Int) Y.2.2.1 Y.2.2.2.1 (decide (0 + Y.2.2.2.2 = (l.drop k).length))) (.slice q n c) (.slice (some ⟨ba, oa, none⟩) na ca) (.int .i64 (i : Nat)) (.pointer (some ⟨ba, oa + i * 2, none⟩)) (.int .i64 (k : Nat)) (.slice q8 (l.drop k).length c8) (.agg #[.int .i64 y, .string t]))
    (R15H w0 b l (l.drop k) k (k + A.2.2.2.2)) RS 17 2 (by kernel_rfl) (by kernel_rfl) (by rw [hsize]; kernel_rfl) (by kernel_rfl) (by kernel_rfl) (RS.refl _) (fun _ _ _ h1 h2 => h1.trans h2) (fun j v x x2 h1 h2 => hgr v j x x2 h1 h2) ?_ ?_ ?_
  · intro i' o ho hp done f a x hR hbase hdeps hH hdsz hid hdd hgood K hK0
    have hi : i' < 19 := by
      rcases Nat.lt_or_ge i' 19 with h | h
      · exact h
      · have : r15Ops.size ≤ i' := h
        rw [Array.getElem?_eq_none this] at ho; cases ho
    have dep : ∀ j, (o.after.any fun e => Region.binds .any e && e.on == j) = true → (∀ s, slotOf r15Ops j = some s → a.tmps[s]? = some (f j)) ∧ r15G w0.heap.size b (tvl A.1 A.2.1 ((k + A.2.2.2.2 : Nat) : Int) A.2.2.1 A.2.2.2.1 (decide (k + A.2.2.2.2 = l.length))) (tvl Y.1 Y.2.1 ((0 + Y.2.2.2.2 : Nat) : Int) Y.2.2.1 Y.2.2.2.1 (decide (0 + Y.2.2.2.2 = (l.drop k).length))) (.slice q n c) (.slice (some ⟨ba, oa, none⟩) na ca) (.int .i64 (i : Nat)) (.pointer (some ⟨ba, oa + i * 2, none⟩)) (.int .i64 (k : Nat)) (.slice q8 (l.drop k).length c8) (.agg #[.int .i64 y, .string t]) j (f j) x ∧ done.getD j true = true := by
      intro j h
      obtain ⟨e, he, h2⟩ := Array.any_eq_true'.1 h
      simp only [Bool.and_eq_true, beq_iff_eq] at h2
      obtain ⟨h3, rfl⟩ := h2
      exact ⟨(hdeps e he h3).1, (hdeps e he h3).2, hdd e he h3⟩
    have bas : ∀ s, ((List.range r15Ops.size).all fun j => slotOf r15Ops j != some s) = true → a.tmps[s]? = a0.tmps[s]? := by
      intro s h
      refine hbase s fun j hj _ e => ?_
      have h2 := (List.all_eq_true.1 h) j (List.mem_range.2 hj)
      rw [e] at h2; simp at h2
    match i', hi with
    | 0, _ =>
      obtain rfl : { dst := some 67, op := Op.move (Operand.tmp 5), type := 26, pos := "outright.go:31", after := #[], guard := none } = o := Option.some.inj (show r15Ops[0]? = some _ from ho)
      have qb := (bas 5 (by kernel_rfl)).trans h5
      have eb := eval_at qb
      exact inv_val (R := fun _ x2 => x2 = x) (G := fun u _ => u = .pointer (some ⟨b, 0, none⟩)) (wanted_none rfl) (v := .pointer (some ⟨b, 0, none⟩)) (w2 := x) (by simp only [execOp, eb]; go_simp) (fun u x2 h1 h2 => by subst h1; subst h2; exact hK0 _ _ rfl (RS.refl _) (hH.plain 0 _ (by decide) (by decide) (by decide) (by decide) (by decide))) rfl rfl
    | 1, _ =>
      obtain rfl : { dst := some 68, op := Op.move (Operand.tmp 1), type := 23, pos := "outright.go:31", after := #[], guard := none } = o := Option.some.inj (show r15Ops[1]? = some _ from ho)
      have qb := (bas 1 (by kernel_rfl)).trans h1
      have eb := eval_at qb
      exact inv_val (R := fun _ x2 => x2 = x) (G := fun u _ => u = .slice (some ⟨ba, oa, none⟩) na ca) (wanted_none rfl) (v := .slice (some ⟨ba, oa, none⟩) na ca) (w2 := x) (by simp only [execOp, eb]; go_simp) (fun u x2 h1 h2 => by subst h1; subst h2; exact hK0 _ _ rfl (RS.refl _) (hH.plain 1 _ (by decide) (by decide) (by decide) (by decide) (by decide))) rfl rfl
    | 2, _ =>
      obtain rfl : { dst := some 69, op := Op.move (Operand.tmp 6), type := 3, pos := "outright.go:31", after := #[], guard := none } = o := Option.some.inj (show r15Ops[2]? = some _ from ho)
      have qb := (bas 6 (by kernel_rfl)).trans h6
      have eb := eval_at qb
      exact inv_val (R := fun _ x2 => x2 = x) (G := fun u _ => u = .int .i64 (i : Nat)) (wanted_none rfl) (v := .int .i64 (i : Nat)) (w2 := x) (by simp only [execOp, eb]; go_simp) (fun u x2 h1 h2 => by subst h1; subst h2; exact hK0 _ _ rfl (RS.refl _) (hH.plain 2 _ (by decide) (by decide) (by decide) (by decide) (by decide))) rfl rfl
    | 3, _ =>
      obtain rfl : { dst := some 70, op := Op.indexAddr 23 (Operand.tmp 68) (Operand.tmp 69), type := 0, pos := "outright.go:31", after := #[{ on := 1, ground := Ground.data }, { on := 2, ground := Ground.data }], guard := none } = o := Option.some.inj (show r15Ops[3]? = some _ from ho)
      obtain ⟨t1, g1, _⟩ := dep 1 (by kernel_rfl)
      obtain ⟨t2, g2, _⟩ := dep 2 (by kernel_rfl)
      have e1 := eval_at ((t1 68 (by rfl)).trans (congrArg some (show f 1 = _ from g1)))
      have e2 := eval_at ((t2 69 (by rfl)).trans (congrArg some (show f 2 = _ from g2)))
      exact inv_val (R := fun _ x2 => x2 = x) (G := fun u _ => u = .pointer (some ⟨ba, oa + i * 2, none⟩)) (wanted_none rfl) (v := .pointer (some ⟨ba, oa + i * 2, none⟩)) (w2 := x) (by simp [execOp, e1, e2, hix x]) (fun u x2 h1 h2 => by subst h1; subst h2; exact hK0 _ _ rfl (RS.refl _) (hH.plain 3 _ (by decide) (by decide) (by decide) (by decide) (by decide))) rfl rfl
    | 4, _ =>
      obtain rfl : { dst := some 71, op := Op.load 33 (Operand.tmp 70), type := 33, pos := "outright.go:31", after := #[{ on := 3, ground := Ground.data }], guard := none } = o := Option.some.inj (show r15Ops[4]? = some _ from ho)
      obtain ⟨t1, g1, _⟩ := dep 3 (by kernel_rfl)
      have e1 := eval_at ((t1 70 (by rfl)).trans (congrArg some (show f 3 = _ from g1)))
      obtain ⟨c1, c2⟩ := HAC x hH.bel
      exact inv_val (R := fun _ x2 => x2 = x) (G := fun u _ => u = .agg #[.int .i64 y, .string t]) (wanted_none rfl) (v := .agg #[.int .i64 y, .string t]) (w2 := x) (by simp only [execOp, e1]; go_simp) (fun u x2 h1 h2 => by subst h1; subst h2; exact hK0 _ _ rfl (RS.refl _) (hH.plain 4 _ (by decide) (by decide) (by decide) (by decide) (by decide))) rfl rfl
    | 5, _ =>
      obtain rfl : { dst := some 72, op := Op.call { callee := Callee.value (Operand.func 16), args := #[Operand.tmp 67, Operand.tmp 71], argTypes := #[26, 33] }, type := 37, pos := "outright.go:31", after := #[{ on := 0, ground := Ground.data }, { on := 4, ground := Ground.data }], guard := none } = o := Option.some.inj (show r15Ops[5]? = some _ from ho)
      obtain ⟨t1, g1, _⟩ := dep 0 (by kernel_rfl)
      obtain ⟨t2, g2, _⟩ := dep 4 (by kernel_rfl)
      have e1 := (t1 67 (by rfl)).trans (congrArg some (show f 0 = _ from g1))
      have e2 := (t2 71 (by rfl)).trans (congrArg some (show f 4 = _ from g2))
      have hS := hH.ahead hid
      refine inv_call (G := fun u x2 => AP x w0.heap.size b l k A (.returned u) x2) (R := fun _ _ => True) (wanted_none rfl) (F := 16) (args := #[.pointer (some ⟨b, 0, none⟩), .agg #[.int .i64 y, .string t]]) (by simp [go_sem, e1, e2]) (fun u x2 h1 _ => ?_) ((HA x hS).mono fun e x2 h => ?_)
      · obtain ⟨hu, hS2, hg⟩ := h1
        have hu' : u = _ := Ending.returned.inj hu
        refine hK0 u x2 hu' (RS.of_grown hg (Sc.scanAt hS2) (Sc.scanAt hS)) ⟨hH.bel.trans (grown_below hg hS.le.1 hH.bel.size), ?_, fun _ => hS2, ?_, fun _ => getD_set_self (by rw [hdsz]; decide), ?_⟩
        · intro h; rw [getD_set_self (by rw [hdsz]; decide)] at h; cases h
        · rw [getD_set_ne true (by decide), getD_set_ne true (by decide)]
          intro h9 _
          exact absurd hid (by rw [hH.ord h9]; decide)
        · rw [getD_set_ne true (by decide), getD_set_ne true (by decide)]
          exact hH.two
      · obtain ⟨he, h2⟩ := h
        exact ⟨_, he, ⟨rfl, h2⟩, trivial⟩
    | 6, _ =>
      obtain rfl : { dst := some 73, op := Op.move (Operand.tmp 0), type := 22, pos := "outright.go:31", after := #[], guard := none } = o := Option.some.inj (show r15Ops[6]? = some _ from ho)
      have qb := (bas 0 (by kernel_rfl)).trans h0
      have eb := eval_at qb
      exact inv_val (R := fun _ x2 => x2 = x) (G := fun u _ => u = .slice q n c) (wanted_none rfl) (v := .slice q n c) (w2 := x) (by simp only [execOp, eb]; go_simp) (fun u x2 h1 h2 => by subst h1; subst h2; exact hK0 _ _ rfl (RS.refl _) (hH.plain 6 _ (by decide) (by decide) (by decide) (by decide) (by decide))) rfl rfl
    | 7, _ =>
      obtain rfl : { dst := some 74, op := Op.move (Operand.tmp 7), type := 3, pos := "outright.go:31", after := #[], guard := none } = o := Option.some.inj (show r15Ops[7]? = some _ from ho)
      have qb := (bas 7 (by kernel_rfl)).trans h7
      have eb := eval_at qb
      exact inv_val (R := fun _ x2 => x2 = x) (G := fun u _ => u = .int .i64 (k : Nat)) (wanted_none rfl) (v := .int .i64 (k : Nat)) (w2 := x) (by simp only [execOp, eb]; go_simp) (fun u x2 h1 h2 => by subst h1; subst h2; exact hK0 _ _ rfl (RS.refl _) (hH.plain 7 _ (by decide) (by decide) (by decide) (by decide) (by decide))) rfl rfl
    | 8, _ =>
      obtain rfl : { dst := some 75, op := Op.slice 22 (Operand.tmp 73) (some (Operand.tmp 74)) none none, type := 22, pos := "outright.go:31", after := #[{ on := 6, ground := Ground.data }, { on := 7, ground := Ground.data }], guard := none } = o := Option.some.inj (show r15Ops[8]? = some _ from ho)
      obtain ⟨t1, g1, _⟩ := dep 6 (by kernel_rfl)
      obtain ⟨t2, g2, _⟩ := dep 7 (by kernel_rfl)
      have e1 := eval_at ((t1 73 (by rfl)).trans (congrArg some (show f 6 = _ from g1)))
      have e2 := eval_at ((t2 74 (by rfl)).trans (congrArg some (show f 7 = _ from g2)))
      exact inv_val (R := fun _ x2 => x2 = x) (G := fun u _ => u = .slice q8 (l.drop k).length c8) (wanted_none rfl) (v := .slice q8 (l.drop k).length c8) (w2 := x) (by simp [execOp, e1, e2, hsl x]) (fun u x2 h1 h2 => by subst h1; subst h2; exact hK0 _ _ rfl (RS.refl _) (hH.plain 8 _ (by decide) (by decide) (by decide) (by decide) (by decide))) rfl rfl
    | 9, _ =>
      obtain rfl : { dst := some 76, op := Op.call { callee := Callee.value (Operand.func 10), args := #[Operand.tmp 75], argTypes := #[22] }, type := 26, pos := "outright.go:31", after := #[{ on := 8, ground := Ground.data }, { on := 5, ground := Ground.chain }], guard := none } = o := Option.some.inj (show r15Ops[9]? = some _ from ho)
      obtain ⟨t1, g1, _⟩ := dep 8 (by kernel_rfl)
      obtain ⟨_, _, d5⟩ := dep 5 (by kernel_rfl)
      have e1 := (t1 75 (by rfl)).trans (congrArg some (show f 8 = _ from g1))
      have hS := hH.behind d5
      refine inv_call (G := fun u x2 => ObjPost (l.drop k) 0 x (.returned u) x2) (R := fun _ _ => True) (wanted_none rfl) (F := 10) (args := #[.slice q8 (l.drop k).length c8]) (by simp [go_sem, e1]) (fun u x2 h1 _ => ?_) ((HNEW x hH.bel).mono fun e x2 h => ?_)
      · obtain ⟨b2, hu, hS2, hb⟩ := h1
        have hu' : u = _ := Ending.returned.inj hu
        have hne : b2 ≠ b := by have h1 := Cu.lt hS; have h2 := (Cu.le hS2).1; omega
        refine hK0 u x2 ⟨b2, hu'⟩ (RS.of_below hb) ⟨hH.bel.trans (hb.mono hH.bel.size), ?_, ?_, ?_, fun _ => by rw [getD_set_ne true (by decide)]; exact d5, ?_⟩
        · rw [getD_set_ne true (by decide)]; intro h; rw [d5] at h; cases h
        · intro _; exact Cu.below hS hb
        · intro _ _
          exact ⟨b2, by show (if 9 = 9 then u else f 9) = _; rw [if_pos rfl]; exact hu', Cu.down hS2 hH.bel.size, hne⟩
        · rw [getD_set_ne true (by decide), getD_set_ne true (by decide)]
          exact hH.two
      · obtain ⟨b2, he, h2⟩ := h
        exact ⟨_, he, ⟨b2, rfl, h2⟩, trivial⟩
    | 10, _ =>
      obtain rfl : { dst := some 77, op := Op.move (Operand.tmp 1), type := 23, pos := "outright.go:31", after := #[], guard := none } = o := Option.some.inj (show r15Ops[10]? = some _ from ho)
      have qb := (bas 1 (by kernel_rfl)).trans h1
      have eb := eval_at qb
      exact inv_val (R := fun _ x2 => x2 = x) (G := fun u _ => u = .slice (some ⟨ba, oa, none⟩) na ca) (wanted_none rfl) (v := .slice (some ⟨ba, oa, none⟩) na ca) (w2 := x) (by simp only [execOp, eb]; go_simp) (fun u x2 h1 h2 => by subst h1; subst h2; exact hK0 _ _ rfl (RS.refl _) (hH.plain 10 _ (by decide) (by decide) (by decide) (by decide) (by decide))) rfl rfl
    | 11, _ =>
      obtain rfl : { dst := some 78, op := Op.move (Operand.tmp 6), type := 3, pos := "outright.go:31", after := #[], guard := none } = o := Option.some.inj (show r15Ops[11]? = some _ from ho)
      have qb := (bas 6 (by kernel_rfl)).trans h6
      have eb := eval_at qb
      exact inv_val (R := fun _ x2 => x2 = x) (G := fun u _ => u = .int .i64 (i : Nat)) (wanted_none rfl) (v := .int .i64 (i : Nat)) (w2 := x) (by simp only [execOp, eb]; go_simp) (fun u x2 h1 h2 => by subst h1; subst h2; exact hK0 _ _ rfl (RS.refl _) (hH.plain 11 _ (by decide) (by decide) (by decide) (by decide) (by decide))) rfl rfl
    | 12, _ =>
      obtain rfl : { dst := some 79, op := Op.indexAddr 23 (Operand.tmp 77) (Operand.tmp 78), type := 0, pos := "outright.go:31", after := #[{ on := 10, ground := Ground.data }, { on := 11, ground := Ground.data }], guard := none } = o := Option.some.inj (show r15Ops[12]? = some _ from ho)
      obtain ⟨t1, g1, _⟩ := dep 10 (by kernel_rfl)
      obtain ⟨t2, g2, _⟩ := dep 11 (by kernel_rfl)
      have e1 := eval_at ((t1 77 (by rfl)).trans (congrArg some (show f 10 = _ from g1)))
      have e2 := eval_at ((t2 78 (by rfl)).trans (congrArg some (show f 11 = _ from g2)))
      exact inv_val (R := fun _ x2 => x2 = x) (G := fun u _ => u = .pointer (some ⟨ba, oa + i * 2, none⟩)) (wanted_none rfl) (v := .pointer (some ⟨ba, oa + i * 2, none⟩)) (w2 := x) (by simp [execOp, e1, e2, hix x]) (fun u x2 h1 h2 => by subst h1; subst h2; exact hK0 _ _ rfl (RS.refl _) (hH.plain 12 _ (by decide) (by decide) (by decide) (by decide) (by decide))) rfl rfl
    | 13, _ =>
      obtain rfl : { dst := some 80, op := Op.load 33 (Operand.tmp 79), type := 33, pos := "outright.go:31", after := #[{ on := 12, ground := Ground.data }], guard := none } = o := Option.some.inj (show r15Ops[13]? = some _ from ho)
      obtain ⟨t1, g1, _⟩ := dep 12 (by kernel_rfl)
      have e1 := eval_at ((t1 79 (by rfl)).trans (congrArg some (show f 12 = _ from g1)))
      obtain ⟨c1, c2⟩ := HAC x hH.bel
      exact inv_val (R := fun _ x2 => x2 = x) (G := fun u _ => u = .agg #[.int .i64 y, .string t]) (wanted_none rfl) (v := .agg #[.int .i64 y, .string t]) (w2 := x) (by simp only [execOp, e1]; go_simp) (fun u x2 h1 h2 => by subst h1; subst h2; exact hK0 _ _ rfl (RS.refl _) (hH.plain 13 _ (by decide) (by decide) (by decide) (by decide) (by decide))) rfl rfl
    | 14, _ =>
      obtain rfl : { dst := some 81, op := Op.call { callee := Callee.value (Operand.func 16), args := #[Operand.tmp 76, Operand.tmp 80], argTypes := #[26, 33] }, type := 37, pos := "outright.go:31", after := #[{ on := 9, ground := Ground.data }, { on := 13, ground := Ground.data }, { on := 9, ground := Ground.chain }], guard := none } = o := Option.some.inj (show r15Ops[14]? = some _ from ho)
      obtain ⟨t1, g1, d9⟩ := dep 9 (by kernel_rfl)
      obtain ⟨t2, g2, _⟩ := dep 13 (by kernel_rfl)
      obtain ⟨b2, hf9, hS2, hne⟩ := hH.new d9 hid
      have e1 := (t1 76 (by rfl)).trans (congrArg some hf9)
      have e2 := (t2 80 (by rfl)).trans (congrArg some (show f 13 = _ from g2))
      refine inv_call (G := fun u x2 => AP x w0.heap.size b2 (l.drop k) 0 Y (.returned u) x2) (R := fun _ _ => True) (wanted_none rfl) (F := 16) (args := #[.pointer (some ⟨b2, 0, none⟩), .agg #[.int .i64 y, .string t]]) (by simp [go_sem, e1, e2]) (fun u x2 h1 _ => ?_) ((HY x b2 hS2).mono fun e x2 h => ?_)
      · obtain ⟨hu, hS3, hg⟩ := h1
        have hu' : u = _ := Ending.returned.inj hu
        refine hK0 u x2 hu' (RS.of_grown hg (Sc.scanAt hS3) (Sc.scanAt hS2)) ⟨hH.bel.trans (grown_below hg hS2.le.1 hH.bel.size), ?_, ?_, ?_, ?_, ?_⟩
        · rw [getD_set_ne true (by decide)]; intro h; exact (hH.ahead h).beside hS2 hne hg
        · rw [getD_set_ne true (by decide)]; intro h; exact (hH.behind h).beside hS2 hne hg
        · intro _ h; rw [getD_set_self (by rw [hdsz]; decide)] at h; cases h
        · rw [getD_set_ne true (by decide), getD_set_ne true (by decide)]; exact hH.ord
        · rw [getD_set_ne true (by decide), getD_set_ne true (by decide)]
          exact hH.two
      · obtain ⟨he, h2⟩ := h
        exact ⟨_, he, ⟨rfl, h2⟩, trivial⟩
    | 15, _ =>
      obtain rfl : { dst := some 8, op := Op.alloc 37, type := 0, pos := "outright.go:31", after := #[], guard := none } = o := Option.some.inj (show r15Ops[15]? = some _ from ho)
      have hz : w0.heap.size ≤ x.heap.size := hH.bel.size
      have hb := bl_alloc x (.cells (tvl 0 0 0 ⟨#[]⟩ false false) 37)
      refine inv_val (G := fun u x2 => u = .pointer (some ⟨x.heap.size, 0, none⟩) ∧ x2 = x.alloc (.cells (tvl 0 0 0 ⟨#[]⟩ false false) 37)) (R := fun _ _ => True) (wanted_none rfl) (v := .pointer (some ⟨x.heap.size, 0, none⟩)) (w2 := x.alloc (.cells (tvl 0 0 0 ⟨#[]⟩ false false) 37)) (by simp [execOp, run_alloc_told x]) (fun u x2 h1 _ => ?_) ⟨rfl, rfl⟩ trivial
      obtain ⟨hu, hx2⟩ := h1
      subst hx2
      refine hK0 u _ ⟨x.heap.size, hu, hz, (MapKept.heap_alloc x _).1⟩ (RS.of_below hb) ⟨hH.bel.trans (hb.mono hH.bel.size), ?_, ?_, ?_, ?_, ?_⟩
      · rw [getD_set_ne true (by decide)]; intro h; exact Cu.below (hH.ahead h) hb
      · rw [getD_set_ne true (by decide)]; intro h; exact Cu.below (hH.behind h) hb
      · rw [getD_set_ne true (by decide), getD_set_ne true (by decide)]
        intro h9 h14
        obtain ⟨b2, h1, h2, h3⟩ := hH.new h9 h14
        exact ⟨b2, h1, Cu.below h2 hb, h3⟩
      · rw [getD_set_ne true (by decide), getD_set_ne true (by decide)]; exact hH.ord
      · intro _ _
        have hd : done.getD 16 true = true := by
          rename_i h15 h16
          rw [getD_set_ne true (by decide)] at h16; exact h16
        obtain ⟨nb, hf, _, ht⟩ := hgood 16 (by decide) (by decide) hd
        show (if 15 = 15 then u else f 15) ≠ (if 16 = 15 then u else f 16)
        rw [if_pos rfl, if_neg (by decide), hu, hf]
        have := lt_of_block ht
        intro e
        simp only [Value.pointer.injEq, Option.some.injEq, Addr.mk.injEq, and_true] at e
        omega
    | 16, _ =>
      obtain rfl : { dst := some 9, op := Op.alloc 37, type := 0, pos := "outright.go:31", after := #[], guard := none } = o := Option.some.inj (show r15Ops[16]? = some _ from ho)
      have hz : w0.heap.size ≤ x.heap.size := hH.bel.size
      have hb := bl_alloc x (.cells (tvl 0 0 0 ⟨#[]⟩ false false) 37)
      refine inv_val (G := fun u x2 => u = .pointer (some ⟨x.heap.size, 0, none⟩) ∧ x2 = x.alloc (.cells (tvl 0 0 0 ⟨#[]⟩ false false) 37)) (R := fun _ _ => True) (wanted_none rfl) (v := .pointer (some ⟨x.heap.size, 0, none⟩)) (w2 := x.alloc (.cells (tvl 0 0 0 ⟨#[]⟩ false false) 37)) (by simp [execOp, run_alloc_told x]) (fun u x2 h1 _ => ?_) ⟨rfl, rfl⟩ trivial
      obtain ⟨hu, hx2⟩ := h1
      subst hx2
      refine hK0 u _ ⟨x.heap.size, hu, hz, (MapKept.heap_alloc x _).1⟩ (RS.of_below hb) ⟨hH.bel.trans (hb.mono hH.bel.size), ?_, ?_, ?_, ?_, ?_⟩
      · rw [getD_set_ne true (by decide)]; intro h; exact Cu.below (hH.ahead h) hb
      · rw [getD_set_ne true (by decide)]; intro h; exact Cu.below (hH.behind h) hb
      · rw [getD_set_ne true (by decide), getD_set_ne true (by decide)]
        intro h9 h14
        obtain ⟨b2, h1, h2, h3⟩ := hH.new h9 h14
        exact ⟨b2, h1, Cu.below h2 hb, h3⟩
      · rw [getD_set_ne true (by decide), getD_set_ne true (by decide)]; exact hH.ord
      · intro _ _
        have hd : done.getD 15 true = true := by
          rename_i h15 h16
          rw [getD_set_ne true (by decide)] at h15; exact h15
        obtain ⟨nb, hf, _, ht⟩ := hgood 15 (by decide) (by decide) hd
        show (if 15 = 16 then u else f 15) ≠ (if 16 = 16 then u else f 16)
        rw [if_neg (by decide), if_pos rfl, hu, hf]
        have := lt_of_block ht
        intro e
        simp only [Value.pointer.injEq, Option.some.injEq, Addr.mk.injEq, and_true] at e
        omega
    | 17, _ => exact absurd (show r15Pre.getD 17 false = true from hp) (by decide)
    | 18, _ => exact absurd (show r15Pre.getD 18 false = true from hp) (by decide)
  · intro f x hk hR hH
    rw [r15_slots]
    have k5 : f 5 = .agg (tvl A.1 A.2.1 ((k + A.2.2.2.2 : Nat) : Int) A.2.2.1 A.2.2.2.1 (decide (k + A.2.2.2.2 = l.length))) := hk 5 (by decide) (by decide)
    have k14 : f 14 = .agg (tvl Y.1 Y.2.1 ((0 + Y.2.2.2.2 : Nat) : Int) Y.2.2.1 Y.2.2.2.1 (decide (0 + Y.2.2.2.2 = (l.drop k).length))) := hk 14 (by decide) (by decide)
    obtain ⟨n1, e1, z1, b1⟩ : PT x w0.heap.size (f 15) := hk 15 (by decide) (by decide)
    obtain ⟨n2, e2, z2, b2⟩ : PT x w0.heap.size (f 16) := hk 16 (by decide) (by decide)
    have hne : n1 ≠ n2 := fun e => hH.two (by decide) (by decide) (by rw [e1, e2, e])
    have hS := hH.behind (by decide)
    obtain ⟨x1, r1, t1, g1⟩ := run_store_told b1 A.1 A.2.1 ((k + A.2.2.2.2 : Nat) : Int) A.2.2.1 A.2.2.2.1 (decide (k + A.2.2.2.2 = l.length))
    have b2' : Tb x1 n2 PT.told00 := b2.kept g1 hne
    obtain ⟨x2, r2, t2, g2⟩ := run_store_told b2' Y.1 Y.2.1 ((0 + Y.2.2.2.2 : Nat) : Int) Y.2.2.1 Y.2.2.2.1 (decide (0 + Y.2.2.2.2 = (l.drop k).length))
    have hS1 : Sc x1 w0.heap.size b l (k + A.2.2.2.2) := sc_tb hS b1 g1
    have hS2 : Sc x2 w0.heap.size b l (k + A.2.2.2.2) := sc_tb hS1 b2' g2
    rw [e1, e2]
    have get : ∀ s v, (s, v) ∈ [(67, f 0), (68, f 1), (69, f 2), (70, f 3), (71, f 4), (72, f 5), (73, f 6), (74, f 7), (75, f 8), (76, f 9), (77, f 10), (78, f 11), (79, f 12), (80, f 13), (81, f 14), (8, .pointer (some ⟨n1, 0, none⟩)), (9, .pointer (some ⟨n2, 0, none⟩))] → (putL a0 [(67, f 0), (68, f 1), (69, f 2), (70, f 3), (71, f 4), (72, f 5), (73, f 6), (74, f 7), (75, f 8), (76, f 9), (77, f 10), (78, f 11), (79, f 12), (80, f 13), (81, f 14), (8, .pointer (some ⟨n1, 0, none⟩)), (9, .pointer (some ⟨n2, 0, none⟩))]).tmps[s]? = some v := fun s v hm =>
      (putL_get _ a0 s (by simp) (by rw [hsize]; simp)).2 v hm
    have g8 := eval_at (get 8 (.pointer (some ⟨n1, 0, none⟩)) (by simp))
    have g9 := eval_at (get 9 (.pointer (some ⟨n2, 0, none⟩)) (by simp))
    have g72 := (eval_at (get 72 (f 5) (by simp))).trans k5
    have g81 := (eval_at (get 81 (f 14) (by simp))).trans k14
    generalize hL : ([(67, f 0), (68, f 1), (69, f 2), (70, f 3), (71, f 4), (72, f 5), (73, f 6), (74, f 7), (75, f 8), (76, f 9), (77, f 10), (78, f 11), (79, f 12), (80, f 13), (81, f 14), (8, .pointer (some ⟨n1, 0, none⟩)), (9, .pointer (some ⟨n2, 0, none⟩))] : List (Nat × Value)) = L at g8 g9 g72 g81 ⊢
    refine any_one (i := 17) (o := { dst := none, op := Op.store 37 (Operand.tmp 8) (Operand.tmp 72), type := 0, pos := "outright.go:31", after := #[{ on := 15, ground := Ground.data }, { on := 5, ground := Ground.data }, { on := 14, ground := Ground.chain }, { on := 0, ground := Ground.phase }, { on := 1, ground := Ground.phase }, { on := 2, ground := Ground.phase }, { on := 3, ground := Ground.phase }, { on := 4, ground := Ground.phase }, { on := 5, ground := Ground.phase }, { on := 6, ground := Ground.textOnly Departure.lateStores }, { on := 7, ground := Ground.textOnly Departure.lateStores }, { on := 8, ground := Ground.textOnly Departure.lateStoresUnsure }, { on := 9, ground := Ground.textOnly Departure.lateStoresUnsure }, { on := 10, ground := Ground.textOnly Departure.lateStores }, { on := 11, ground := Ground.textOnly Departure.lateStores }, { on := 12, ground := Ground.textOnly Departure.lateStores }, { on := 13, ground := Ground.textOnly Departure.lateStores }, { on := 14, ground := Ground.textOnly Departure.lateStoresUnsure }, { on := 15, ground := Ground.phase }, { on := 16, ground := Ground.phase }], guard := none }) (by kernel_rfl) rfl ?_
    refine inv_skip (wanted_none rfl) (w2 := x1) (by simp only [execOp, g8, g72]; rw [Sem.run_bind, r1]; rfl) ?_
    refine any_one (i := 18) (o := { dst := none, op := Op.store 37 (Operand.tmp 9) (Operand.tmp 81), type := 0, pos := "outright.go:31", after := #[{ on := 16, ground := Ground.data }, { on := 14, ground := Ground.data }, { on := 17, ground := Ground.chain }, { on := 0, ground := Ground.phase }, { on := 1, ground := Ground.phase }, { on := 2, ground := Ground.phase }, { on := 3, ground := Ground.phase }, { on := 4, ground := Ground.phase }, { on := 5, ground := Ground.phase }, { on := 6, ground := Ground.phase }, { on := 7, ground := Ground.phase }, { on := 8, ground := Ground.phase }, { on := 9, ground := Ground.phase }, { on := 10, ground := Ground.phase }, { on := 11, ground := Ground.phase }, { on := 12, ground := Ground.phase }, { on := 13, ground := Ground.phase }, { on := 14, ground := Ground.phase }, { on := 15, ground := Ground.phase }, { on := 16, ground := Ground.phase }, { on := 17, ground := Ground.phase }], guard := none }) (by kernel_rfl) rfl ?_
    refine inv_skip (wanted_none rfl) (w2 := x2) (a := putL a0 L) (by simp only [execOp, g9, g81]; rw [Sem.run_bind, r2]; rfl) ?_
    refine any_end (by kernel_rfl) ?_ 0
    show Q .normal (putL a0 L) _
    subst hL
    exact fin f n1 n2 x2 hne z1 z2 (t1.kept g2 (Ne.symm hne)) t2 hS2 ((hH.bel.trans (grown_below g1 z1 hH.bel.size)).trans (grown_below g2 z2 (Nat.le_trans hH.bel.size g1.size)))
  · exact ⟨HB.trans ((bl_drew w).mono HB.size), fun _ => Cu.drewN HC 1, fun h => by simp [r15Ops] at h, fun h => by simp [r15Ops] at h, fun h => by simp [r15Ops] at h, fun h => by simp [r15Ops] at h⟩
end Go.Proofs.Ytkpkhjflelmdjaa
