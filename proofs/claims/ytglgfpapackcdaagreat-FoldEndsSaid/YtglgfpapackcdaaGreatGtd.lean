/- FoldEnds' drawn region 45: an older row of the call's own is appended to. -/
import Derived.Test.YtglgfpapackcdaaGreatGtc

namespace Go.Proofs.YtglgfpapackcdaaGreat
open Go.RowKit Tnr

theorem run_joinRA {w : World} {B : Nat} {v : Value} {N : List R} {q : Option Addr} {cq n : Nat} {a : List R} (T : TypeId) (ho : OwnR w B v N) (hs : SlR w q a) (hn : n = a.length) (hq : q = none → cq = 0) (hl : N.length + a.length ≤ 100000) (hB : B ≤ w.heap.size) :
    ∃ v' w', (Builtin.append_ #[25, 25] T #[v, .slice q n cq]).run Tryz.prog w = .ok v' w' ∧ OwnR w' B v' (N ++ a) ∧ w.grownBy w' v.ownBlock ∧ (v'.ownBlock = v.ownBlock ∨ v'.ownBlock = some w.heap.size) := by
  subst hn
  obtain ⟨i0, hinf, hz0, hz1, hz2⟩ := info_parts info_range
  unfold OwnR at ho
  cases q with
  | none =>
    have := hq rfl
    subst this
    have ha : a = [] := by
      rcases hs with h | ⟨b, off, h, _⟩
      · exact h
      · cases h
    subst ha
    have hrun := run_append_owned_none (P := Tryz.prog) (w := w) B 25 T 24 i0 2 Tryz.underlying25 hinf v N.length _ ho
    refine ⟨v, w, hrun, ?_, World.grownBy.refl _ _, .inl rfl⟩
    unfold OwnR
    rw [List.append_nil]; exact ho
  | some ad =>
    have hn : ∀ j u, (a.flatMap encR)[j]? = some u → w.cell? (ad.add j) = some u := by
      rcases hs with h | ⟨b, off, h, hc⟩
      · subst h; intro j u hu; simp at hu
      · simp only [Option.some.injEq] at h
        subst h
        exact newsR_at hc
    obtain ⟨v', w', h1, h2, h3, _, h4⟩ := run_append_own_at (P := Tryz.prog) (w := w) B 25 T 24 i0 (.agg #[.int .i64 0, .int .i64 0]) 2 16 Tryz.underlying25 hinf hz0 hz1 hz2 rfl (by decide) v N.length _ ho ad a.length cq (a.flatMap encR) (by rw [encs_length]) hn (by intro u hu; obtain ⟨x, rfl⟩ := enc_one u hu; rfl) (by simp only [maxLen]; omega) (by omega) hB
    refine ⟨v', w', h1, ?_, h3, h4⟩
    unfold OwnR
    rw [List.length_append, List.flatMap_append]
    exact h2
structure f45H (z B i : Nat) (sv : Value) (S : List R) (b : Nat → Bool) (f : Nat → Value) (x : World) : Prop where
  old : b 14 = false → OwnR x B sv S
  lit : b 13 = true → ∃ g, f 13 = .slice (some ⟨g, 0, none⟩) 1 1 ∧ z ≤ g ∧ Bx x g 24 #[.int .i64 ((3 * i : Nat) : Int), .int .i64 ((3 * i + 1 : Nat) : Int)]
  new : b 14 = true → OwnR x B (f 14) (S ++ [(((3 * i : Nat) : Int), ((3 * i + 1 : Nat) : Int))]) ∧ ((f 14).ownBlock = sv.ownBlock ∨ ∃ g, (f 14).ownBlock = some g ∧ z ≤ g)
theorem f45H.pure {z B i j : Nat} {sv : Value} {S : List R} {b : Nat → Bool} {f : Nat → Value} {u : Value} {x y : World} (h : f45H z B i sv S b f x) (hb : Below x.heap.size x y) (h13 : j ≠ 13) (h14 : j ≠ 14) : f45H z B i sv S (bset b j) (upd f j u) y := by
  refine ⟨?_, ?_, ?_⟩
  · rw [bset_ne (Ne.symm h14)]; exact fun e => ownR_below (h.old e) hb
  · rw [bset_ne (Ne.symm h13), upd_ne (Ne.symm h13)]
    intro e
    obtain ⟨g, k1, k2, k3⟩ := h.lit e
    exact ⟨g, k1, k2, k3.below hb⟩
  · rw [bset_ne (Ne.symm h14), upd_ne (Ne.symm h14)]
    intro e
    exact ⟨ownR_below (h.new e).1 hb, (h.new e).2⟩
def f45o0 : Oper := ⟨some 212, Op.fieldAddr 30 (.tmp 15) 1, 0, "law.go:106", #[], none⟩
def f45o1 : Oper := ⟨some 213, Op.load 28 (.tmp 212), 28, "law.go:106", #[⟨0, .data⟩], none⟩
def f45o2 : Oper := ⟨some 214, Op.fieldAddr 30 (.tmp 15) 1, 0, "law.go:106", #[], none⟩
def f45o3 : Oper := ⟨some 215, Op.load 28 (.tmp 214), 28, "law.go:106", #[⟨2, .data⟩], none⟩
def f45o4 : Oper := ⟨some 216, Op.indexAddr 28 (.tmp 215) (.const (.int .i64 1)), 0, "law.go:106", #[⟨3, .data⟩], none⟩
def f45o5 : Oper := ⟨some 217, Op.fieldAddr 37 (.tmp 216) 1, 0, "law.go:106", #[⟨4, .data⟩], none⟩
def f45o6 : Oper := ⟨some 218, Op.load 25 (.tmp 217), 25, "law.go:106", #[⟨5, .data⟩], none⟩
def f45o7 : Oper := ⟨some 219, Op.move (.tmp 16), 3, "law.go:106", #[], none⟩
def f45o8 : Oper := ⟨some 220, Op.binOp BinOp.mul 3 (.const (.int .i64 3)) (.tmp 219) 3, 3, "law.go:106", #[⟨7, .data⟩], none⟩
def f45o9 : Oper := ⟨some 221, Op.move (.tmp 16), 3, "law.go:106", #[], none⟩
def f45o10 : Oper := ⟨some 222, Op.binOp BinOp.mul 3 (.const (.int .i64 3)) (.tmp 221) 3, 3, "law.go:106", #[⟨9, .data⟩], none⟩
def f45o11 : Oper := ⟨some 223, Op.binOp BinOp.add 3 (.tmp 222) (.const (.int .i64 1)) 3, 3, "law.go:106", #[⟨10, .data⟩], none⟩
def f45o12 : Oper := ⟨some 224, Op.build 24 #[(0, .tmp 220), (1, .tmp 223)], 24, "law.go:106", #[⟨8, .data⟩, ⟨11, .data⟩], none⟩
def f45o13 : Oper := ⟨some 225, Op.buildSlice 25 1 #[(0, .tmp 224)], 25, "law.go:106", #[⟨12, .data⟩], none⟩
def f45o14 : Oper := ⟨some 226, Op.call { callee := Callee.builtin Builtin.append, args := #[.tmp 218, .tmp 225], argTypes := #[25, 25] }, 25, "law.go:106", #[⟨6, .data⟩, ⟨13, .data⟩], none⟩
def f45o15 : Oper := ⟨some 227, Op.indexAddr 28 (.tmp 213) (.const (.int .i64 1)), 0, "law.go:106", #[⟨1, .data⟩, ⟨0, .phase⟩, ⟨1, .phase⟩, ⟨2, .phase⟩, ⟨3, .phase⟩, ⟨4, .phase⟩, ⟨5, .phase⟩, ⟨6, .phase⟩, ⟨7, .phase⟩, ⟨8, .phase⟩, ⟨9, .phase⟩, ⟨10, .phase⟩, ⟨11, .phase⟩, ⟨12, .phase⟩, ⟨13, .phase⟩, ⟨14, .phase⟩], none⟩
def f45o16 : Oper := ⟨some 228, Op.fieldAddr 37 (.tmp 227) 1, 0, "law.go:106", #[⟨15, .data⟩, ⟨0, .phase⟩, ⟨1, .phase⟩, ⟨2, .phase⟩, ⟨3, .phase⟩, ⟨4, .phase⟩, ⟨5, .phase⟩, ⟨6, .phase⟩, ⟨7, .phase⟩, ⟨8, .phase⟩, ⟨9, .phase⟩, ⟨10, .phase⟩, ⟨11, .phase⟩, ⟨12, .phase⟩, ⟨13, .phase⟩, ⟨14, .phase⟩], none⟩
def f45o17 : Oper := ⟨none, Op.store 25 (.tmp 228) (.tmp 226), 0, "law.go:106", #[⟨16, .data⟩, ⟨14, .data⟩, ⟨14, .chain⟩, ⟨0, .phase⟩, ⟨1, .phase⟩, ⟨2, .phase⟩, ⟨3, .phase⟩, ⟨4, .phase⟩, ⟨5, .phase⟩, ⟨6, .phase⟩, ⟨7, .phase⟩, ⟨8, .phase⟩, ⟨9, .phase⟩, ⟨10, .phase⟩, ⟨11, .phase⟩, ⟨12, .phase⟩, ⟨13, .phase⟩, ⟨14, .phase⟩], none⟩
def f45Ops : Array Oper := #[f45o0, f45o1, f45o2, f45o3, f45o4, f45o5, f45o6, f45o7, f45o8, f45o9, f45o10, f45o11, f45o12, f45o13, f45o14, f45o15, f45o16, f45o17]
def f45Pre : Array Bool := #[true, true, true, true, true, true, true, true, true, true, true, true, true, true, true, false, false, false]
def f45K (bx b3 n c i : Nat) (q : Option Addr) : Nat → Value → Prop
  | 0 => fun v => v = .pointer (some ⟨bx, 1, none⟩)
  | 1 => fun v => v = .slice (some ⟨b3, 0, none⟩) 2 2
  | 2 => fun v => v = .pointer (some ⟨bx, 1, none⟩)
  | 3 => fun v => v = .slice (some ⟨b3, 0, none⟩) 2 2
  | 4 => fun v => v = .pointer (some ⟨b3, 2, none⟩)
  | 5 => fun v => v = .pointer (some ⟨b3, 3, none⟩)
  | 6 => fun v => v = .slice q n c
  | 7 => fun v => v = .int .i64 ((i : Nat) : Int)
  | 8 => fun v => v = .int .i64 (((3 * i : Nat)) : Int)
  | 9 => fun v => v = .int .i64 ((i : Nat) : Int)
  | 10 => fun v => v = .int .i64 (((3 * i : Nat)) : Int)
  | 11 => fun v => v = .int .i64 (((3 * i + 1 : Nat)) : Int)
  | 12 => fun v => v = .agg #[.int .i64 (((3 * i : Nat)) : Int), .int .i64 (((3 * i + 1 : Nat)) : Int)]
  | 13 => fun v => ∃ g, v = .slice (some ⟨g, 0, none⟩) 1 1
  | 14 => fun v => ∃ q c, v = .slice q (n + 1) c
  | _ => fun _ => True
theorem f45_slots (f : Nat → Value) : slotsOf f45Ops f45Pre f = [(212, f 0), (213, f 1), (214, f 2), (215, f 3), (216, f 4), (217, f 5), (218, f 6), (219, f 7), (220, f 8), (221, f 9), (222, f 10), (223, f 11), (224, f 12), (225, f 13), (226, f 14)] := by kernel_rfl
set_option maxHeartbeats 6400000 in
set_option maxRecDepth 100000 in
theorem f45_wp {Q : Exit → Act → World → Prop} {a0 : Act} {w : World} (bx b3 n c i B : Nat) (q : Option Addr) (S : List R) (hsize : a0.tmps.size = 258) (h15 : a0.tmps[15]? = some (.pointer (some ⟨bx, 0, none⟩))) (h16 : a0.tmps[16]? = some (.int .i64 ((i : Nat) : Int))) (hc1 : w.drew.cell? ⟨bx, 1, none⟩ = some (.slice (some ⟨b3, 0, none⟩) 2 2)) (hcs : w.drew.cell? ⟨b3, 3, none⟩ = some (.slice q n c))
    (hrow : OwnR w.drew B (.slice q n c) S) (hn : n = S.length) (hnb : n ≤ 5000) (hib : i ≤ 5000) (hB : B ≤ w.drew.heap.size) (hne : ∀ g, (Value.slice q n c).ownBlock = some g → g ≠ bx ∧ g ≠ b3)
    (fin : ∀ (f : Nat → Value) (y : World), (∀ j, j < 18 → f45Pre.getD j false = true → f45K bx b3 n c i q j (f j)) → w.drew.grownBy y (Value.slice q n c).ownBlock → f45H w.drew.heap.size B i (.slice q n c) S (fun j => f45Pre.getD j false) f y → wpAny Tryz.prog .any f45Ops Q 3 f45Pre (putL a0 [(212, f 0), (213, f 1), (214, f 2), (215, f 3), (216, f 4), (217, f 5), (218, f 6), (219, f 7), (220, f 8), (221, f 9), (222, f 10), (223, f 11), (224, f 12), (225, f 13), (226, f 14)]) y) (id : Nat) :
    (Code.region id f45Ops true).wp Tryz.prog Q a0 w := by
  refine wp_region_invS9 f45Pre (fun j v _ => f45K bx b3 n c i q j v) (fun done f x => f45H w.drew.heap.size B i (.slice q n c) S (fun j => done.getD j false) f x) (fun x y => World.grownBy x y (Value.slice q n c).ownBlock) 15 3 (by kernel_rfl) (by kernel_rfl) (by rw [hsize]; kernel_rfl) (by kernel_rfl) (by kernel_rfl) (World.grownBy.refl _ _) (fun _ _ _ h1 h2 => World.grownBy.trans h1 h2) (fun _ _ _ _ h1 _ => h1) ?_ (fun f y h1 h2 h3 => by rw [f45_slots]; exact fin f y h1 h2 h3) ?_
  rotate_left
  · have e : (fun j => (Array.replicate f45Ops.size false).getD j false) = fun _ => false := by
      funext j
      by_cases hj : j < f45Ops.size <;> simp [hj]
    show f45H w.drew.heap.size B i (.slice q n c) S (fun j => (Array.replicate f45Ops.size false).getD j false) _ _
    rw [e]
    exact ⟨fun _ => hrow, by simp, by simp⟩
  intro i_ o ho hp done f a x hR0 hbase hdeps hH0 hdsz hnd hdd hgood K hK0
  have hR : w.drew.grownBy x (Value.slice q n c).ownBlock := hR0
  have hi_ : i_ < 18 := by
    rcases Nat.lt_or_ge i_ 18 with h | h
    · exact h
    · have : f45Ops.size ≤ i_ := h
      rw [Array.getElem?_eq_none this] at ho; cases ho
  have hH : f45H w.drew.heap.size B i (.slice q n c) S (fun j => done.getD j false) f x := hH0
  have hzx := hR.size
  have hlt : i_ < done.size := by rw [hdsz]; exact hi_
  have hnd' : done.getD i_ false = false := by rw [getD_flip hlt false true]; exact hnd
  have ha : ∀ (u : Value) (y : World), f45K bx b3 n c i q i_ u → x.grownBy y (Value.slice q n c).ownBlock → f45H w.drew.heap.size B i (.slice q n c) S (bset (fun j => done.getD j false) i_) (upd f i_ u) y → K (a.put o.dst u) y := fun u y k1 k2 k3 => hK0 u y k1 k2 (by rw [← bits_set hlt] at k3; exact k3)
  clear hK0
  have dep : ∀ j, (o.after.any fun e => Region.binds .any e && e.on == j) = true → (∀ s, slotOf f45Ops j = some s → a.tmps[s]? = some (f j)) ∧ f45K bx b3 n c i q j (f j) := by
    intro j h
    obtain ⟨e, he, h2⟩ := Array.any_eq_true'.1 h
    simp only [Bool.and_eq_true, beq_iff_eq] at h2
    obtain ⟨h3, rfl⟩ := h2
    exact hdeps e he h3
  have kd : ∀ j, j < 18 → (o.after.any fun e => Region.binds .any e && e.on == j) = true → done.getD j false = true := by
    intro j hj h
    obtain ⟨e, he, h2⟩ := Array.any_eq_true'.1 h
    simp only [Bool.and_eq_true, beq_iff_eq] at h2
    obtain ⟨h3, rfl⟩ := h2
    rw [getD_flip (by rw [hdsz]; exact hj) false true]; exact hdd e he h3
  have bv : ∀ {s : Nat} {v : Value}, a0.tmps[s]? = some v → ((List.range f45Ops.size).all fun j => !(f45Pre.getD j false) || slotOf f45Ops j != some s) = true → a.tmps[s]? = some v := by
    intro s v h0 h
    rw [hbase s fun j hj hjp e => ?_]; exact h0
    have h2 := (List.all_eq_true.1 h) j (List.mem_range.2 hj)
    rw [e, hjp] at h2; simp at h2
  have kc1 : x.cell? ⟨bx, 1, none⟩ = some (.slice (some ⟨b3, 0, none⟩) 2 2) := hR.cell hc1 (fun e => (hne bx e.symm).1 rfl)
  have kcs : x.cell? ⟨b3, 3, none⟩ = some (.slice q n c) := hR.cell hcs (fun e => (hne b3 e.symm).2 rfl)
  match i_, hi_ with
  | 0, _ =>
    obtain rfl : f45o0 = o := Option.some.inj (show f45Ops[0]? = some _ from ho)
    have qb := eval_at (bv h15 (by kernel_rfl))
    refine inv_val (G := fun u V => u = .pointer (some ⟨bx, 1, none⟩) ∧ x = V) (R := fun _ _ => True) (wanted_none rfl) (v := .pointer (some ⟨bx, 1, none⟩)) (w2 := x) (by simp only [execOp, f45o0, qb]; go_simp) ?_ ⟨rfl, rfl⟩ trivial
    rintro _ _ ⟨rfl, rfl⟩ _
    exact ha _ _ (rfl) (World.grownBy.refl _ _) (hH.pure (Below.refl _ _) (by decide) (by decide))
  | 1, _ =>
    obtain rfl : f45o1 = o := Option.some.inj (show f45Ops[1]? = some _ from ho)
    obtain ⟨t0, g0⟩ := dep 0 (by kernel_rfl)
    have q0 := t0 212 (by rfl)
    have e0 : f 0 = .pointer (some ⟨bx, 1, none⟩) := g0
    rw [e0] at q0
    have w0 := eval_at q0
    refine inv_val (G := fun u V => u = .slice (some ⟨b3, 0, none⟩) 2 2 ∧ x = V) (R := fun _ _ => True) (wanted_none rfl) (v := .slice (some ⟨b3, 0, none⟩) 2 2) (w2 := x) (by simp only [execOp, f45o1, w0]; go_simp) ?_ ⟨rfl, rfl⟩ trivial
    rintro _ _ ⟨rfl, rfl⟩ _
    exact ha _ _ (rfl) (World.grownBy.refl _ _) (hH.pure (Below.refl _ _) (by decide) (by decide))
  | 2, _ =>
    obtain rfl : f45o2 = o := Option.some.inj (show f45Ops[2]? = some _ from ho)
    have qb := eval_at (bv h15 (by kernel_rfl))
    refine inv_val (G := fun u V => u = .pointer (some ⟨bx, 1, none⟩) ∧ x = V) (R := fun _ _ => True) (wanted_none rfl) (v := .pointer (some ⟨bx, 1, none⟩)) (w2 := x) (by simp only [execOp, f45o2, qb]; go_simp) ?_ ⟨rfl, rfl⟩ trivial
    rintro _ _ ⟨rfl, rfl⟩ _
    exact ha _ _ (rfl) (World.grownBy.refl _ _) (hH.pure (Below.refl _ _) (by decide) (by decide))
  | 3, _ =>
    obtain rfl : f45o3 = o := Option.some.inj (show f45Ops[3]? = some _ from ho)
    obtain ⟨t2, g2⟩ := dep 2 (by kernel_rfl)
    have q2 := t2 214 (by rfl)
    have e2 : f 2 = .pointer (some ⟨bx, 1, none⟩) := g2
    rw [e2] at q2
    have w2 := eval_at q2
    refine inv_val (G := fun u V => u = .slice (some ⟨b3, 0, none⟩) 2 2 ∧ x = V) (R := fun _ _ => True) (wanted_none rfl) (v := .slice (some ⟨b3, 0, none⟩) 2 2) (w2 := x) (by simp only [execOp, f45o3, w2]; go_simp) ?_ ⟨rfl, rfl⟩ trivial
    rintro _ _ ⟨rfl, rfl⟩ _
    exact ha _ _ (rfl) (World.grownBy.refl _ _) (hH.pure (Below.refl _ _) (by decide) (by decide))
  | 4, _ =>
    obtain rfl : f45o4 = o := Option.some.inj (show f45Ops[4]? = some _ from ho)
    obtain ⟨t3, g3⟩ := dep 3 (by kernel_rfl)
    have q3 := t3 215 (by rfl)
    have e3 : f 3 = .slice (some ⟨b3, 0, none⟩) 2 2 := g3
    rw [e3] at q3
    have w3 := eval_at q3
    refine inv_val (G := fun u V => u = .pointer (some ⟨b3, 2, none⟩) ∧ x = V) (R := fun _ _ => True) (wanted_none rfl) (v := .pointer (some ⟨b3, 2, none⟩)) (w2 := x) (by simp only [execOp, f45o4, w3]; go_simp) ?_ ⟨rfl, rfl⟩ trivial
    rintro _ _ ⟨rfl, rfl⟩ _
    exact ha _ _ (rfl) (World.grownBy.refl _ _) (hH.pure (Below.refl _ _) (by decide) (by decide))
  | 5, _ =>
    obtain rfl : f45o5 = o := Option.some.inj (show f45Ops[5]? = some _ from ho)
    obtain ⟨t4, g4⟩ := dep 4 (by kernel_rfl)
    have q4 := t4 216 (by rfl)
    have e4 : f 4 = .pointer (some ⟨b3, 2, none⟩) := g4
    rw [e4] at q4
    have w4 := eval_at q4
    refine inv_val (G := fun u V => u = .pointer (some ⟨b3, 3, none⟩) ∧ x = V) (R := fun _ _ => True) (wanted_none rfl) (v := .pointer (some ⟨b3, 3, none⟩)) (w2 := x) (by simp only [execOp, f45o5, w4]; go_simp) ?_ ⟨rfl, rfl⟩ trivial
    rintro _ _ ⟨rfl, rfl⟩ _
    exact ha _ _ (rfl) (World.grownBy.refl _ _) (hH.pure (Below.refl _ _) (by decide) (by decide))
  | 6, _ =>
    obtain rfl : f45o6 = o := Option.some.inj (show f45Ops[6]? = some _ from ho)
    obtain ⟨t5, g5⟩ := dep 5 (by kernel_rfl)
    have q5 := t5 217 (by rfl)
    have e5 : f 5 = .pointer (some ⟨b3, 3, none⟩) := g5
    rw [e5] at q5
    have w5 := eval_at q5
    refine inv_val (G := fun u V => u = .slice q n c ∧ x = V) (R := fun _ _ => True) (wanted_none rfl) (v := .slice q n c) (w2 := x) (by simp only [execOp, f45o6, w5]; go_simp) ?_ ⟨rfl, rfl⟩ trivial
    rintro _ _ ⟨rfl, rfl⟩ _
    exact ha _ _ (rfl) (World.grownBy.refl _ _) (hH.pure (Below.refl _ _) (by decide) (by decide))
  | 7, _ =>
    obtain rfl : f45o7 = o := Option.some.inj (show f45Ops[7]? = some _ from ho)
    have qb := eval_at (bv h16 (by kernel_rfl))
    refine inv_val (G := fun u V => u = .int .i64 ((i : Nat) : Int) ∧ x = V) (R := fun _ _ => True) (wanted_none rfl) (v := .int .i64 ((i : Nat) : Int)) (w2 := x) (by simp only [execOp, f45o7, qb]; go_simp) ?_ ⟨rfl, rfl⟩ trivial
    rintro _ _ ⟨rfl, rfl⟩ _
    exact ha _ _ (rfl) (World.grownBy.refl _ _) (hH.pure (Below.refl _ _) (by decide) (by decide))
  | 8, _ =>
    obtain rfl : f45o8 = o := Option.some.inj (show f45Ops[8]? = some _ from ho)
    obtain ⟨t7, g7⟩ := dep 7 (by kernel_rfl)
    have q7 := t7 219 (by rfl)
    have e7 : f 7 = .int .i64 ((i : Nat) : Int) := g7
    rw [e7] at q7
    have w7 := eval_at q7
    have hw := IntWalk.i64_in (3 * (i : Int)) (by omega)
    have hcast : (((3 * i : Nat)) : Int) = 3 * (i : Int) := by omega
    refine inv_val (G := fun u V => u = .int .i64 (3 * (i : Int)) ∧ x = V) (R := fun _ _ => True) (wanted_none rfl) (v := .int .i64 (3 * (i : Int))) (w2 := x) (by simp only [execOp, f45o8, w7]; go_simp) ?_ ⟨rfl, rfl⟩ trivial
    rintro _ _ ⟨rfl, rfl⟩ _
    exact ha _ _ (by show _ = _; rw [hcast]) (World.grownBy.refl _ _) (hH.pure (Below.refl _ _) (by decide) (by decide))
  | 9, _ =>
    obtain rfl : f45o9 = o := Option.some.inj (show f45Ops[9]? = some _ from ho)
    have qb := eval_at (bv h16 (by kernel_rfl))
    refine inv_val (G := fun u V => u = .int .i64 ((i : Nat) : Int) ∧ x = V) (R := fun _ _ => True) (wanted_none rfl) (v := .int .i64 ((i : Nat) : Int)) (w2 := x) (by simp only [execOp, f45o9, qb]; go_simp) ?_ ⟨rfl, rfl⟩ trivial
    rintro _ _ ⟨rfl, rfl⟩ _
    exact ha _ _ (rfl) (World.grownBy.refl _ _) (hH.pure (Below.refl _ _) (by decide) (by decide))
  | 10, _ =>
    obtain rfl : f45o10 = o := Option.some.inj (show f45Ops[10]? = some _ from ho)
    obtain ⟨t9, g9⟩ := dep 9 (by kernel_rfl)
    have q9 := t9 221 (by rfl)
    have e9 : f 9 = .int .i64 ((i : Nat) : Int) := g9
    rw [e9] at q9
    have w9 := eval_at q9
    have hw := IntWalk.i64_in (3 * (i : Int)) (by omega)
    have hcast : (((3 * i : Nat)) : Int) = 3 * (i : Int) := by omega
    refine inv_val (G := fun u V => u = .int .i64 (3 * (i : Int)) ∧ x = V) (R := fun _ _ => True) (wanted_none rfl) (v := .int .i64 (3 * (i : Int))) (w2 := x) (by simp only [execOp, f45o10, w9]; go_simp) ?_ ⟨rfl, rfl⟩ trivial
    rintro _ _ ⟨rfl, rfl⟩ _
    exact ha _ _ (by show _ = _; rw [hcast]) (World.grownBy.refl _ _) (hH.pure (Below.refl _ _) (by decide) (by decide))
  | 11, _ =>
    obtain rfl : f45o11 = o := Option.some.inj (show f45Ops[11]? = some _ from ho)
    obtain ⟨t10, g10⟩ := dep 10 (by kernel_rfl)
    have q10 := t10 222 (by rfl)
    have e10 : f 10 = .int .i64 (((3 * i : Nat)) : Int) := g10
    rw [e10] at q10
    have w10 := eval_at q10
    have hw := IntWalk.i64_in (3 * (i : Int) + 1) (by omega)
    have hcast : (((3 * i + 1 : Nat)) : Int) = 3 * (i : Int) + 1 := by omega
    refine inv_val (G := fun u V => u = .int .i64 (3 * (i : Int) + 1) ∧ x = V) (R := fun _ _ => True) (wanted_none rfl) (v := .int .i64 (3 * (i : Int) + 1)) (w2 := x) (by simp only [execOp, f45o11, w10]; go_simp) ?_ ⟨rfl, rfl⟩ trivial
    rintro _ _ ⟨rfl, rfl⟩ _
    exact ha _ _ (by show _ = _; rw [hcast]) (World.grownBy.refl _ _) (hH.pure (Below.refl _ _) (by decide) (by decide))
  | 12, _ =>
    obtain rfl : f45o12 = o := Option.some.inj (show f45Ops[12]? = some _ from ho)
    obtain ⟨t8, g8⟩ := dep 8 (by kernel_rfl)
    have q8 := t8 220 (by rfl)
    have e8 : f 8 = .int .i64 (((3 * i : Nat)) : Int) := g8
    rw [e8] at q8
    have w8 := eval_at q8
    obtain ⟨t11, g11⟩ := dep 11 (by kernel_rfl)
    have q11 := t11 223 (by rfl)
    have e11 : f 11 = .int .i64 (((3 * i + 1 : Nat)) : Int) := g11
    rw [e11] at q11
    have w11 := eval_at q11
    refine inv_val (G := fun u V => u = .agg #[.int .i64 (((3 * i : Nat)) : Int), .int .i64 (((3 * i + 1 : Nat)) : Int)] ∧ x = V) (R := fun _ _ => True) (wanted_none rfl) (v := .agg #[.int .i64 (((3 * i : Nat)) : Int), .int .i64 (((3 * i + 1 : Nat)) : Int)]) (w2 := x) (by simp only [execOp, f45o12]; go_simp) ?_ ⟨rfl, rfl⟩ trivial
    rintro _ _ ⟨rfl, rfl⟩ _
    exact ha _ _ (rfl) (World.grownBy.refl _ _) (hH.pure (Below.refl _ _) (by decide) (by decide))
  | 13, _ =>
    obtain rfl : f45o13 = o := Option.some.inj (show f45Ops[13]? = some _ from ho)
    obtain ⟨t12, g12⟩ := dep 12 (by kernel_rfl)
    have q12 := t12 224 (by rfl)
    have e12 : f 12 = .agg #[.int .i64 (((3 * i : Nat)) : Int), .int .i64 (((3 * i + 1 : Nat)) : Int)] := g12
    rw [e12] at q12
    have w12 := eval_at q12
    refine inv_val (G := fun u V => u = .slice (some ⟨x.heap.size, 0, none⟩) 1 1 ∧ x.alloc (.cells #[.int .i64 (((3 * i : Nat)) : Int), .int .i64 (((3 * i + 1 : Nat)) : Int)] 24) = V) (R := fun _ _ => True) (wanted_none rfl) (v := .slice (some ⟨x.heap.size, 0, none⟩) 1 1) (w2 := x.alloc (.cells #[.int .i64 (((3 * i : Nat)) : Int), .int .i64 (((3 * i + 1 : Nat)) : Int)] 24)) (by simp only [execOp, f45o13]; go_simp) ?_ ⟨rfl, rfl⟩ trivial
    rintro _ _ ⟨rfl, rfl⟩ _
    refine ha _ _ ⟨_, rfl⟩ (World.grownBy_alloc _ _ _) ⟨?_, ?_, ?_⟩
    · rw [bset_ne (by decide)]; exact fun e => ownR_below (hH.old e) (bl_alloc _ _)
    · intro _; rw [upd_eq]; exact ⟨_, rfl, hzx, Bx.new _ _ _⟩
    · rw [bset_ne (by decide), upd_ne (by decide)]; exact fun e => ⟨ownR_below (hH.new e).1 (bl_alloc _ _), (hH.new e).2⟩
  | 14, _ =>
    obtain rfl : f45o14 = o := Option.some.inj (show f45Ops[14]? = some _ from ho)
    obtain ⟨t6, g6⟩ := dep 6 (by kernel_rfl)
    have q6 := t6 218 (by rfl)
    have e6 : f 6 = .slice q n c := g6
    rw [e6] at q6
    have w6 := eval_at q6
    obtain ⟨t13, g13⟩ := dep 13 (by kernel_rfl)
    have q13 := t13 225 (by rfl)
    have k13 := kd 13 (by decide) (by kernel_rfl)
    obtain ⟨g_, e13, hzg, hx⟩ := hH.lit k13
    rw [e13] at q13
    have ho := hH.old hnd'
    have hs_ : SlR x (some ⟨g_, 0, none⟩) [(((3 * i : Nat) : Int), ((3 * i + 1 : Nat) : Int))] := .inr ⟨g_, 0, rfl, fun j hj => by have hj0 : j = 0 := (by simpa using hj); subst hj0; exact ⟨hx.cell rfl, hx.cell rfl⟩⟩
    obtain ⟨v', w', r1, r2, r3, r4⟩ := run_joinRA (cq := 1) (n := 1) 25 ho hs_ rfl (by simp) (by simp; omega) (Nat.le_trans hB hzx)
    refine step_append_run rfl _ _ 25 rfl (.slice q n c) _ v' (eval_at q6) (eval_at q13) r1 ?_
    obtain ⟨q_, c_, hv', _⟩ := ownR_form r2
    refine ha v' w' ⟨q_, c_, by rw [hv']; simp [hn]⟩ r3 ⟨?_, ?_, ?_⟩
    · rw [bset_eq]; intro e; cases e
    · rw [bset_ne (by decide), upd_ne (by decide)]
      intro _
      refine ⟨g_, e13, hzg, hx.kept r3 fun e => ?_⟩
      have h1 := (World.ownsRow.lt hrow g_ e.symm).2
      omega
    · intro _; rw [upd_eq]
      refine ⟨r2, ?_⟩
      rcases r4 with h | h
      · exact .inl h
      · exact .inr ⟨_, h, hzx⟩
  | 15, _ => exact absurd (show f45Pre.getD 15 false = true from hp) (by decide)
  | 16, _ => exact absurd (show f45Pre.getD 16 false = true from hp) (by decide)
  | 17, _ => exact absurd (show f45Pre.getD 17 false = true from hp) (by decide)
set_option maxHeartbeats 3200000 in
set_option maxRecDepth 100000 in
theorem f45_all {Q : Exit → Act → World → Prop} {a0 : Act} {w : World} (bx b3 n c i B : Nat) (q : Option Addr) (S : List R) (hsize : a0.tmps.size = 258) (h15 : a0.tmps[15]? = some (.pointer (some ⟨bx, 0, none⟩))) (h16 : a0.tmps[16]? = some (.int .i64 ((i : Nat) : Int))) (hc1 : w.drew.cell? ⟨bx, 1, none⟩ = some (.slice (some ⟨b3, 0, none⟩) 2 2)) (hcs : w.drew.cell? ⟨b3, 3, none⟩ = some (.slice q n c))
    (hrow : OwnR w.drew B (.slice q n c) S) (hn : n = S.length) (hnb : n ≤ 5000) (hib : i ≤ 5000) (hB : B ≤ w.drew.heap.size) (hne : ∀ g, (Value.slice q n c).ownBlock = some g → g ≠ bx ∧ g ≠ b3)
    (hfz : ∀ V, w.drew.grownBy V (Value.slice q n c).ownBlock → V.frozen? ⟨b3, 3, none⟩ = false)
    (fin : ∀ (f : Nat → Value) (q2 : Option Addr) (c2 : Nat) (y : World), OwnR y B (.slice q2 (n + 1) c2) (S ++ [(((3 * i : Nat) : Int), ((3 * i + 1 : Nat) : Int))]) → ((Value.slice q2 (n + 1) c2).ownBlock = (Value.slice q n c).ownBlock ∨ ∃ g, (Value.slice q2 (n + 1) c2).ownBlock = some g ∧ w.drew.heap.size ≤ g) → w.drew.grownBy y (Value.slice q n c).ownBlock → Q .normal (((putL a0 [(212, f 0), (213, .slice (some ⟨b3, 0, none⟩) 2 2), (214, f 2), (215, f 3), (216, f 4), (217, f 5), (218, f 6), (219, f 7), (220, f 8), (221, f 9), (222, f 10), (223, f 11), (224, f 12), (225, f 13), (226, .slice q2 (n + 1) c2)]).put (some 227) (.pointer (some ⟨b3, 2, none⟩))).put (some 228) (.pointer (some ⟨b3, 3, none⟩))) (y.setCell ⟨b3, 3, none⟩ (.slice q2 (n + 1) c2))) (id : Nat) :
    (Code.region id f45Ops true).wp Tryz.prog Q a0 w := by
  refine f45_wp bx b3 n c i B q S hsize h15 h16 hc1 hcs hrow hn hnb hib hB hne ?_ id
  intro f y hk hbl hH
  obtain ⟨q2, c2, el⟩ : ∃ q2 c2, f 14 = .slice q2 (n + 1) c2 := hk 14 (by decide) (by decide)
  have e1 : f 1 = .slice (some ⟨b3, 0, none⟩) 2 2 := hk 1 (by decide) (by decide)
  obtain ⟨o2, l2⟩ := hH.new rfl
  rw [el] at o2 l2
  have kcs : y.cell? ⟨b3, 3, none⟩ = some (.slice q n c) := hbl.cell hcs (fun e => (hne b3 e.symm).2 rfl)
  have kf := hfz y hbl
  have fin' := fin f q2 c2 y o2 l2 hbl
  rw [el, e1]
  clear fin hk hH el e1 o2 l2 hbl hrow hne hfz
  have H : Has 258 (putL a0 [(212, f 0), (213, .slice (some ⟨b3, 0, none⟩) 2 2), (214, f 2), (215, f 3), (216, f 4), (217, f 5), (218, f 6), (219, f 7), (220, f 8), (221, f 9), (222, f 10), (223, f 11), (224, f 12), (225, f 13), (226, .slice q2 (n + 1) c2)]) [(213, .slice (some ⟨b3, 0, none⟩) 2 2), (226, .slice q2 (n + 1) c2)] := by
    refine ⟨by rw [putL_size]; exact hsize, fun s v hm => ?_⟩
    have h1 := putL_get [(212, f 0), (213, .slice (some ⟨b3, 0, none⟩) 2 2), (214, f 2), (215, f 3), (216, f 4), (217, f 5), (218, f 6), (219, f 7), (220, f 8), (221, f 9), (222, f 10), (223, f 11), (224, f 12), (225, f 13), (226, .slice q2 (n + 1) c2)] a0 s (by simp) (by rw [hsize]; simp)
    simp only [List.mem_cons, Prod.mk.injEq, List.not_mem_nil, or_false] at hm
    rcases hm with ⟨rfl, rfl⟩ | ⟨rfl, rfl⟩
    · exact h1.2 _ (by simp)
    · exact h1.2 _ (by simp)
  generalize putL a0 [(212, f 0), (213, .slice (some ⟨b3, 0, none⟩) 2 2), (214, f 2), (215, f 3), (216, f 4), (217, f 5), (218, f 6), (219, f 7), (220, f 8), (221, f 9), (222, f 10), (223, f 11), (224, f 12), (225, f 13), (226, .slice q2 (n + 1) c2)] = a at H fin' ⊢
  refine any_one (i := 15) (o := f45o15) (by kernel_rfl) rfl ?_
  have d1 := eval_at (H.2 213 (.slice (some ⟨b3, 0, none⟩) 2 2) (by simp))
  refine inv_val (G := fun u V => u = .pointer (some ⟨b3, 2, none⟩) ∧ y = V) (R := fun _ _ => True) (wanted_none rfl) (v := .pointer (some ⟨b3, 2, none⟩)) (w2 := y) (by simp only [execOp, f45o15, d1]; go_simp) ?_ ⟨rfl, rfl⟩ trivial
  rintro _ _ ⟨rfl, rfl⟩ _
  rw [show f45o15.dst = some 227 from rfl]
  have H := H.put 227 (.pointer (some ⟨b3, 2, none⟩)) (by decide) (by simp)
  obtain ⟨a2, ha2⟩ : ∃ a_, a_ = a.put (some 227) (.pointer (some ⟨b3, 2, none⟩)) := ⟨_, rfl⟩
  rw [← ha2] at H fin' ⊢
  clear ha2
  refine any_one (i := 16) (o := f45o16) (by kernel_rfl) rfl ?_
  have d2 := eval_at (H.2 227 (.pointer (some ⟨b3, 2, none⟩)) (by simp))
  refine inv_val (G := fun u V => u = .pointer (some ⟨b3, 3, none⟩) ∧ y = V) (R := fun _ _ => True) (wanted_none rfl) (v := .pointer (some ⟨b3, 3, none⟩)) (w2 := y) (by simp only [execOp, f45o16, d2]; go_simp) ?_ ⟨rfl, rfl⟩ trivial
  rintro _ _ ⟨rfl, rfl⟩ _
  rw [show f45o16.dst = some 228 from rfl]
  have H := H.put 228 (.pointer (some ⟨b3, 3, none⟩)) (by decide) (by simp)
  obtain ⟨a3, ha3⟩ : ∃ a_, a_ = a2.put (some 228) (.pointer (some ⟨b3, 3, none⟩)) := ⟨_, rfl⟩
  rw [← ha3] at H fin' ⊢
  clear ha3
  refine any_one (i := 17) (o := f45o17) (by kernel_rfl) rfl ?_
  have d3 := eval_at (H.2 228 (.pointer (some ⟨b3, 3, none⟩)) (by simp))
  have d4 := eval_at (H.2 226 (.slice q2 (n + 1) c2) (by simp))
  refine inv_skip (wanted_none rfl) (w2 := y.setCell ⟨b3, 3, none⟩ (.slice q2 (n + 1) c2)) (by simp only [execOp, f45o17, d3, d4]; go_simp) ?_
  refine any_end (by kernel_rfl) ?_ 0
  exact fin'
end Go.Proofs.YtglgfpapackcdaaGreat
