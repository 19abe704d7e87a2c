/- What the slots of a law's drawn regions hold, and what each operation makes of it: numbers, rows of them, sums, products, orders. -/
import Derived.Test.YteiadigkbhbolaaDoorFi
import Derived.Test.YteiadigkbhbolaaDoorWz
import Derived.Test.YteiadigkbhbolaaDoorWr
namespace Go.Proofs.YteiadigkbhbolaaDoor
open Go.RowKit Tnd

/-- v is a Nat that stands for n. -/
def NV (w : World) (v : Value) (n : Nat) : Prop := ∃ q c l, v = .agg #[.slice q l.length c] ∧ NatIn w w.heap.size (.agg #[.slice q l.length c]) l ∧ nv 4294967296 l = n ∧ l.length ≤ 100000
theorem NV.below {w w' : World} {v : Value} {n : Nat} (h : NV w v n) (hb : Below w.heap.size w w') : NV w' v n := by
  obtain ⟨q, c, l, h1, h2, h3, h4⟩ := h
  exact ⟨q, c, l, h1, (h2.below hb).up hb.size, h3, h4⟩
theorem FNat.nv {w : World} {B k : Nat} {v : Value} {n : Nat} (h : FNat w B v n) (hn : n < 2 ^ k) (hk : k ≤ 100000) : NV w v n := by
  obtain ⟨p, c, l, rfl, h1, h2, h3, _, _⟩ := h.nat
  exact ⟨p, c, l, rfl, h1, h3, Nat.le_trans (len_right 4294967296 k l (by omega) h2 (by rw [h3]; exact hn)) hk⟩
/-- v is a row of Nats that stand for ns. -/
def RowV (w : World) (v : Value) (ns : List Nat) : Prop := ∃ b Ls, v = .slice (some ⟨b, 0, none⟩) ns.length ns.length ∧ NatsIn w w.heap.size (some ⟨b, 0, none⟩) Ls ∧ Ls.map (nv 4294967296) = ns ∧ tot Ls ≤ 1000000
theorem nats_below {w w' : World} {p : Option Addr} {L : List (List Nat)} (h : NatsIn w w.heap.size p L) (hb : Below w.heap.size w w') : NatsIn w' w'.heap.size p L := by
  rcases h with h | ⟨b, off, h1, h2, h3⟩
  · exact .inl h
  · refine .inr ⟨b, off, h1, by have := hb.size; omega, fun i hi => ?_⟩
    obtain ⟨q, c, h4, h5, h6⟩ := h3 i hi
    exact ⟨q, c, by rw [hb.cell (by simpa using h2)]; exact h4, (h5.below hb).up hb.size, h6⟩
theorem RowV.below {w w' : World} {v : Value} {ns : List Nat} (h : RowV w v ns) (hb : Below w.heap.size w w') : RowV w' v ns := by
  obtain ⟨b, Ls, h1, h2, h3⟩ := h
  exact ⟨b, Ls, h1, nats_below h2 hb, h3⟩
def sumn (ns : List Nat) : Nat := ns.foldr (· + ·) 0
def prodn (ns : List Nat) : Nat := ns.foldr (· * ·) 1
theorem sumv_map : ∀ L : List (List Nat), sumv L = sumn (L.map (nv 4294967296))
  | [] => rfl
  | l :: L => by show _ + _ = _ + _; rw [sumv_map L]; rfl
theorem prodv_map : ∀ L : List (List Nat), prodv L = prodn (L.map (nv 4294967296))
  | [] => rfl
  | l :: L => by show _ * _ = _ * _; rw [prodv_map L]; rfl

inductive Kd where
  | val (v : Value)
  | num (n : Nat)
  | fre (n : Nat)
  | row (ns : List Nat)
  | frow (ns : List Nat)
  | ptr
  | sub (n : Nat)
/-- v points to a cell that has just been laid. -/
def PtrV (w : World) (z : Nat) (v : Value) : Prop := ∃ b, v = .pointer (some ⟨b, 0, none⟩) ∧ z ≤ b ∧ w.heap[b]? = some (.cells #[.slice none 0 0] 25 (0, 0))
theorem PtrV.below {w w' : World} {z : Nat} {v : Value} (h : PtrV w z v) (hb : Below w.heap.size w w') : PtrV w' z v := by
  obtain ⟨b, h1, h2, h3⟩ := h
  exact ⟨b, h1, h2, by rw [hb.block b (lt_of_block h3)]; exact h3⟩
/-- a row of Nats in memory of the call's own, each right. -/
def FRow (w : World) (z : Nat) (v : Value) (ns : List Nat) : Prop := ∃ b, v = .slice (some ⟨b, 0, none⟩) ns.length ns.length ∧ ∀ i n, ns[i]? = some n → ∃ x, w.cell? ⟨b, i, none⟩ = some x ∧ FNat w z (.agg #[x]) n ∧ NV w (.agg #[x]) n
theorem FRow.below {w w' : World} {z : Nat} {v : Value} {ns : List Nat} (h : FRow w z v ns) (hb : Below w.heap.size w w') : FRow w' z v ns := by
  obtain ⟨b, h1, h2⟩ := h
  refine ⟨b, h1, fun i n hn => ?_⟩
  obtain ⟨x, h3, h4, h5⟩ := h2 i n hn
  exact ⟨x, by rw [hb.cell (World.block_lt_of_cell? w _ h3)]; exact h3, h4.below hb, h5.below hb⟩
def Kd.ok (z : Nat) : Kd → Value → World → Prop
  | .val u, v, _ => v = u
  | .num n, v, w => NV w v n
  | .fre n, v, w => FNat w z v n ∧ NV w v n
  | .row ns, v, w => RowV w v ns
  | .frow ns, v, w => FRow w z v ns
  | .ptr, v, w => PtrV w z v
  | .sub n, v, w => ∃ u, v = .tuple #[u, .bool true] ∧ FNat w z u n ∧ NV w u n
theorem Kd.below {z : Nat} {w w' : World} {v : Value} : ∀ {k : Kd}, Kd.ok z k v w → Below w.heap.size w w' → Kd.ok z k v w'
  | .val _, h, _ => h
  | .num _, h, hb => NV.below h hb
  | .fre _, h, hb => ⟨h.1.below hb, NV.below h.2 hb⟩
  | .row _, h, hb => RowV.below h hb
  | .frow _, h, hb => FRow.below h hb
  | .ptr, h, hb => PtrV.below h hb
  | .sub _, h, hb => by obtain ⟨u, h1, h2, h3⟩ := h; exact ⟨u, h1, h2.below hb, NV.below h3 hb⟩
/-- a cell that holds a Nat. -/
def Held (z : Nat) (w : World) (b : Nat) (k : Kd) : Prop := ∃ xc, w.cell? ⟨b, 0, none⟩ = some xc ∧ Kd.ok z k (.agg #[xc]) w
theorem Held.below {z b : Nat} {w w' : World} {k : Kd} (h : Held z w b k) (hb : Below w.heap.size w w') : Held z w' b k := by
  obtain ⟨x, h1, h2⟩ := h
  exact ⟨x, by rw [hb.cell (World.block_lt_of_cell? w _ h1)]; exact h1, Kd.below h2 hb⟩

/-- the same, at whatever place. -/
def HeldA (z : Nat) (w : World) (a : Addr) (k : Kd) : Prop := ∃ xc, w.cell? a = some xc ∧ Kd.ok z k (.agg #[xc]) w
theorem HeldA.below {z : Nat} {a : Addr} {w w' : World} {k : Kd} (h : HeldA z w a k) (hb : Below w.heap.size w w') : HeldA z w' a k := by
  obtain ⟨x, h1, h2⟩ := h
  exact ⟨x, by rw [hb.cell (World.block_lt_of_cell? w _ h1)]; exact h1, Kd.below h2 hb⟩
theorem run_load (b : Nat) (x : Value) (w : World) (h : w.cell? ⟨b, 0, none⟩ = some x) : (Instr.loadAt 25 (.pointer (some ⟨b, 0, none⟩))).run Tryd.prog w = .ok (.agg #[x]) w := by
  go_simp
theorem run_build1 (x0 : Value) (w : World) : (Instr.buildSlice 32 1 #[(0, .agg #[x0])]).run Tryd.prog w = .ok (.slice (some ⟨w.heap.size, 0, none⟩) 1 1) (w.alloc (.cells #[x0] 25)) := by
  go_simp
theorem run_build2 (x0 x1 : Value) (w : World) : (Instr.buildSlice 32 2 #[(0, .agg #[x0]), (1, .agg #[x1])]).run Tryd.prog w = .ok (.slice (some ⟨w.heap.size, 0, none⟩) 2 2) (w.alloc (.cells #[x0, x1] 25)) := by
  go_simp
theorem run_build3 (x0 x1 x2 : Value) (w : World) : (Instr.buildSlice 32 3 #[(0, .agg #[x0]), (1, .agg #[x1]), (2, .agg #[x2])]).run Tryd.prog w = .ok (.slice (some ⟨w.heap.size, 0, none⟩) 3 3) (w.alloc (.cells #[x0, x1, x2] 25)) := by
  go_simp
theorem run_build6 (x0 x1 x2 x3 x4 x5 : Value) (w : World) : (Instr.buildSlice 32 6 #[(0, .agg #[x0]), (1, .agg #[x1]), (2, .agg #[x2]), (3, .agg #[x3]), (4, .agg #[x4]), (5, .agg #[x5])]).run Tryd.prog w = .ok (.slice (some ⟨w.heap.size, 0, none⟩) 6 6) (w.alloc (.cells #[x0, x1, x2, x3, x4, x5] 25)) := by
  go_simp

theorem rowV_of {w : World} {b : Nat} {T : TypeId} {vs : List Value} {xs : List Value} {ns : List Nat} (hlen : vs.length = ns.length) (hx : vs = xs.map fun x => .agg #[x]) (hl : ns.length ≤ 10) (hv : ∀ (i : Nat) (v : Value) (n : Nat), vs[i]? = some v → ns[i]? = some n → NV w v n) (hb : b = w.heap.size) :
    RowV (w.alloc (.cells xs.toArray T)) (.slice (some ⟨b, 0, none⟩) ns.length ns.length) ns := by
  subst hb
  have hbl : Below w.heap.size w (w.alloc (.cells xs.toArray T)) := bl_alloc w _
  have hxl : xs.length = ns.length := by rw [← hlen, hx]; simp
  have hex : ∀ i, i < ns.length → ∃ l : List Nat, ∃ q c, xs[i]? = some (.slice q l.length c) ∧ NatIn w w.heap.size (.agg #[.slice q l.length c]) l ∧ ns[i]? = some (Tnd.nv 4294967296 l) ∧ l.length ≤ 100000 := by
    intro i hi
    have h1 : vs[i]? = some vs[i] := List.getElem?_eq_getElem (by omega)
    have h2 : ns[i]? = some ns[i] := List.getElem?_eq_getElem hi
    obtain ⟨q, c, l, e, h3, h4, h5⟩ := hv i _ _ h1 h2
    refine ⟨l, q, c, ?_, h3, by rw [h2, h4], h5⟩
    have h6 : xs[i]? = some xs[i] := List.getElem?_eq_getElem (by omega)
    have h7 : vs[i]? = some (.agg #[xs[i]]) := by rw [hx, List.getElem?_map, h6]; rfl
    rw [h7] at h1
    have h8 := Option.some.inj h1
    rw [e] at h8
    simp only [Value.agg.injEq, Array.mk.injEq, List.cons.injEq, and_true] at h8
    rw [h6, h8]
  obtain ⟨F, hF⟩ : ∃ F : Nat → List Nat, ∀ i, i < ns.length → ∃ q c, xs[i]? = some (.slice q (F i).length c) ∧ NatIn w w.heap.size (.agg #[.slice q (F i).length c]) (F i) ∧ ns[i]? = some (Tnd.nv 4294967296 (F i)) ∧ (F i).length ≤ 100000 := by
    refine ⟨fun i => if hi : i < ns.length then Classical.choose (hex i hi) else [], fun i hi => ?_⟩
    simp only [hi, dif_pos]
    exact Classical.choose_spec (hex i hi)
  have hll : ((List.range ns.length).map F).length = ns.length := by simp
  have hgl : ∀ i, i < ns.length → gl ((List.range ns.length).map F) i = F i := fun i hi => by
    rw [gl_at (by rw [hll]; exact hi)]; simp
  refine ⟨w.heap.size, (List.range ns.length).map F, rfl, ?_, ?_, ?_⟩
  · refine .inr ⟨w.heap.size, 0, rfl, by simp, fun i hi => ?_⟩
    rw [hll] at hi
    rw [hgl i hi]
    obtain ⟨q, c, h1, h2, _, _⟩ := hF i hi
    obtain ⟨q', c', e, h4, h5, h6⟩ := (h2.below hbl).up hbl.size
    simp only [Value.agg.injEq, Array.mk.injEq, List.cons.injEq, Value.slice.injEq, and_true, true_and] at e
    obtain ⟨rfl, rfl⟩ := e
    refine ⟨q, c, ?_, h4, h5, h6⟩
    rw [Nat.zero_add, World.cell?_alloc_at _ _ _ _ rfl]
    simpa using h1
  · apply List.ext_getElem?
    intro i
    by_cases hi : i < ns.length
    · obtain ⟨q, c, _, _, h3, _⟩ := hF i hi
      rw [h3, List.getElem?_map, List.getElem?_map, List.getElem?_range hi]; rfl
    · rw [List.getElem?_eq_none (by simp; omega), List.getElem?_eq_none (by omega)]
  · have key : ∀ l : List Nat, (∀ i ∈ l, i < ns.length) → tot (l.map F) ≤ l.length * 100000 := by
      intro l
      induction l with
      | nil => intro _; simp [tot]
      | cons i l ih =>
        intro h
        have h1 := ih fun j hj => h j (List.mem_cons_of_mem _ hj)
        obtain ⟨_, _, _, _, _, h2⟩ := hF i (h i (by simp))
        show (F i).length + tot (l.map F) ≤ (l.length + 1) * 100000
        omega
    have h1 := key (List.range ns.length) (fun i hi => List.mem_range.1 hi)
    rw [List.length_range] at h1
    omega

theorem st_build1 {w : World} {v0 : Value} {n0 : Nat} (h0 : NV w v0 n0) : ∃ v w2, (Instr.buildSlice 32 1 #[(0, v0)]).run Tryd.prog w = .ok v w2 ∧ RowV w2 v [n0] ∧ Below w.heap.size w w2 := by
  obtain ⟨q0, c0, l0, e0, _⟩ := id h0
  refine ⟨_, _, by rw [e0]; exact run_build1 _ w, ?_, bl_alloc w _⟩
  refine rowV_of (ns := [n0]) (vs := [v0]) (xs := [.slice q0 l0.length c0]) rfl (by rw [e0]; rfl) (by simp) (fun i v n hv hn => ?_) rfl
  match i with
  | 0 => simp only [List.getElem?_cons_zero, Option.some.injEq] at hv hn; subst hv; subst hn; exact h0
  | i + 1 => simp at hv
theorem st_build2 {w : World} {v0 v1 : Value} {n0 n1 : Nat} (h0 : NV w v0 n0) (h1 : NV w v1 n1) : ∃ v w2, (Instr.buildSlice 32 2 #[(0, v0), (1, v1)]).run Tryd.prog w = .ok v w2 ∧ RowV w2 v [n0, n1] ∧ Below w.heap.size w w2 := by
  obtain ⟨q0, c0, l0, e0, _⟩ := id h0
  obtain ⟨q1, c1, l1, e1, _⟩ := id h1
  refine ⟨_, _, by rw [e0, e1]; exact run_build2 _ _ w, ?_, bl_alloc w _⟩
  refine rowV_of (ns := [n0, n1]) (vs := [v0, v1]) (xs := [.slice q0 l0.length c0, .slice q1 l1.length c1]) rfl (by rw [e0, e1]; rfl) (by simp) (fun i v n hv hn => ?_) rfl
  match i with
  | 0 => simp only [List.getElem?_cons_zero, Option.some.injEq] at hv hn; subst hv; subst hn; exact h0
  | 1 => simp only [List.getElem?_cons_succ, List.getElem?_cons_zero, Option.some.injEq] at hv hn; subst hv; subst hn; exact h1
  | i + 2 => simp at hv
theorem st_build3 {w : World} {v0 v1 v2 : Value} {n0 n1 n2 : Nat} (h0 : NV w v0 n0) (h1 : NV w v1 n1) (h2 : NV w v2 n2) : ∃ v w2, (Instr.buildSlice 32 3 #[(0, v0), (1, v1), (2, v2)]).run Tryd.prog w = .ok v w2 ∧ RowV w2 v [n0, n1, n2] ∧ Below w.heap.size w w2 := by
  obtain ⟨q0, c0, l0, e0, _⟩ := id h0
  obtain ⟨q1, c1, l1, e1, _⟩ := id h1
  obtain ⟨q2, c2, l2, e2, _⟩ := id h2
  refine ⟨_, _, by rw [e0, e1, e2]; exact run_build3 _ _ _ w, ?_, bl_alloc w _⟩
  refine rowV_of (ns := [n0, n1, n2]) (vs := [v0, v1, v2]) (xs := [.slice q0 l0.length c0, .slice q1 l1.length c1, .slice q2 l2.length c2]) rfl (by rw [e0, e1, e2]; rfl) (by simp) (fun i v n hv hn => ?_) rfl
  match i with
  | 0 => simp only [List.getElem?_cons_zero, Option.some.injEq] at hv hn; subst hv; subst hn; exact h0
  | 1 => simp only [List.getElem?_cons_succ, List.getElem?_cons_zero, Option.some.injEq] at hv hn; subst hv; subst hn; exact h1
  | 2 => simp only [List.getElem?_cons_succ, List.getElem?_cons_zero, Option.some.injEq] at hv hn; subst hv; subst hn; exact h2
  | i + 3 => simp at hv

theorem st_build6 {w : World} {z : Nat} {v0 v1 v2 v3 v4 v5 : Value} {n0 n1 n2 n3 n4 n5 : Nat} (h0 : Kd.ok z (.fre n0) v0 w) (h1 : Kd.ok z (.fre n1) v1 w) (h2 : Kd.ok z (.fre n2) v2 w) (h3 : Kd.ok z (.fre n3) v3 w) (h4 : Kd.ok z (.fre n4) v4 w) (h5 : Kd.ok z (.fre n5) v5 w) :
    ∃ v w2, (Instr.buildSlice 32 6 #[(0, v0), (1, v1), (2, v2), (3, v3), (4, v4), (5, v5)]).run Tryd.prog w = .ok v w2 ∧ FRow w2 z v [n0, n1, n2, n3, n4, n5] ∧ Below w.heap.size w w2 := by
  obtain ⟨f0, q0, c0, l0, rfl, r0⟩ := h0
  obtain ⟨f1, q1, c1, l1, rfl, r1⟩ := h1
  obtain ⟨f2, q2, c2, l2, rfl, r2⟩ := h2
  obtain ⟨f3, q3, c3, l3, rfl, r3⟩ := h3
  obtain ⟨f4, q4, c4, l4, rfl, r4⟩ := h4
  obtain ⟨f5, q5, c5, l5, rfl, r5⟩ := h5
  have hb := bl_alloc w (.cells #[.slice q0 l0.length c0, .slice q1 l1.length c1, .slice q2 l2.length c2, .slice q3 l3.length c3, .slice q4 l4.length c4, .slice q5 l5.length c5] 25)
  have hc : ∀ i, (w.alloc (.cells #[.slice q0 l0.length c0, .slice q1 l1.length c1, .slice q2 l2.length c2, .slice q3 l3.length c3, .slice q4 l4.length c4, .slice q5 l5.length c5] 25)).cell? ⟨w.heap.size, i, none⟩ = (#[Value.slice q0 l0.length c0, .slice q1 l1.length c1, .slice q2 l2.length c2, .slice q3 l3.length c3, .slice q4 l4.length c4, .slice q5 l5.length c5] : Array Value)[i]? := fun i => World.cell?_alloc_at _ _ _ _ rfl
  refine ⟨_, _, run_build6 _ _ _ _ _ _ w, ⟨w.heap.size, rfl, fun i n hn => ?_⟩, hb⟩
  match i with
  | 0 => simp only [List.getElem?_cons_zero, Option.some.injEq] at hn; subst hn; exact ⟨_, hc 0, f0.below hb, NV.below ⟨q0, c0, l0, rfl, r0⟩ hb⟩
  | 1 => simp only [List.getElem?_cons_succ, List.getElem?_cons_zero, Option.some.injEq] at hn; subst hn; exact ⟨_, hc 1, f1.below hb, NV.below ⟨q1, c1, l1, rfl, r1⟩ hb⟩
  | 2 => simp only [List.getElem?_cons_succ, List.getElem?_cons_zero, Option.some.injEq] at hn; subst hn; exact ⟨_, hc 2, f2.below hb, NV.below ⟨q2, c2, l2, rfl, r2⟩ hb⟩
  | 3 => simp only [List.getElem?_cons_succ, List.getElem?_cons_zero, Option.some.injEq] at hn; subst hn; exact ⟨_, hc 3, f3.below hb, NV.below ⟨q3, c3, l3, rfl, r3⟩ hb⟩
  | 4 => simp only [List.getElem?_cons_succ, List.getElem?_cons_zero, Option.some.injEq] at hn; subst hn; exact ⟨_, hc 4, f4.below hb, NV.below ⟨q4, c4, l4, rfl, r4⟩ hb⟩
  | 5 => simp only [List.getElem?_cons_succ, List.getElem?_cons_zero, Option.some.injEq] at hn; subst hn; exact ⟨_, hc 5, f5.below hb, NV.below ⟨q5, c5, l5, rfl, r5⟩ hb⟩
  | i + 6 => simp at hn

/-- what is told by a call that hands out a Nat. -/
theorem k_add {w : World} {z k : Nat} {v : Value} {ns : List Nat} (h : RowV w v ns) (hl : ns.length ≤ 10) (hn : sumn ns < 2 ^ k) (hk : k ≤ 100000) (hz : z ≤ w.heap.size) :
    Calls Tryd.prog 11 #[v] w fun e y => ∃ u, e = .returned u ∧ Kd.ok z (.fre (sumn ns)) u y ∧ Below w.heap.size w y := by
  obtain ⟨b, Ls, rfl, h1, rfl, h2⟩ := h
  rw [List.length_map] at hl ⊢
  refine (add_any (some ⟨b, 0, none⟩) Ls.length Ls w h1 (by omega) (by omega)).mono ?_
  rintro e y ⟨u, rfl, hf, hb⟩
  rw [sumv_map] at hf
  exact ⟨u, rfl, ⟨hf.down hz, hf.nv hn hk⟩, hb⟩
theorem k_mul {w : World} {z k : Nat} {v : Value} {ns : List Nat} (h : RowV w v ns) (hl : ns.length ≤ 10) (hn : prodn ns < 2 ^ k) (hk : k ≤ 100000) (hz : z ≤ w.heap.size) :
    Calls Tryd.prog 12 #[v] w fun e y => ∃ u, e = .returned u ∧ Kd.ok z (.fre (prodn ns)) u y ∧ Below w.heap.size w y := by
  obtain ⟨b, Ls, rfl, h1, rfl, h2⟩ := h
  rw [List.length_map] at hl ⊢
  refine (mul_any (some ⟨b, 0, none⟩) Ls.length Ls w h1 (by omega) (by omega)).mono ?_
  rintro e y ⟨u, rfl, hf, hb⟩
  rw [prodv_map] at hf
  exact ⟨u, rfl, ⟨hf.down hz, hf.nv hn hk⟩, hb⟩
theorem k_add0 {w : World} {z : Nat} (hz : z ≤ w.heap.size) : Calls Tryd.prog 11 #[.slice none 0 0] w fun e y => ∃ u, e = .returned u ∧ Kd.ok z (.fre 0) u y ∧ Below w.heap.size w y := by
  refine (add_any none 0 [] w (.inl rfl) (by simp) (by simp [tot])).mono ?_
  rintro e y ⟨u, rfl, hf, hb⟩
  exact ⟨u, rfl, ⟨hf.down hz, hf.nv (k := 1) (show 0 < 2 ^ 1 by decide) (by omega)⟩, hb⟩
theorem k_mul0 {w : World} {z : Nat} (hz : z ≤ w.heap.size) : Calls Tryd.prog 12 #[.slice none 0 0] w fun e y => ∃ u, e = .returned u ∧ Kd.ok z (.fre 1) u y ∧ Below w.heap.size w y := by
  refine (mul_any none 0 [] w (.inl rfl) (by simp) (by simp [tot])).mono ?_
  rintro e y ⟨u, rfl, hf, hb⟩
  exact ⟨u, rfl, ⟨hf.down hz, hf.nv (k := 1) (show 1 < 2 ^ 1 by decide) (by omega)⟩, hb⟩
theorem k_same {w : World} {z n : Nat} {v1 v2 : Value} (h1 : Kd.ok z (.fre n) v1 w) (h2 : Kd.ok z (.fre n) v2 w) :
    Calls Tryd.prog 9 #[v1, v2] w fun e y => ∃ u, e = .returned u ∧ Kd.ok z (.val (.bool true)) u y ∧ Below w.heap.size w y := by
  obtain ⟨f1, q1, c1, l1, rfl, _, _, hl1⟩ := h1
  obtain ⟨f2, q2, c2, l2, rfl, _, _, hl2⟩ := h2
  refine (f1.same f2 (by omega) (by omega)).mono ?_
  rintro e y ⟨rfl, hb⟩
  exact ⟨_, rfl, rfl, hb⟩
theorem k_cmp {w : World} {z n m : Nat} {v1 v2 : Value} (h1 : NV w v1 n) (h2 : NV w v2 m) :
    Calls Tryd.prog 16 #[v1, v2] w fun e y => ∃ u, e = .returned u ∧ Kd.ok z (.val (.int .i64 (ord n m))) u y ∧ Below w.heap.size w y := by
  obtain ⟨q1, c1, l1, rfl, i1, rfl, hl1⟩ := h1
  obtain ⟨q2, c2, l2, rfl, i2, rfl, hl2⟩ := h2
  refine (cmp_any _ _ l1 l2 w i1 i2 (by omega) (by omega)).mono ?_
  rintro e y ⟨rfl, hb⟩
  exact ⟨_, rfl, rfl, hb⟩
theorem k_right {w : World} {z n : Nat} {v1 : Value} (h1 : Kd.ok z (.fre n) v1 w) :
    Calls Tryd.prog 14 #[v1] w fun e y => ∃ u, e = .returned u ∧ Kd.ok z (.val (.bool true)) u y ∧ Below w.heap.size w y := by
  obtain ⟨f1, _⟩ := h1
  obtain ⟨y1, e1', m1, rfl, ⟨y2, e2', u2, o1, _, t1, t2, t3⟩, r1, v1, _⟩ := f1.nat
  rw [u2]
  refine (rightn_any y2 e2' m1 w o1.sl t1 t2 t3 r1).mono ?_
  rintro e y ⟨rfl, hb⟩
  exact ⟨_, rfl, rfl, hb⟩
theorem run_alloc (w : World) : (Instr.alloc 25 true (.tuple #[])).run Tryd.prog w = .ok (.pointer (some ⟨w.heap.size, 0, none⟩)) (w.alloc (.cells #[.slice none 0 0] 25)) := by
  go_simp
theorem st_alloc (w : World) (z : Nat) (hz : z ≤ w.heap.size) : PtrV (w.alloc (.cells #[.slice none 0 0] 25)) z (.pointer (some ⟨w.heap.size, 0, none⟩)) ∧ Below w.heap.size w (w.alloc (.cells #[.slice none 0 0] 25)) :=
  ⟨⟨_, rfl, hz, heap_alloc_new w _⟩, bl_alloc w _⟩
theorem ptr_new {w : World} {z : Nat} {v : Value} (h : PtrV w z v) : v ≠ .pointer (some ⟨w.heap.size, 0, none⟩) := by
  obtain ⟨b, rfl, _, h3⟩ := h
  intro e
  simp only [Value.pointer.injEq, Option.some.injEq, Addr.mk.injEq, and_true] at e
  have := lt_of_block h3
  omega
/-- two cells that are laid are two. -/
def Two (p q : Nat) (done : Array Bool) (f : Nat → Value) : Prop := done.getD p false = true → done.getD q false = true → f p ≠ f q
theorem Two.keep {p q i : Nat} {done : Array Bool} {f : Nat → Value} {u : Value} (h : Two p q done f) (h1 : i ≠ p) (h2 : i ≠ q) : Two p q (done.setIfInBounds i true) (upd f i u) := by
  intro a b
  have e : ∀ j, i ≠ j → (done.setIfInBounds i true).getD j false = done.getD j false := fun j hj => by
    simp only [Array.getD_eq_getD_getElem?, Array.getElem?_setIfInBounds, if_neg hj]
  rw [e p h1] at a
  rw [e q h2] at b
  have h3 := h a b
  unfold upd
  rw [if_neg (Ne.symm h1), if_neg (Ne.symm h2)]
  exact h3
theorem Two.fst {p q : Nat} {done : Array Bool} {f : Nat → Value} {u : Value} (hpq : p ≠ q) (h : done.getD q false = true → f q ≠ u) : Two p q (done.setIfInBounds p true) (upd f p u) := by
  intro _ b
  have e : (done.setIfInBounds p true).getD q false = done.getD q false := by
    simp only [Array.getD_eq_getD_getElem?, Array.getElem?_setIfInBounds, if_neg hpq]
  rw [e] at b
  have h3 := h b
  unfold upd
  rw [if_pos rfl, if_neg (Ne.symm hpq)]
  exact h3.symm
theorem Two.snd {p q : Nat} {done : Array Bool} {f : Nat → Value} {u : Value} (hpq : p ≠ q) (h : done.getD p false = true → f p ≠ u) : Two p q (done.setIfInBounds q true) (upd f q u) := by
  intro b _
  have e : (done.setIfInBounds q true).getD p false = done.getD p false := by
    simp only [Array.getD_eq_getD_getElem?, Array.getElem?_setIfInBounds, if_neg (Ne.symm hpq)]
  rw [e] at b
  have h3 := h b
  unfold upd
  rw [if_pos rfl, if_neg hpq]
  exact h3
theorem k_text {w : World} {z n : Nat} {v1 : Value} (h1 : NV w v1 n) (htab : Lib.TabIs Tryd.prog w "internal/strconv.uint64pow10" .u64 Lib.pow10Tab) :
    Calls Tryd.prog 13 #[v1] w fun e y => ∃ u, e = .returned u ∧ Kd.ok z (.val (.string ⟨(Lib.decDigits n).toArray⟩)) u y ∧ Below w.heap.size w y := by
  obtain ⟨q1, c1, l1, rfl, i1, rfl, hl1⟩ := h1
  refine (text_any _ l1 w i1 (by omega) htab).mono ?_
  rintro e y ⟨rfl, hb⟩
  exact ⟨_, rfl, rfl, hb⟩
theorem k_sub {w : World} {z n m k : Nat} {v1 v2 : Value} (h1 : NV w v1 n) (h2 : NV w v2 m) (hge : m ≤ n) (hn : n - m < 2 ^ k) (hk : k ≤ 100000) (hz : z ≤ w.heap.size) :
    Calls Tryd.prog 15 #[v1, v2] w fun e y => ∃ u, e = .returned u ∧ Kd.ok z (.sub (n - m)) u y ∧ Below w.heap.size w y := by
  obtain ⟨q1, c1, l1, rfl, i1, rfl, hl1⟩ := h1
  obtain ⟨q2, c2, l2, rfl, i2, rfl, hl2⟩ := h2
  refine (sub_ge q1 q2 c1 c2 l1 l2 w i1 i2 (by omega) (by omega) hge).mono ?_
  rintro e y ⟨v, rfl, hf, hb⟩
  exact ⟨_, rfl, ⟨v, rfl, hf.down hz, hf.nv hn hk⟩, hb⟩
theorem run_extract0 (u x : Value) (w : World) : (Instr.extract (.tuple #[u, x]) 0).run Tryd.prog w = .ok u w := by go_simp
theorem run_extract1 (u x : Value) (w : World) : (Instr.extract (.tuple #[u, x]) 1).run Tryd.prog w = .ok x w := by go_simp
end Go.Proofs.YteiadigkbhbolaaDoor
