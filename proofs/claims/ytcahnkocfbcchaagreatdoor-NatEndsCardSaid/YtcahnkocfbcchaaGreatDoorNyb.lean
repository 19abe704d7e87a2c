/- NatEnds: its drawn region 7: three numbers behind a list, two of them made of rows by appends. -/
/- NatEnds: the end of its drawn region 7; its drawn regions 14, 34. -/
import Derived.Test.YtcahnkocfbcchaaGreatDoorNxy

namespace Go.Proofs.YtcahnkocfbcchaaGreatDoor
open Go.RowKit Tnd

theorem step_append_run {P : Program} {w w' : World} {ops : Array Oper} {o : Oper} {a : Act} {K : Act → World → Prop} {Q : Exit → Act → World → Prop} {E : Prop} (hgd : o.guard = none) (s x : Operand) (t : TypeId)
    (ho : o.op = .call { callee := .builtin .append, args := #[s, x], argTypes := #[t, t] }) (v u v' : Value) (hs : a.eval s = v) (hx : a.eval x = u)
    (hrun : (Builtin.append_ #[t, t] o.type #[v, u]).run P w = .ok v' w') (h : K (a.put o.dst v') w') : if Region.wanted o (yielded ops a.tmps) = true then Oper.wp P o a w K Q else E := by
  have hw : Region.wanted o (yielded ops a.tmps) = true := by simp [Region.wanted, hgd]
  rw [if_pos hw]
  unfold Oper.wp
  simp [execOp, ho, resolve, invoke, builtin, hs, hx, hrun, Result.andThen]
  exact h
/-- append of limbs that lie somewhere onto a row of the call's own: where the row then lies. -/
theorem run_joinA {w : World} {B : Nat} {v : Value} {N : List Nat} {q : Option Addr} {cq : Nat} {a : List Nat} (T : TypeId) (ho : Own w B 46 .u32 v N) (hs : Sl w .u32 q a) (hq : q = none → cq = 0) (hl : N.length + a.length ≤ 1000000000) (hB : B ≤ w.heap.size) :
    ∃ v' w', (Builtin.append_ #[22, 22] T #[v, .slice q a.length cq]).run Tryz.prog w = .ok v' w' ∧ Own w' B 46 .u32 v' (N ++ a) ∧ w.grownBy w' v.ownBlock ∧ (v'.ownBlock = v.ownBlock ∨ v'.ownBlock = some w.heap.size) := by
  obtain ⟨i0, hinf, hz0, hz1, hz2⟩ := info_parts info_u32
  unfold Own at ho
  cases q with
  | none =>
    have := hq rfl
    subst this
    have ha : a = [] := by
      rcases hs with h | ⟨b, off, h, _⟩
      · exact h
      · cases h
    subst ha
    have hrun := run_append_owned_none (P := Tryz.prog) (w := w) B 22 T 46 i0 1 Tryz.underlying22 hinf v N.length _ ho
    refine ⟨v, w, hrun, ?_, World.grownBy.refl _ _, .inl rfl⟩
    unfold Own
    rw [List.append_nil]; exact ho
  | some ad =>
    have hn : ∀ j u, (a.map fun d => Value.int .u32 (d : Nat))[j]? = some u → w.cell? (ad.add j) = some u := by
      rcases hs with h | ⟨b, off, h, hc⟩
      · subst h; intro j u hu; simp at hu
      · simp only [Option.some.injEq] at h
        subst h
        exact news32_at hc
    obtain ⟨v', w', h1, h2, h3, _, h4⟩ := run_append_own_at (P := Tryz.prog) (w := w) B 22 T 46 i0 (.int .u32 0) 1 4 Tryz.underlying22 hinf hz0 hz1 hz2 rfl (by decide) v N.length _ ho ad a.length cq (a.map fun d => Value.int .u32 (d : Nat)) (by simp) hn (by intro u hu; rw [List.mem_map] at hu; obtain ⟨d, _, rfl⟩ := hu; rfl) (by simp only [maxLen]; omega) (by omega) hB
    refine ⟨v', w', h1, ?_, h3, h4⟩
    unfold Own
    rw [List.length_append, List.map_append]
    exact h2

/-- which rows are alive, by what is done. -/
def alive (b : Nat → Bool) : Nat → Bool
  | 2 => b 2 && !b 5
  | 5 => b 5 && !b 7
  | 6 => b 6 && !b 7
  | 7 => b 7
  | 9 => b 9 && !b 12
  | 12 => b 12
  | _ => false
/-- what the rows hold. -/
def Dq (A : List Nat) : Nat → List Nat
  | 2 => []
  | 5 => A
  | 6 => [0, 0]
  | 7 => A ++ [0, 0]
  | 9 => [0, 4294967295]
  | 12 => [0, 4294967295] ++ A
  | _ => []
def RW (x : World) (z : Nat) (p : Nat → Bool) (f : Nat → Value) (D : Nat → List Nat) : Prop :=
  (∀ j, p j = true → Own x z 46 .u32 (f j) (D j)) ∧ ∀ i j g, i ≠ j → p i = true → p j = true → (f i).ownBlock = some g → (f j).ownBlock ≠ some g
def bset (b : Nat → Bool) (i : Nat) : Nat → Bool := fun j => if j = i then true else b j
theorem own_keep {x y : World} {z : Nat} {v : Value} {l : List Nat} (h : Own x z 46 .u32 v l) (hk : ∀ g, v.ownBlock = some g → y.heap[g]? = x.heap[g]?) : Own y z 46 .u32 v l := by
  refine ⟨h.1, ?_⟩
  rcases h.2 with h2 | ⟨g, cap, cur, rfl, hg, hh, r⟩
  · exact .inl h2
  · exact .inr ⟨g, cap, cur, rfl, hg, by rw [hk g rfl]; exact hh, r⟩
theorem RW.next {x y : World} {z i : Nat} {p p' : Nat → Bool} {f : Nat → Value} {u : Value} {D : Nat → List Nat} (h : RW x z p f D)
    (hp : ∀ j, p' j = true → j = i ∨ (j ≠ i ∧ p j = true ∧ ∀ g, (f j).ownBlock = some g → y.heap[g]? = x.heap[g]?))
    (hi : p' i = true → Own y z 46 .u32 u (D i) ∧ ∀ j g, j ≠ i → p' j = true → (f j).ownBlock = some g → u.ownBlock ≠ some g) : RW y z p' (upd f i u) D := by
  have e : ∀ j, j ≠ i → upd f i u j = f j := fun j hj => if_neg hj
  have e' : upd f i u i = u := if_pos rfl
  refine ⟨fun j hj => ?_, fun j k g hjk hj hk hg => ?_⟩
  · rcases hp j hj with rfl | ⟨hne, h1, h2⟩
    · rw [e']; exact (hi hj).1
    · rw [e j hne]; exact own_keep (h.1 j h1) h2
  · rcases hp j hj with rfl | ⟨hne, h1, h2⟩
    · rw [e'] at hg
      rw [e k (Ne.symm hjk)]
      exact fun e2 => (hi hj).2 k g (Ne.symm hjk) hk e2 hg
    · rw [e j hne] at hg
      rcases hp k hk with rfl | ⟨hne2, k1, k2⟩
      · rw [e']; exact (hi hk).2 j g hne hj hg
      · rw [e k hne2]; exact h.2 j k g hjk h1 k1 hg
structure Hq (z : Nat) (A : List Nat) (av : Value) (b : Nat → Bool) (f : Nat → Value) (x : World) : Prop where
  c75 : b 7 = true → b 5 = true
  c76 : b 7 = true → b 6 = true
  c52 : b 5 = true → b 2 = true
  c129 : b 12 = true → b 9 = true
  c127 : b 12 = true → b 7 = true
  c87 : b 8 = true → b 7 = true
  c1312 : b 13 = true → b 12 = true
  c148 : b 14 = true → b 8 = true
  c1413 : b 14 = true → b 13 = true
  e8 : b 8 = true → f 8 = .agg #[f 7]
  e13 : b 13 = true → f 13 = .agg #[f 12]
  rw : RW x z (alive b) f (Dq A)
  e14 : b 14 = true → ∃ g, f 14 = .slice (some ⟨g, 0, none⟩) 3 3 ∧ z ≤ g ∧ Bx x g 24 #[av, f 7, f 12]
theorem bset_ne {b : Nat → Bool} {i j : Nat} (h : j ≠ i) : bset b i j = b j := if_neg h
theorem bset_eq {b : Nat → Bool} {i : Nat} : bset b i i = true := if_pos rfl
theorem upd_ne {f : Nat → Value} {i j : Nat} {u : Value} (h : j ≠ i) : upd f i u j = f j := if_neg h
theorem upd_eq {f : Nat → Value} {i : Nat} {u : Value} : upd f i u i = u := if_pos rfl
theorem bits_set {done : Array Bool} {i : Nat} (h : i < done.size) : (fun j => (done.setIfInBounds i true).getD j false) = bset (fun j => done.getD j false) i := by
  funext j
  unfold bset
  by_cases e : j = i
  · subst e; rw [if_pos rfl]; simp [h]
  · rw [if_neg e]; exact done_ne (Ne.symm e)
theorem own_lt {x : World} {z : Nat} {v : Value} {l : List Nat} (h : Own x z 46 .u32 v l) {g : Nat} (hg : v.ownBlock = some g) : g < x.heap.size := (World.ownsRow.lt h g hg).2
theorem rw_pure {x y : World} {z i : Nat} {b : Nat → Bool} {f : Nat → Value} {u : Value} {A : List Nat} (h : RW x z (alive b) f (Dq A)) (hb : Below x.heap.size x y) (h2 : i ≠ 2) (h5 : i ≠ 5) (h6 : i ≠ 6) (h7 : i ≠ 7) (h9 : i ≠ 9) (h12 : i ≠ 12) : RW y z (alive (bset b i)) (upd f i u) (Dq A) := by
  have ea : alive (bset b i) = alive b := by
    funext j
    unfold alive
    simp only [bset_ne (Ne.symm h2), bset_ne (Ne.symm h5), bset_ne (Ne.symm h6), bset_ne (Ne.symm h7), bset_ne (Ne.symm h9), bset_ne (Ne.symm h12)]
  rw [ea]
  have hi : alive b i = false := by
    unfold alive
    split <;> first | rfl | (exfalso; first | exact h2 rfl | exact h5 rfl | exact h6 rfl | exact h7 rfl | exact h9 rfl | exact h12 rfl)
  refine h.next (fun j hj => ?_) (fun e => by rw [hi] at e; cases e)
  refine .inr ⟨(fun e => by subst e; rw [hi] at hj; cases hj), hj, fun g hg => hb.block g (own_lt (h.1 j hj) hg)⟩
theorem Hq.pure {x y : World} {z i : Nat} {b : Nat → Bool} {f : Nat → Value} {u av : Value} {A : List Nat} (h : Hq z A av b f x) (hb : Below x.heap.size x y) (h2 : i ≠ 2) (h5 : i ≠ 5) (h6 : i ≠ 6) (h7 : i ≠ 7) (h8 : i ≠ 8) (h9 : i ≠ 9) (h12 : i ≠ 12) (h13 : i ≠ 13) (h14 : i ≠ 14) : Hq z A av (bset b i) (upd f i u) y := by
  have e2 := bset_ne (b := b) (Ne.symm h2)
  have e5 := bset_ne (b := b) (Ne.symm h5)
  have e6 := bset_ne (b := b) (Ne.symm h6)
  have e7 := bset_ne (b := b) (Ne.symm h7)
  have e8 := bset_ne (b := b) (Ne.symm h8)
  have e9 := bset_ne (b := b) (Ne.symm h9)
  have e12 := bset_ne (b := b) (Ne.symm h12)
  have e13 := bset_ne (b := b) (Ne.symm h13)
  have e14 := bset_ne (b := b) (Ne.symm h14)
  refine ⟨?_, ?_, ?_, ?_, ?_, ?_, ?_, ?_, ?_, ?_, ?_, rw_pure h.rw hb h2 h5 h6 h7 h9 h12, ?_⟩
  · rw [e7, e5]; exact h.c75
  · rw [e7, e6]; exact h.c76
  · rw [e5, e2]; exact h.c52
  · rw [e12, e9]; exact h.c129
  · rw [e12, e7]; exact h.c127
  · rw [e8, e7]; exact h.c87
  · rw [e13, e12]; exact h.c1312
  · rw [e14, e8]; exact h.c148
  · rw [e14, e13]; exact h.c1413
  · rw [e8, upd_ne (Ne.symm h8), upd_ne (Ne.symm h7)]; exact h.e8
  · rw [e13, upd_ne (Ne.symm h13), upd_ne (Ne.symm h12)]; exact h.e13
  · rw [e14, upd_ne (Ne.symm h14), upd_ne (Ne.symm h7), upd_ne (Ne.symm h12)]
    intro k
    obtain ⟨g, k1, k2, k3⟩ := h.e14 k
    exact ⟨g, k1, k2, k3.below hb⟩
theorem Hq.s8 {x y : World} {z : Nat} {b : Nat → Bool} {f : Nat → Value} {u av : Value} {A : List Nat} (h : Hq z A av b f x) (hb : Below x.heap.size x y) (k7 : b 7 = true) (hu : u = .agg #[f 7]) : Hq z A av (bset b 8) (upd f 8 u) y := by
  subst hu
  refine ⟨?_, ?_, ?_, ?_, ?_, ?_, ?_, ?_, ?_, ?_, ?_, ?_, ?_⟩
  · rw [bset_ne (show (7 : Nat) ≠ 8 by decide), bset_ne (show (5 : Nat) ≠ 8 by decide)]; exact h.c75
  · rw [bset_ne (show (7 : Nat) ≠ 8 by decide), bset_ne (show (6 : Nat) ≠ 8 by decide)]; exact h.c76
  · rw [bset_ne (show (5 : Nat) ≠ 8 by decide), bset_ne (show (2 : Nat) ≠ 8 by decide)]; exact h.c52
  · rw [bset_ne (show (12 : Nat) ≠ 8 by decide), bset_ne (show (9 : Nat) ≠ 8 by decide)]; exact h.c129
  · rw [bset_ne (show (12 : Nat) ≠ 8 by decide), bset_ne (show (7 : Nat) ≠ 8 by decide)]; exact h.c127
  · rw [bset_ne (show (7 : Nat) ≠ 8 by decide)]; exact fun _ => k7
  · rw [bset_ne (show (13 : Nat) ≠ 8 by decide), bset_ne (show (12 : Nat) ≠ 8 by decide)]; exact h.c1312
  · exact fun _ => bset_eq
  · rw [bset_ne (show (14 : Nat) ≠ 8 by decide), bset_ne (show (13 : Nat) ≠ 8 by decide)]; exact h.c1413
  · intro _; rw [upd_eq, upd_ne (by decide)]
  · rw [bset_ne (by decide), upd_ne (by decide), upd_ne (by decide)]; exact h.e13
  · exact rw_pure h.rw hb (by decide) (by decide) (by decide) (by decide) (by decide) (by decide)
  · rw [bset_ne (by decide), upd_ne (by decide), upd_ne (by decide), upd_ne (by decide)]
    intro k
    obtain ⟨g, k1, k2, k3⟩ := h.e14 k
    exact ⟨g, k1, k2, k3.below hb⟩
theorem Hq.s13 {x y : World} {z : Nat} {b : Nat → Bool} {f : Nat → Value} {u av : Value} {A : List Nat} (h : Hq z A av b f x) (hb : Below x.heap.size x y) (k12 : b 12 = true) (hu : u = .agg #[f 12]) : Hq z A av (bset b 13) (upd f 13 u) y := by
  subst hu
  refine ⟨?_, ?_, ?_, ?_, ?_, ?_, ?_, ?_, ?_, ?_, ?_, ?_, ?_⟩
  · rw [bset_ne (show (7 : Nat) ≠ 13 by decide), bset_ne (show (5 : Nat) ≠ 13 by decide)]; exact h.c75
  · rw [bset_ne (show (7 : Nat) ≠ 13 by decide), bset_ne (show (6 : Nat) ≠ 13 by decide)]; exact h.c76
  · rw [bset_ne (show (5 : Nat) ≠ 13 by decide), bset_ne (show (2 : Nat) ≠ 13 by decide)]; exact h.c52
  · rw [bset_ne (show (12 : Nat) ≠ 13 by decide), bset_ne (show (9 : Nat) ≠ 13 by decide)]; exact h.c129
  · rw [bset_ne (show (12 : Nat) ≠ 13 by decide), bset_ne (show (7 : Nat) ≠ 13 by decide)]; exact h.c127
  · rw [bset_ne (show (8 : Nat) ≠ 13 by decide), bset_ne (show (7 : Nat) ≠ 13 by decide)]; exact h.c87
  · rw [bset_ne (show (12 : Nat) ≠ 13 by decide)]; exact fun _ => k12
  · rw [bset_ne (show (14 : Nat) ≠ 13 by decide), bset_ne (show (8 : Nat) ≠ 13 by decide)]; exact h.c148
  · exact fun _ => bset_eq
  · rw [bset_ne (by decide), upd_ne (by decide), upd_ne (by decide)]; exact h.e8
  · intro _; rw [upd_eq, upd_ne (by decide)]
  · exact rw_pure h.rw hb (by decide) (by decide) (by decide) (by decide) (by decide) (by decide)
  · rw [bset_ne (by decide), upd_ne (by decide), upd_ne (by decide), upd_ne (by decide)]
    intro k
    obtain ⟨g, k1, k2, k3⟩ := h.e14 k
    exact ⟨g, k1, k2, k3.below hb⟩
theorem Hq.s14 {x y : World} {z : Nat} {b : Nat → Bool} {f : Nat → Value} {u av : Value} {A : List Nat} (h : Hq z A av b f x) (hb : Below x.heap.size x y) (k8 : b 8 = true) (k13 : b 13 = true) (h14 : ∃ g, u = .slice (some ⟨g, 0, none⟩) 3 3 ∧ z ≤ g ∧ Bx y g 24 #[av, f 7, f 12]) : Hq z A av (bset b 14) (upd f 14 u) y := by
  refine ⟨?_, ?_, ?_, ?_, ?_, ?_, ?_, ?_, ?_, ?_, ?_, ?_, ?_⟩
  · rw [bset_ne (show (7 : Nat) ≠ 14 by decide), bset_ne (show (5 : Nat) ≠ 14 by decide)]; exact h.c75
  · rw [bset_ne (show (7 : Nat) ≠ 14 by decide), bset_ne (show (6 : Nat) ≠ 14 by decide)]; exact h.c76
  · rw [bset_ne (show (5 : Nat) ≠ 14 by decide), bset_ne (show (2 : Nat) ≠ 14 by decide)]; exact h.c52
  · rw [bset_ne (show (12 : Nat) ≠ 14 by decide), bset_ne (show (9 : Nat) ≠ 14 by decide)]; exact h.c129
  · rw [bset_ne (show (12 : Nat) ≠ 14 by decide), bset_ne (show (7 : Nat) ≠ 14 by decide)]; exact h.c127
  · rw [bset_ne (show (8 : Nat) ≠ 14 by decide), bset_ne (show (7 : Nat) ≠ 14 by decide)]; exact h.c87
  · rw [bset_ne (show (13 : Nat) ≠ 14 by decide), bset_ne (show (12 : Nat) ≠ 14 by decide)]; exact h.c1312
  · rw [bset_ne (show (8 : Nat) ≠ 14 by decide)]; exact fun _ => k8
  · rw [bset_ne (show (13 : Nat) ≠ 14 by decide)]; exact fun _ => k13
  · rw [bset_ne (by decide), upd_ne (by decide), upd_ne (by decide)]; exact h.e8
  · rw [bset_ne (by decide), upd_ne (by decide), upd_ne (by decide)]; exact h.e13
  · exact rw_pure h.rw hb (by decide) (by decide) (by decide) (by decide) (by decide) (by decide)
  · intro _; rw [upd_eq, upd_ne (by decide), upd_ne (by decide)]; exact h14
theorem alive2 {b : Nat → Bool} {j : Nat} (hj : alive (bset b 2) j = true) (e : j ≠ 2) : alive b j = true ∧ j ≠ 2 := by
  unfold alive at hj ⊢
  split at hj
  · exact absurd rfl e
  · simp [bset] at hj ⊢ <;> simp [hj]
  · simp [bset] at hj ⊢ <;> simp [hj]
  · simp [bset] at hj ⊢ <;> simp [hj]
  · simp [bset] at hj ⊢ <;> simp [hj]
  · simp [bset] at hj ⊢ <;> simp [hj]
  · cases hj
theorem alive6 {b : Nat → Bool} {j : Nat} (hj : alive (bset b 6) j = true) (e : j ≠ 6) : alive b j = true ∧ j ≠ 6 := by
  unfold alive at hj ⊢
  split at hj
  · simp [bset] at hj ⊢ <;> simp [hj]
  · simp [bset] at hj ⊢ <;> simp [hj]
  · exact absurd rfl e
  · simp [bset] at hj ⊢ <;> simp [hj]
  · simp [bset] at hj ⊢ <;> simp [hj]
  · simp [bset] at hj ⊢ <;> simp [hj]
  · cases hj
theorem alive9 {b : Nat → Bool} {j : Nat} (hj : alive (bset b 9) j = true) (e : j ≠ 9) : alive b j = true ∧ j ≠ 9 := by
  unfold alive at hj ⊢
  split at hj
  · simp [bset] at hj ⊢ <;> simp [hj]
  · simp [bset] at hj ⊢ <;> simp [hj]
  · simp [bset] at hj ⊢ <;> simp [hj]
  · simp [bset] at hj ⊢ <;> simp [hj]
  · exact absurd rfl e
  · simp [bset] at hj ⊢ <;> simp [hj]
  · cases hj
theorem alive5 {b : Nat → Bool} {j : Nat} (hj : alive (bset b 5) j = true) (e : j ≠ 5) : alive b j = true ∧ j ≠ 2 := by
  unfold alive at hj ⊢
  split at hj
  · simp [bset] at hj ⊢ <;> simp [hj]
  · exact absurd rfl e
  · simp [bset] at hj ⊢ <;> simp [hj]
  · simp [bset] at hj ⊢ <;> simp [hj]
  · simp [bset] at hj ⊢ <;> simp [hj]
  · simp [bset] at hj ⊢ <;> simp [hj]
  · cases hj
theorem alive7 {b : Nat → Bool} {j : Nat} (hj : alive (bset b 7) j = true) (e : j ≠ 7) : alive b j = true ∧ j ≠ 5 := by
  unfold alive at hj ⊢
  split at hj
  · simp [bset] at hj ⊢ <;> simp [hj]
  · simp [bset] at hj ⊢ <;> simp [hj]
  · simp [bset] at hj ⊢ <;> simp [hj]
  · exact absurd rfl e
  · simp [bset] at hj ⊢ <;> simp [hj]
  · simp [bset] at hj ⊢ <;> simp [hj]
  · cases hj
theorem alive12 {b : Nat → Bool} {j : Nat} (hj : alive (bset b 12) j = true) (e : j ≠ 12) : alive b j = true ∧ j ≠ 9 := by
  unfold alive at hj ⊢
  split at hj
  · simp [bset] at hj ⊢ <;> simp [hj]
  · simp [bset] at hj ⊢ <;> simp [hj]
  · simp [bset] at hj ⊢ <;> simp [hj]
  · simp [bset] at hj ⊢ <;> simp [hj]
  · simp [bset] at hj ⊢ <;> simp [hj]
  · exact absurd rfl e
  · cases hj
theorem Hq.s2 {x y : World} {z : Nat} {b : Nat → Bool} {f : Nat → Value} {u av : Value} {A : List Nat} (h : Hq z A av b f x) (hb : Below x.heap.size x y) (ho : Own y z 46 .u32 u (Dq A 2)) (hu : u.ownBlock = some x.heap.size) : Hq z A av (bset b 2) (upd f 2 u) y := by
  refine ⟨?_, ?_, ?_, ?_, ?_, ?_, ?_, ?_, ?_, ?_, ?_, ?_, ?_⟩
  · rw [bset_ne (show (7 : Nat) ≠ 2 by decide), bset_ne (show (5 : Nat) ≠ 2 by decide)]; exact h.c75
  · rw [bset_ne (show (7 : Nat) ≠ 2 by decide), bset_ne (show (6 : Nat) ≠ 2 by decide)]; exact h.c76
  · exact fun _ => bset_eq
  · rw [bset_ne (show (12 : Nat) ≠ 2 by decide), bset_ne (show (9 : Nat) ≠ 2 by decide)]; exact h.c129
  · rw [bset_ne (show (12 : Nat) ≠ 2 by decide), bset_ne (show (7 : Nat) ≠ 2 by decide)]; exact h.c127
  · rw [bset_ne (show (8 : Nat) ≠ 2 by decide), bset_ne (show (7 : Nat) ≠ 2 by decide)]; exact h.c87
  · rw [bset_ne (show (13 : Nat) ≠ 2 by decide), bset_ne (show (12 : Nat) ≠ 2 by decide)]; exact h.c1312
  · rw [bset_ne (show (14 : Nat) ≠ 2 by decide), bset_ne (show (8 : Nat) ≠ 2 by decide)]; exact h.c148
  · rw [bset_ne (show (14 : Nat) ≠ 2 by decide), bset_ne (show (13 : Nat) ≠ 2 by decide)]; exact h.c1413
  · rw [bset_ne (by decide), upd_ne (by decide), upd_ne (by decide)]; exact h.e8
  · rw [bset_ne (by decide), upd_ne (by decide), upd_ne (by decide)]; exact h.e13
  · refine h.rw.next (fun j hj => ?_) (fun _ => ⟨ho, fun j g hj hp hg => ?_⟩)
    · by_cases e : j = 2
      · exact .inl e
      · refine .inr ⟨e, ?_⟩
        obtain ⟨a1, a2⟩ := alive2 (b := b) hj e
        exact ⟨a1, fun g hg => hb.block g (own_lt (h.rw.1 j a1) hg)⟩
    · obtain ⟨a1, _⟩ := alive2 (b := b) hp hj
      have := own_lt (h.rw.1 j a1) hg
      rw [hu]
      intro e
      have := Option.some.inj e
      omega
  · rw [bset_ne (by decide), upd_ne (by decide), upd_ne (by decide), upd_ne (by decide)]
    intro k
    obtain ⟨g, k1, k2, k3⟩ := h.e14 k
    exact ⟨g, k1, k2, k3.below hb⟩
theorem Hq.s6 {x y : World} {z : Nat} {b : Nat → Bool} {f : Nat → Value} {u av : Value} {A : List Nat} (h : Hq z A av b f x) (hb : Below x.heap.size x y) (ho : Own y z 46 .u32 u (Dq A 6)) (hu : u.ownBlock = some x.heap.size) : Hq z A av (bset b 6) (upd f 6 u) y := by
  refine ⟨?_, ?_, ?_, ?_, ?_, ?_, ?_, ?_, ?_, ?_, ?_, ?_, ?_⟩
  · rw [bset_ne (show (7 : Nat) ≠ 6 by decide), bset_ne (show (5 : Nat) ≠ 6 by decide)]; exact h.c75
  · exact fun _ => bset_eq
  · rw [bset_ne (show (5 : Nat) ≠ 6 by decide), bset_ne (show (2 : Nat) ≠ 6 by decide)]; exact h.c52
  · rw [bset_ne (show (12 : Nat) ≠ 6 by decide), bset_ne (show (9 : Nat) ≠ 6 by decide)]; exact h.c129
  · rw [bset_ne (show (12 : Nat) ≠ 6 by decide), bset_ne (show (7 : Nat) ≠ 6 by decide)]; exact h.c127
  · rw [bset_ne (show (8 : Nat) ≠ 6 by decide), bset_ne (show (7 : Nat) ≠ 6 by decide)]; exact h.c87
  · rw [bset_ne (show (13 : Nat) ≠ 6 by decide), bset_ne (show (12 : Nat) ≠ 6 by decide)]; exact h.c1312
  · rw [bset_ne (show (14 : Nat) ≠ 6 by decide), bset_ne (show (8 : Nat) ≠ 6 by decide)]; exact h.c148
  · rw [bset_ne (show (14 : Nat) ≠ 6 by decide), bset_ne (show (13 : Nat) ≠ 6 by decide)]; exact h.c1413
  · rw [bset_ne (by decide), upd_ne (by decide), upd_ne (by decide)]; exact h.e8
  · rw [bset_ne (by decide), upd_ne (by decide), upd_ne (by decide)]; exact h.e13
  · refine h.rw.next (fun j hj => ?_) (fun _ => ⟨ho, fun j g hj hp hg => ?_⟩)
    · by_cases e : j = 6
      · exact .inl e
      · refine .inr ⟨e, ?_⟩
        obtain ⟨a1, a2⟩ := alive6 (b := b) hj e
        exact ⟨a1, fun g hg => hb.block g (own_lt (h.rw.1 j a1) hg)⟩
    · obtain ⟨a1, _⟩ := alive6 (b := b) hp hj
      have := own_lt (h.rw.1 j a1) hg
      rw [hu]
      intro e
      have := Option.some.inj e
      omega
  · rw [bset_ne (by decide), upd_ne (by decide), upd_ne (by decide), upd_ne (by decide)]
    intro k
    obtain ⟨g, k1, k2, k3⟩ := h.e14 k
    exact ⟨g, k1, k2, k3.below hb⟩
theorem Hq.s9 {x y : World} {z : Nat} {b : Nat → Bool} {f : Nat → Value} {u av : Value} {A : List Nat} (h : Hq z A av b f x) (hb : Below x.heap.size x y) (ho : Own y z 46 .u32 u (Dq A 9)) (hu : u.ownBlock = some x.heap.size) : Hq z A av (bset b 9) (upd f 9 u) y := by
  refine ⟨?_, ?_, ?_, ?_, ?_, ?_, ?_, ?_, ?_, ?_, ?_, ?_, ?_⟩
  · rw [bset_ne (show (7 : Nat) ≠ 9 by decide), bset_ne (show (5 : Nat) ≠ 9 by decide)]; exact h.c75
  · rw [bset_ne (show (7 : Nat) ≠ 9 by decide), bset_ne (show (6 : Nat) ≠ 9 by decide)]; exact h.c76
  · rw [bset_ne (show (5 : Nat) ≠ 9 by decide), bset_ne (show (2 : Nat) ≠ 9 by decide)]; exact h.c52
  · exact fun _ => bset_eq
  · rw [bset_ne (show (12 : Nat) ≠ 9 by decide), bset_ne (show (7 : Nat) ≠ 9 by decide)]; exact h.c127
  · rw [bset_ne (show (8 : Nat) ≠ 9 by decide), bset_ne (show (7 : Nat) ≠ 9 by decide)]; exact h.c87
  · rw [bset_ne (show (13 : Nat) ≠ 9 by decide), bset_ne (show (12 : Nat) ≠ 9 by decide)]; exact h.c1312
  · rw [bset_ne (show (14 : Nat) ≠ 9 by decide), bset_ne (show (8 : Nat) ≠ 9 by decide)]; exact h.c148
  · rw [bset_ne (show (14 : Nat) ≠ 9 by decide), bset_ne (show (13 : Nat) ≠ 9 by decide)]; exact h.c1413
  · rw [bset_ne (by decide), upd_ne (by decide), upd_ne (by decide)]; exact h.e8
  · rw [bset_ne (by decide), upd_ne (by decide), upd_ne (by decide)]; exact h.e13
  · refine h.rw.next (fun j hj => ?_) (fun _ => ⟨ho, fun j g hj hp hg => ?_⟩)
    · by_cases e : j = 9
      · exact .inl e
      · refine .inr ⟨e, ?_⟩
        obtain ⟨a1, a2⟩ := alive9 (b := b) hj e
        exact ⟨a1, fun g hg => hb.block g (own_lt (h.rw.1 j a1) hg)⟩
    · obtain ⟨a1, _⟩ := alive9 (b := b) hp hj
      have := own_lt (h.rw.1 j a1) hg
      rw [hu]
      intro e
      have := Option.some.inj e
      omega
  · rw [bset_ne (by decide), upd_ne (by decide), upd_ne (by decide), upd_ne (by decide)]
    intro k
    obtain ⟨g, k1, k2, k3⟩ := h.e14 k
    exact ⟨g, k1, k2, k3.below hb⟩
theorem Hq.s5 {x y : World} {z : Nat} {b : Nat → Bool} {f : Nat → Value} {u av : Value} {A : List Nat} (h : Hq z A av b f x) (hg7 : x.grownBy y (f 2).ownBlock) (ho : Own y z 46 .u32 u (Dq A 5)) (hu : u.ownBlock = (f 2).ownBlock ∨ u.ownBlock = some x.heap.size) (k2 : b 2 = true) (n5 : b 5 = false) : Hq z A av (bset b 5) (upd f 5 u) y := by
  have n7 : b 7 = false := by cases e : b 7 with | false => rfl | true => rw [h.c75 e] at n5; cases n5
  have f8 : b 8 = false := by cases e : b 8 with | false => rfl | true => rw [h.c87 e] at n7; cases n7
  have f12 : b 12 = false := by cases e : b 12 with | false => rfl | true => rw [h.c127 e] at n7; cases n7
  have f13 : b 13 = false := by cases e : b 13 with | false => rfl | true => rw [h.c1312 e] at f12; cases f12
  have f14 : b 14 = false := by cases e : b 14 with | false => rfl | true => rw [h.c1413 e] at f13; cases f13
  have ksrc : alive b 2 = true := by simp [alive, k2, n5]
  refine ⟨?_, ?_, ?_, ?_, ?_, ?_, ?_, ?_, ?_, ?_, ?_, ?_, ?_⟩
  · exact fun _ => bset_eq
  · rw [bset_ne (show (7 : Nat) ≠ 5 by decide), bset_ne (show (6 : Nat) ≠ 5 by decide)]; exact h.c76
  · rw [bset_ne (show (2 : Nat) ≠ 5 by decide)]; exact fun _ => k2
  · rw [bset_ne (show (12 : Nat) ≠ 5 by decide), bset_ne (show (9 : Nat) ≠ 5 by decide)]; exact h.c129
  · rw [bset_ne (show (12 : Nat) ≠ 5 by decide), bset_ne (show (7 : Nat) ≠ 5 by decide)]; exact h.c127
  · rw [bset_ne (show (8 : Nat) ≠ 5 by decide), bset_ne (show (7 : Nat) ≠ 5 by decide)]; exact h.c87
  · rw [bset_ne (show (13 : Nat) ≠ 5 by decide), bset_ne (show (12 : Nat) ≠ 5 by decide)]; exact h.c1312
  · rw [bset_ne (show (14 : Nat) ≠ 5 by decide), bset_ne (show (8 : Nat) ≠ 5 by decide)]; exact h.c148
  · rw [bset_ne (show (14 : Nat) ≠ 5 by decide), bset_ne (show (13 : Nat) ≠ 5 by decide)]; exact h.c1413
  · rw [bset_ne (by decide), upd_ne (by decide), upd_ne (by decide)]; exact h.e8
  · rw [bset_ne (by decide), upd_ne (by decide), upd_ne (by decide)]; exact h.e13
  · refine h.rw.next (fun j hj => ?_) (fun _ => ⟨ho, fun j g hj hp hg => ?_⟩)
    · by_cases e : j = 5
      · exact .inl e
      · refine .inr ⟨e, ?_⟩
        obtain ⟨a1, a2⟩ := alive5 (b := b) hj e
        exact ⟨a1, fun g hg => hg7.block g (own_lt (h.rw.1 j a1) hg) (fun e2 => h.rw.2 j 2 g a2 a1 ksrc hg e2.symm)⟩
    · obtain ⟨a1, a2⟩ := alive5 (b := b) hp hj
      rcases hu with hu | hu
      · rw [hu]; exact h.rw.2 j 2 g a2 a1 ksrc hg
      · have := own_lt (h.rw.1 j a1) hg
        rw [hu]
        intro e
        have := Option.some.inj e
        omega
  · rw [bset_ne (by decide)]; intro e; rw [f14] at e; cases e
theorem Hq.s7 {x y : World} {z : Nat} {b : Nat → Bool} {f : Nat → Value} {u av : Value} {A : List Nat} (h : Hq z A av b f x) (hg7 : x.grownBy y (f 5).ownBlock) (ho : Own y z 46 .u32 u (Dq A 7)) (hu : u.ownBlock = (f 5).ownBlock ∨ u.ownBlock = some x.heap.size) (k5 : b 5 = true) (k6 : b 6 = true) (n7 : b 7 = false) : Hq z A av (bset b 7) (upd f 7 u) y := by
  have f8 : b 8 = false := by cases e : b 8 with | false => rfl | true => rw [h.c87 e] at n7; cases n7
  have f12 : b 12 = false := by cases e : b 12 with | false => rfl | true => rw [h.c127 e] at n7; cases n7
  have f13 : b 13 = false := by cases e : b 13 with | false => rfl | true => rw [h.c1312 e] at f12; cases f12
  have f14 : b 14 = false := by cases e : b 14 with | false => rfl | true => rw [h.c1413 e] at f13; cases f13
  have ksrc : alive b 5 = true := by simp [alive, k5, n7]
  refine ⟨?_, ?_, ?_, ?_, ?_, ?_, ?_, ?_, ?_, ?_, ?_, ?_, ?_⟩
  · rw [bset_ne (show (5 : Nat) ≠ 7 by decide)]; exact fun _ => k5
  · rw [bset_ne (show (6 : Nat) ≠ 7 by decide)]; exact fun _ => k6
  · rw [bset_ne (show (5 : Nat) ≠ 7 by decide), bset_ne (show (2 : Nat) ≠ 7 by decide)]; exact h.c52
  · rw [bset_ne (show (12 : Nat) ≠ 7 by decide), bset_ne (show (9 : Nat) ≠ 7 by decide)]; exact h.c129
  · exact fun _ => bset_eq
  · exact fun _ => bset_eq
  · rw [bset_ne (show (13 : Nat) ≠ 7 by decide), bset_ne (show (12 : Nat) ≠ 7 by decide)]; exact h.c1312
  · rw [bset_ne (show (14 : Nat) ≠ 7 by decide), bset_ne (show (8 : Nat) ≠ 7 by decide)]; exact h.c148
  · rw [bset_ne (show (14 : Nat) ≠ 7 by decide), bset_ne (show (13 : Nat) ≠ 7 by decide)]; exact h.c1413
  · rw [bset_ne (by decide)]; intro e; rw [f8] at e; cases e
  · rw [bset_ne (by decide), upd_ne (by decide), upd_ne (by decide)]; exact h.e13
  · refine h.rw.next (fun j hj => ?_) (fun _ => ⟨ho, fun j g hj hp hg => ?_⟩)
    · by_cases e : j = 7
      · exact .inl e
      · refine .inr ⟨e, ?_⟩
        obtain ⟨a1, a2⟩ := alive7 (b := b) hj e
        exact ⟨a1, fun g hg => hg7.block g (own_lt (h.rw.1 j a1) hg) (fun e2 => h.rw.2 j 5 g a2 a1 ksrc hg e2.symm)⟩
    · obtain ⟨a1, a2⟩ := alive7 (b := b) hp hj
      rcases hu with hu | hu
      · rw [hu]; exact h.rw.2 j 5 g a2 a1 ksrc hg
      · have := own_lt (h.rw.1 j a1) hg
        rw [hu]
        intro e
        have := Option.some.inj e
        omega
  · rw [bset_ne (by decide)]; intro e; rw [f14] at e; cases e
theorem Hq.s12 {x y : World} {z : Nat} {b : Nat → Bool} {f : Nat → Value} {u av : Value} {A : List Nat} (h : Hq z A av b f x) (hg7 : x.grownBy y (f 9).ownBlock) (ho : Own y z 46 .u32 u (Dq A 12)) (hu : u.ownBlock = (f 9).ownBlock ∨ u.ownBlock = some x.heap.size) (k9 : b 9 = true) (k7 : b 7 = true) (n12 : b 12 = false) : Hq z A av (bset b 12) (upd f 12 u) y := by
  have f13 : b 13 = false := by cases e : b 13 with | false => rfl | true => rw [h.c1312 e] at n12; cases n12
  have f14 : b 14 = false := by cases e : b 14 with | false => rfl | true => rw [h.c1413 e] at f13; cases f13
  have ksrc : alive b 9 = true := by simp [alive, k9, n12]
  refine ⟨?_, ?_, ?_, ?_, ?_, ?_, ?_, ?_, ?_, ?_, ?_, ?_, ?_⟩
  · rw [bset_ne (show (7 : Nat) ≠ 12 by decide), bset_ne (show (5 : Nat) ≠ 12 by decide)]; exact h.c75
  · rw [bset_ne (show (7 : Nat) ≠ 12 by decide), bset_ne (show (6 : Nat) ≠ 12 by decide)]; exact h.c76
  · rw [bset_ne (show (5 : Nat) ≠ 12 by decide), bset_ne (show (2 : Nat) ≠ 12 by decide)]; exact h.c52
  · rw [bset_ne (show (9 : Nat) ≠ 12 by decide)]; exact fun _ => k9
  · rw [bset_ne (show (7 : Nat) ≠ 12 by decide)]; exact fun _ => k7
  · rw [bset_ne (show (8 : Nat) ≠ 12 by decide), bset_ne (show (7 : Nat) ≠ 12 by decide)]; exact h.c87
  · exact fun _ => bset_eq
  · rw [bset_ne (show (14 : Nat) ≠ 12 by decide), bset_ne (show (8 : Nat) ≠ 12 by decide)]; exact h.c148
  · rw [bset_ne (show (14 : Nat) ≠ 12 by decide), bset_ne (show (13 : Nat) ≠ 12 by decide)]; exact h.c1413
  · rw [bset_ne (by decide), upd_ne (by decide), upd_ne (by decide)]; exact h.e8
  · rw [bset_ne (by decide)]; intro e; rw [f13] at e; cases e
  · refine h.rw.next (fun j hj => ?_) (fun _ => ⟨ho, fun j g hj hp hg => ?_⟩)
    · by_cases e : j = 12
      · exact .inl e
      · refine .inr ⟨e, ?_⟩
        obtain ⟨a1, a2⟩ := alive12 (b := b) hj e
        exact ⟨a1, fun g hg => hg7.block g (own_lt (h.rw.1 j a1) hg) (fun e2 => h.rw.2 j 9 g a2 a1 ksrc hg e2.symm)⟩
    · obtain ⟨a1, a2⟩ := alive12 (b := b) hp hj
      rcases hu with hu | hu
      · rw [hu]; exact h.rw.2 j 9 g a2 a1 ksrc hg
      · have := own_lt (h.rw.1 j a1) hg
        rw [hu]
        intro e
        have := Option.some.inj e
        omega
  · rw [bset_ne (by decide)]; intro e; rw [f14] at e; cases e
def e7o0 : Oper := { dst := some 35, op := Op.move (Operand.tmp 2), type := 38, pos := "law.go:88", after := #[], guard := none }
def e7o1 : Oper := { dst := some 36, op := Op.load 24 (Operand.tmp 4), type := 24, pos := "law.go:88", after := #[], guard := none }
def e7o2 : Oper := { dst := some 37, op := Op.buildSlice 22 0 #[], type := 22, pos := "law.go:88", after := #[], guard := none }
def e7o3 : Oper := { dst := some 38, op := Op.fieldAddr 24 (Operand.tmp 4) 0, type := 0, pos := "law.go:88", after := #[], guard := none }
def e7o4 : Oper := { dst := some 39, op := Op.load 22 (Operand.tmp 38), type := 22, pos := "law.go:88", after := #[{ on := 3, ground := Ground.data }], guard := none }
def e7o5 : Oper := { dst := some 40, op := Op.call { callee := Callee.builtin Builtin.append, args := #[Operand.tmp 37, Operand.tmp 39], argTypes := #[22, 22] }, type := 22, pos := "law.go:88", after := #[{ on := 2, ground := Ground.data }, { on := 4, ground := Ground.data }], guard := none }
def e7o6 : Oper := { dst := some 41, op := Op.buildSlice 22 2 #[(0, Operand.const (Value.int IntKind.u32 0)), (1, Operand.const (Value.int IntKind.u32 0))], type := 22, pos := "law.go:88", after := #[], guard := none }
def e7o7 : Oper := { dst := some 42, op := Op.call { callee := Callee.builtin Builtin.append, args := #[Operand.tmp 40, Operand.tmp 41], argTypes := #[22, 22] }, type := 22, pos := "law.go:88", after := #[{ on := 5, ground := Ground.data }, { on := 6, ground := Ground.data }, { on := 5, ground := Ground.chain }], guard := none }
def e7o8 : Oper := { dst := some 43, op := Op.build 24 #[(0, Operand.tmp 42)], type := 24, pos := "law.go:88", after := #[{ on := 7, ground := Ground.data }], guard := none }
def e7o9 : Oper := { dst := some 44, op := Op.buildSlice 22 2 #[(0, Operand.const (Value.int IntKind.u32 0)), (1, Operand.const (Value.int IntKind.u32 4294967295))], type := 22, pos := "law.go:88", after := #[], guard := none }
def e7o10 : Oper := { dst := some 45, op := Op.fieldAddr 24 (Operand.tmp 4) 0, type := 0, pos := "law.go:88", after := #[], guard := none }
def e7o11 : Oper := { dst := some 46, op := Op.load 22 (Operand.tmp 45), type := 22, pos := "law.go:88", after := #[{ on := 10, ground := Ground.data }], guard := none }
def e7o12 : Oper := { dst := some 47, op := Op.call { callee := Callee.builtin Builtin.append, args := #[Operand.tmp 44, Operand.tmp 46], argTypes := #[22, 22] }, type := 22, pos := "law.go:88", after := #[{ on := 9, ground := Ground.data }, { on := 11, ground := Ground.data }, { on := 7, ground := Ground.chain }], guard := none }
def e7o13 : Oper := { dst := some 48, op := Op.build 24 #[(0, Operand.tmp 47)], type := 24, pos := "law.go:88", after := #[{ on := 12, ground := Ground.data }], guard := none }
def e7o14 : Oper := { dst := some 49, op := Op.buildSlice 38 3 #[(0, Operand.tmp 36), (1, Operand.tmp 43), (2, Operand.tmp 48)], type := 38, pos := "law.go:88", after := #[{ on := 1, ground := Ground.data }, { on := 8, ground := Ground.data }, { on := 13, ground := Ground.data }], guard := none }
def e7o15 : Oper := { dst := some 50, op := Op.call { callee := Callee.builtin Builtin.append, args := #[Operand.tmp 35, Operand.tmp 49], argTypes := #[38, 38] }, type := 38, pos := "law.go:88", after := #[{ on := 0, ground := Ground.data }, { on := 14, ground := Ground.data }, { on := 12, ground := Ground.chain }], guard := none }
def e7o16 : Oper := { dst := some 2, op := Op.assign (Operand.tmp 50), type := 38, pos := "law.go:88", after := #[{ on := 15, ground := Ground.data }, { on := 15, ground := Ground.chain }, { on := 0, ground := Ground.phase }, { on := 1, ground := Ground.phase }, { on := 2, ground := Ground.phase }, { on := 3, ground := Ground.phase }, { on := 4, ground := Ground.phase }, { on := 5, ground := Ground.phase }, { on := 6, ground := Ground.phase }, { on := 7, ground := Ground.phase }, { on := 8, ground := Ground.phase }, { on := 9, ground := Ground.phase }, { on := 10, ground := Ground.phase }, { on := 11, ground := Ground.phase }, { on := 12, ground := Ground.phase }, { on := 13, ground := Ground.phase }, { on := 14, ground := Ground.phase }, { on := 15, ground := Ground.phase }], guard := none }
def e7Ops : Array Oper := #[e7o0, e7o1, e7o2, e7o3, e7o4, e7o5, e7o6, e7o7, e7o8, e7o9, e7o10, e7o11, e7o12, e7o13, e7o14, e7o15, e7o16]
def e7Pre : Array Bool := #[true, true, true, true, true, true, true, true, true, true, true, true, true, true, true, false, false]
def e7K (lv : Value) (qa : Option Addr) (ca ba : Nat) (A : List Nat) : Nat → Value → Prop
  | 0 => fun v => v = lv
  | 1 => fun v => v = .agg #[.slice qa A.length ca]
  | 2 => fun v => ∃ g, v = .slice (some ⟨g, 0, none⟩) 0 0
  | 3 => fun v => v = .pointer (some ⟨ba, 0, none⟩)
  | 4 => fun v => v = .slice qa A.length ca
  | 5 => fun v => ∃ q c, v = .slice q A.length c
  | 6 => fun v => ∃ g, v = .slice (some ⟨g, 0, none⟩) 2 2
  | 7 => fun v => ∃ q c, v = .slice q (A.length + 2) c
  | 8 => fun v => ∃ q c, v = .agg #[.slice q (A.length + 2) c]
  | 9 => fun v => ∃ g, v = .slice (some ⟨g, 0, none⟩) 2 2
  | 10 => fun v => v = .pointer (some ⟨ba, 0, none⟩)
  | 11 => fun v => v = .slice qa A.length ca
  | 12 => fun v => ∃ q c, v = .slice q (A.length + 2) c
  | 13 => fun v => ∃ q c, v = .agg #[.slice q (A.length + 2) c]
  | 14 => fun v => ∃ g, v = .slice (some ⟨g, 0, none⟩) 3 3
  | _ => fun _ => True
theorem e7_slots (f : Nat → Value) : slotsOf e7Ops e7Pre f = [(35, f 0), (36, f 1), (37, f 2), (38, f 3), (39, f 4), (40, f 5), (41, f 6), (42, f 7), (43, f 8), (44, f 9), (45, f 10), (46, f 11), (47, f 12), (48, f 13), (49, f 14)] := by kernel_rfl
set_option maxHeartbeats 6400000 in
set_option maxRecDepth 100000 in
theorem e7_wp {Q : Exit → Act → World → Prop} {a0 : Act} {w : World} (lv : Value) (qa : Option Addr) (ca ba : Nat) (A : List Nat) (hsize : a0.tmps.size = 211) (h2 : a0.tmps[2]? = some lv) (h4 : a0.tmps[4]? = some (.pointer (some ⟨ba, 0, none⟩))) (hc : w.drew.cell? ⟨ba, 0, none⟩ = some (.slice qa A.length ca)) (hA : Sl w.drew .u32 qa A) (hq : qa = none → ca = 0) (hl : A.length ≤ 1000)
    (fin : ∀ (f : Nat → Value) (y : World), (∀ j, j < 17 → e7Pre.getD j false = true → e7K lv qa ca ba A j (f j)) → Below w.drew.heap.size w.drew y → Hq w.drew.heap.size A (.slice qa A.length ca) (fun j => e7Pre.getD j false) f y → wpAny Tryz.prog .any e7Ops Q 2 e7Pre (putL a0 [(35, f 0), (36, f 1), (37, f 2), (38, f 3), (39, f 4), (40, f 5), (41, f 6), (42, f 7), (43, f 8), (44, f 9), (45, f 10), (46, f 11), (47, f 12), (48, f 13), (49, f 14)]) y) (id : Nat) :
    (Code.region id e7Ops true).wp Tryz.prog Q a0 w := by
  refine wp_region_invS9 e7Pre (fun j v _ => e7K lv qa ca ba A j v) (fun done f x => Hq w.drew.heap.size A (.slice qa A.length ca) (fun j => done.getD j false) f x) (fun x y => Below w.drew.heap.size x y) 15 2 (by kernel_rfl) (by kernel_rfl) (by rw [hsize]; kernel_rfl) (by kernel_rfl) (by kernel_rfl) (Below.refl _ _) (fun _ _ _ h1 h2 => h1.trans h2) (fun _ _ _ _ h1 _ => h1) ?_ (fun f y h1 h2 h3 => by rw [e7_slots]; exact fin f y h1 h2 h3) ?_
  rotate_left
  · have e : (fun j => (Array.replicate e7Ops.size false).getD j false) = fun _ => false := by
      funext j
      by_cases hj : j < e7Ops.size <;> simp [hj]
    show Hq _ _ _ (fun j => (Array.replicate e7Ops.size false).getD j false) _ _
    rw [e]
    refine ⟨by simp, by simp, by simp, by simp, by simp, by simp, by simp, by simp, by simp, by simp, by simp, ⟨fun j hj => ?_, fun i j g _ hi => ?_⟩, by simp⟩
    · unfold alive at hj; split at hj <;> simp at hj
    · unfold alive at hi; split at hi <;> simp at hi
  intro i o ho hp done f a x hR hbase hdeps hH0 hdsz hnd hdd hgood K hK0
  have hi : i < 17 := by
    rcases Nat.lt_or_ge i 17 with h | h
    · exact h
    · have : e7Ops.size ≤ i := h
      rw [Array.getElem?_eq_none this] at ho; cases ho
  have hH : Hq w.drew.heap.size A (.slice qa A.length ca) (fun j => done.getD j false) f x := hH0
  have hzx := hR.size
  have hlt : i < done.size := by rw [hdsz]; exact hi
  have hnd' : done.getD i false = false := by rw [getD_flip hlt false true]; exact hnd
  have ha : ∀ (u : Value) (y : World), e7K lv qa ca ba A i u → Below w.drew.heap.size x y → Hq w.drew.heap.size A (.slice qa A.length ca) (bset (fun j => done.getD j false) i) (upd f i u) y → K (a.put o.dst u) y := fun u y k1 k2 k3 => hK0 u y k1 k2 (by rw [← bits_set hlt] at k3; exact k3)
  clear hK0
  have dep : ∀ j, (o.after.any fun e => Region.binds .any e && e.on == j) = true → (∀ s, slotOf e7Ops j = some s → a.tmps[s]? = some (f j)) ∧ e7K lv qa ca ba A j (f j) := by
    intro j h
    obtain ⟨e, he, h2⟩ := Array.any_eq_true'.1 h
    simp only [Bool.and_eq_true, beq_iff_eq] at h2
    obtain ⟨h3, rfl⟩ := h2
    exact hdeps e he h3
  have kd : ∀ j, j < 17 → (o.after.any fun e => Region.binds .any e && e.on == j) = true → done.getD j false = true := by
    intro j hj h
    obtain ⟨e, he, h2⟩ := Array.any_eq_true'.1 h
    simp only [Bool.and_eq_true, beq_iff_eq] at h2
    obtain ⟨h3, rfl⟩ := h2
    rw [getD_flip (by rw [hdsz]; exact hj) false true]; exact hdd e he h3
  have bv : ∀ {s : Nat} {v : Value}, a0.tmps[s]? = some v → ((List.range e7Ops.size).all fun j => !(e7Pre.getD j false) || slotOf e7Ops j != some s) = true → a.tmps[s]? = some v := by
    intro s v h0 h
    rw [hbase s fun j hj hjp e => ?_]; exact h0
    have h2 := (List.all_eq_true.1 h) j (List.mem_range.2 hj)
    rw [e, hjp] at h2; simp at h2
  have kc : x.cell? ⟨ba, 0, none⟩ = some (.slice qa A.length ca) := keep_cellK hR hc
  have kA : Sl x .u32 qa A := hA.below hR
  match i, hi with
  | 0, _ =>
    obtain rfl : e7o0 = o := Option.some.inj (show e7Ops[0]? = some _ from ho)
    have qb := eval_at (bv h2 (by kernel_rfl))
    refine inv_val (G := fun u V => u = lv ∧ x = V) (R := fun _ _ => True) (wanted_none rfl) (v := lv) (w2 := x) (by simp only [execOp, e7o0, qb]; go_simp) ?_ ⟨rfl, rfl⟩ trivial
    rintro _ _ ⟨rfl, rfl⟩ _
    exact ha _ _ (rfl) (Below.refl _ _) (hH.pure (Below.refl _ _) (by decide) (by decide) (by decide) (by decide) (by decide) (by decide) (by decide) (by decide) (by decide))
  | 1, _ =>
    obtain rfl : e7o1 = o := Option.some.inj (show e7Ops[1]? = some _ from ho)
    have qb := eval_at (bv h4 (by kernel_rfl))
    refine inv_val (G := fun u V => u = .agg #[.slice qa A.length ca] ∧ x = V) (R := fun _ _ => True) (wanted_none rfl) (v := .agg #[.slice qa A.length ca]) (w2 := x) (by simp only [execOp, e7o1, qb]; go_simp) ?_ ⟨rfl, rfl⟩ trivial
    rintro _ _ ⟨rfl, rfl⟩ _
    exact ha _ _ (rfl) (Below.refl _ _) (hH.pure (Below.refl _ _) (by decide) (by decide) (by decide) (by decide) (by decide) (by decide) (by decide) (by decide) (by decide))
  | 2, _ =>
    obtain rfl : e7o2 = o := Option.some.inj (show e7Ops[2]? = some _ from ho)
    refine inv_val (G := fun u V => u = .slice (some ⟨x.heap.size, 0, none⟩) 0 0 ∧ x.alloc (.cells #[] 46) = V) (R := fun _ _ => True) (wanted_none rfl) (v := .slice (some ⟨x.heap.size, 0, none⟩) 0 0) (w2 := x.alloc (.cells #[] 46)) (by simp only [execOp, e7o2]; go_simp) ?_ ⟨rfl, rfl⟩ trivial
    rintro _ _ ⟨rfl, rfl⟩ _
    exact ha _ _ (⟨_, rfl⟩) ((Below.refl _ _).alloc hzx _) (hH.s2 (bl_alloc _ _) (own_lit x w.drew.heap.size [] _ rfl hzx (by simp)) rfl)
  | 3, _ =>
    obtain rfl : e7o3 = o := Option.some.inj (show e7Ops[3]? = some _ from ho)
    have qb := eval_at (bv h4 (by kernel_rfl))
    refine inv_val (G := fun u V => u = .pointer (some ⟨ba, 0, none⟩) ∧ x = V) (R := fun _ _ => True) (wanted_none rfl) (v := .pointer (some ⟨ba, 0, none⟩)) (w2 := x) (by simp only [execOp, e7o3, qb]; go_simp) ?_ ⟨rfl, rfl⟩ trivial
    rintro _ _ ⟨rfl, rfl⟩ _
    exact ha _ _ (rfl) (Below.refl _ _) (hH.pure (Below.refl _ _) (by decide) (by decide) (by decide) (by decide) (by decide) (by decide) (by decide) (by decide) (by decide))
  | 4, _ =>
    obtain rfl : e7o4 = o := Option.some.inj (show e7Ops[4]? = some _ from ho)
    obtain ⟨t3, g3⟩ := dep 3 (by kernel_rfl)
    have q3 := t3 38 (by rfl)
    have e3 : f 3 = .pointer (some ⟨ba, 0, none⟩) := g3
    rw [e3] at q3
    have w3 := eval_at q3
    refine inv_val (G := fun u V => u = .slice qa A.length ca ∧ x = V) (R := fun _ _ => True) (wanted_none rfl) (v := .slice qa A.length ca) (w2 := x) (by simp only [execOp, e7o4, w3]; go_simp) ?_ ⟨rfl, rfl⟩ trivial
    rintro _ _ ⟨rfl, rfl⟩ _
    exact ha _ _ (rfl) (Below.refl _ _) (hH.pure (Below.refl _ _) (by decide) (by decide) (by decide) (by decide) (by decide) (by decide) (by decide) (by decide) (by decide))
  | 5, _ =>
    obtain rfl : e7o5 = o := Option.some.inj (show e7Ops[5]? = some _ from ho)
    obtain ⟨t2, g2⟩ := dep 2 (by kernel_rfl)
    have q2 := t2 37 (by rfl)
    have k2 := kd 2 (by decide) (by kernel_rfl)
    have ho : Own x w.drew.heap.size 46 .u32 (f 2) ([]) := hH.rw.1 2 (by simp [alive, k2, hnd'])
    obtain ⟨t4, g4⟩ := dep 4 (by kernel_rfl)
    have q4 := t4 39 (by rfl)
    have e4 : f 4 = .slice qa A.length ca := g4
    rw [e4] at q4
    have qs_ := q4
    have hs_ := kA
    have hq_ := hq
    obtain ⟨v', w', r1, r2, r3, r4⟩ := run_joinA 22 ho hs_ hq_ (by simp; omega) hzx
    refine step_append_run rfl _ _ 22 rfl (f 2) _ v' (eval_at q2) (eval_at qs_) r1 ?_
    obtain ⟨q_, c_, hv', _⟩ := own_form r2
    exact ha v' w' ⟨q_, c_, by rw [hv']; simp⟩ ((Below.refl _ _).grown r3 hzx (fun k hk => (World.ownsRow.lt ho k hk).1)) (hH.s5 r3 r2 r4 k2 hnd')
  | 6, _ =>
    obtain rfl : e7o6 = o := Option.some.inj (show e7Ops[6]? = some _ from ho)
    refine inv_val (G := fun u V => u = .slice (some ⟨x.heap.size, 0, none⟩) 2 2 ∧ x.alloc (.cells #[.int .u32 0, .int .u32 0] 46) = V) (R := fun _ _ => True) (wanted_none rfl) (v := .slice (some ⟨x.heap.size, 0, none⟩) 2 2) (w2 := x.alloc (.cells #[.int .u32 0, .int .u32 0] 46)) (by simp only [execOp, e7o6]; go_simp) ?_ ⟨rfl, rfl⟩ trivial
    rintro _ _ ⟨rfl, rfl⟩ _
    exact ha _ _ (⟨_, rfl⟩) ((Below.refl _ _).alloc hzx _) (hH.s6 (bl_alloc _ _) (own_lit x w.drew.heap.size [0, 0] _ rfl hzx (by simp)) rfl)
  | 7, _ =>
    obtain rfl : e7o7 = o := Option.some.inj (show e7Ops[7]? = some _ from ho)
    obtain ⟨t5, g5⟩ := dep 5 (by kernel_rfl)
    have q5 := t5 40 (by rfl)
    have k5 := kd 5 (by decide) (by kernel_rfl)
    have k6 := kd 6 (by decide) (by kernel_rfl)
    have ho : Own x w.drew.heap.size 46 .u32 (f 5) (A) := hH.rw.1 5 (by simp [alive, k5, hnd'])
    obtain ⟨t6, g6⟩ := dep 6 (by kernel_rfl)
    have q6 := t6 41 (by rfl)
    obtain ⟨g_, e6⟩ : ∃ g, f 6 = .slice (some ⟨g, 0, none⟩) 2 2 := g6
    rw [e6] at q6
    have qs_ := q6
    have o6 : Own x w.drew.heap.size 46 .u32 (f 6) [0, 0] := hH.rw.1 6 (by simp [alive, k6, hnd'])
    rw [e6] at o6
    have hs_ : Sl x .u32 (some ⟨g_, 0, none⟩) [0, 0] := by obtain ⟨p_, c_, ee, _, _, _, hs2, _⟩ := own_form o6; simp only [Value.slice.injEq] at ee; rw [ee.1]; exact hs2
    have hq_ : (some (⟨g_, 0, none⟩ : Addr) = none) → 2 = 0 := fun e => by cases e
    obtain ⟨v', w', r1, r2, r3, r4⟩ := run_joinA 22 ho hs_ hq_ (by simp; omega) hzx
    refine step_append_run rfl _ _ 22 rfl (f 5) _ v' (eval_at q5) (eval_at qs_) r1 ?_
    obtain ⟨q_, c_, hv', _⟩ := own_form r2
    exact ha v' w' ⟨q_, c_, by rw [hv']; simp⟩ ((Below.refl _ _).grown r3 hzx (fun k hk => (World.ownsRow.lt ho k hk).1)) (hH.s7 r3 r2 r4 k5 k6 hnd')
  | 8, _ =>
    obtain rfl : e7o8 = o := Option.some.inj (show e7Ops[8]? = some _ from ho)
    obtain ⟨t7, g7⟩ := dep 7 (by kernel_rfl)
    have q7 := t7 42 (by rfl)
    obtain ⟨q_, c_, e7⟩ : ∃ q c, f 7 = .slice q (A.length + 2) c := g7
    rw [e7] at q7
    have w7 := eval_at q7
    refine inv_val (G := fun u V => u = .agg #[.slice q_ (A.length + 2) c_] ∧ x = V) (R := fun _ _ => True) (wanted_none rfl) (v := .agg #[.slice q_ (A.length + 2) c_]) (w2 := x) (by simp only [execOp, e7o8]; go_simp) ?_ ⟨rfl, rfl⟩ trivial
    rintro _ _ ⟨rfl, rfl⟩ _
    exact ha _ _ (⟨_, _, rfl⟩) (Below.refl _ _) (hH.s8 (Below.refl _ _) (kd 7 (by decide) (by kernel_rfl)) (by rw [e7]))
  | 9, _ =>
    obtain rfl : e7o9 = o := Option.some.inj (show e7Ops[9]? = some _ from ho)
    refine inv_val (G := fun u V => u = .slice (some ⟨x.heap.size, 0, none⟩) 2 2 ∧ x.alloc (.cells #[.int .u32 0, .int .u32 4294967295] 46) = V) (R := fun _ _ => True) (wanted_none rfl) (v := .slice (some ⟨x.heap.size, 0, none⟩) 2 2) (w2 := x.alloc (.cells #[.int .u32 0, .int .u32 4294967295] 46)) (by simp only [execOp, e7o9]; go_simp) ?_ ⟨rfl, rfl⟩ trivial
    rintro _ _ ⟨rfl, rfl⟩ _
    exact ha _ _ (⟨_, rfl⟩) ((Below.refl _ _).alloc hzx _) (hH.s9 (bl_alloc _ _) (own_lit x w.drew.heap.size [0, 4294967295] _ rfl hzx (by simp)) rfl)
  | 10, _ =>
    obtain rfl : e7o10 = o := Option.some.inj (show e7Ops[10]? = some _ from ho)
    have qb := eval_at (bv h4 (by kernel_rfl))
    refine inv_val (G := fun u V => u = .pointer (some ⟨ba, 0, none⟩) ∧ x = V) (R := fun _ _ => True) (wanted_none rfl) (v := .pointer (some ⟨ba, 0, none⟩)) (w2 := x) (by simp only [execOp, e7o10, qb]; go_simp) ?_ ⟨rfl, rfl⟩ trivial
    rintro _ _ ⟨rfl, rfl⟩ _
    exact ha _ _ (rfl) (Below.refl _ _) (hH.pure (Below.refl _ _) (by decide) (by decide) (by decide) (by decide) (by decide) (by decide) (by decide) (by decide) (by decide))
  | 11, _ =>
    obtain rfl : e7o11 = o := Option.some.inj (show e7Ops[11]? = some _ from ho)
    obtain ⟨t10, g10⟩ := dep 10 (by kernel_rfl)
    have q10 := t10 45 (by rfl)
    have e10 : f 10 = .pointer (some ⟨ba, 0, none⟩) := g10
    rw [e10] at q10
    have w10 := eval_at q10
    refine inv_val (G := fun u V => u = .slice qa A.length ca ∧ x = V) (R := fun _ _ => True) (wanted_none rfl) (v := .slice qa A.length ca) (w2 := x) (by simp only [execOp, e7o11, w10]; go_simp) ?_ ⟨rfl, rfl⟩ trivial
    rintro _ _ ⟨rfl, rfl⟩ _
    exact ha _ _ (rfl) (Below.refl _ _) (hH.pure (Below.refl _ _) (by decide) (by decide) (by decide) (by decide) (by decide) (by decide) (by decide) (by decide) (by decide))
  | 12, _ =>
    obtain rfl : e7o12 = o := Option.some.inj (show e7Ops[12]? = some _ from ho)
    obtain ⟨t9, g9⟩ := dep 9 (by kernel_rfl)
    have q9 := t9 44 (by rfl)
    have k9 := kd 9 (by decide) (by kernel_rfl)
    have k7 := kd 7 (by decide) (by kernel_rfl)
    have ho : Own x w.drew.heap.size 46 .u32 (f 9) ([0, 4294967295]) := hH.rw.1 9 (by simp [alive, k9, hnd'])
    obtain ⟨t11, g11⟩ := dep 11 (by kernel_rfl)
    have q11 := t11 46 (by rfl)
    have e11 : f 11 = .slice qa A.length ca := g11
    rw [e11] at q11
    have qs_ := q11
    have hs_ := kA
    have hq_ := hq
    obtain ⟨v', w', r1, r2, r3, r4⟩ := run_joinA 22 ho hs_ hq_ (by simp; omega) hzx
    refine step_append_run rfl _ _ 22 rfl (f 9) _ v' (eval_at q9) (eval_at qs_) r1 ?_
    obtain ⟨q_, c_, hv', _⟩ := own_form r2
    exact ha v' w' ⟨q_, c_, by rw [hv']; simp⟩ ((Below.refl _ _).grown r3 hzx (fun k hk => (World.ownsRow.lt ho k hk).1)) (hH.s12 r3 r2 r4 k9 k7 hnd')
  | 13, _ =>
    obtain rfl : e7o13 = o := Option.some.inj (show e7Ops[13]? = some _ from ho)
    obtain ⟨t12, g12⟩ := dep 12 (by kernel_rfl)
    have q12 := t12 47 (by rfl)
    obtain ⟨q_, c_, e12⟩ : ∃ q c, f 12 = .slice q (A.length + 2) c := g12
    rw [e12] at q12
    have w12 := eval_at q12
    refine inv_val (G := fun u V => u = .agg #[.slice q_ (A.length + 2) c_] ∧ x = V) (R := fun _ _ => True) (wanted_none rfl) (v := .agg #[.slice q_ (A.length + 2) c_]) (w2 := x) (by simp only [execOp, e7o13]; go_simp) ?_ ⟨rfl, rfl⟩ trivial
    rintro _ _ ⟨rfl, rfl⟩ _
    exact ha _ _ (⟨_, _, rfl⟩) (Below.refl _ _) (hH.s13 (Below.refl _ _) (kd 12 (by decide) (by kernel_rfl)) (by rw [e12]))
  | 14, _ =>
    obtain rfl : e7o14 = o := Option.some.inj (show e7Ops[14]? = some _ from ho)
    obtain ⟨t1, g1⟩ := dep 1 (by kernel_rfl)
    have q1 := t1 36 (by rfl)
    obtain ⟨t8, g8⟩ := dep 8 (by kernel_rfl)
    have q8 := t8 43 (by rfl)
    obtain ⟨t13, g13⟩ := dep 13 (by kernel_rfl)
    have q13 := t13 48 (by rfl)
    have e1 : f 1 = .agg #[.slice qa A.length ca] := g1
    obtain ⟨q8_, c8_, e8⟩ : ∃ q c, f 8 = .agg #[.slice q (A.length + 2) c] := g8
    obtain ⟨q13_, c13_, e13⟩ : ∃ q c, f 13 = .agg #[.slice q (A.length + 2) c] := g13
    have k8 := kd 8 (by decide) (by kernel_rfl)
    have k13 := kd 13 (by decide) (by kernel_rfl)
    have e7 : f 7 = .slice q8_ (A.length + 2) c8_ := by have := hH.e8 k8; rw [e8] at this; simpa using this.symm
    have e12 : f 12 = .slice q13_ (A.length + 2) c13_ := by have := hH.e13 k13; rw [e13] at this; simpa using this.symm
    rw [e1] at q1
    rw [e8] at q8
    rw [e13] at q13
    refine inv_val (G := fun u V => u = .slice (some ⟨x.heap.size, 0, none⟩) 3 3 ∧ x.alloc (.cells #[.slice qa A.length ca, .slice q8_ (A.length + 2) c8_, .slice q13_ (A.length + 2) c13_] 24) = V) (R := fun _ _ => True) (wanted_none rfl) (v := .slice (some ⟨x.heap.size, 0, none⟩) 3 3) (w2 := x.alloc (.cells #[.slice qa A.length ca, .slice q8_ (A.length + 2) c8_, .slice q13_ (A.length + 2) c13_] 24)) (by simp only [execOp, e7o14]; go_simp) ?_ ⟨rfl, rfl⟩ trivial
    rintro _ _ ⟨rfl, rfl⟩ _
    exact ha _ _ (⟨_, rfl⟩) ((Below.refl _ _).alloc hzx _) (hH.s14 (bl_alloc _ _) k8 k13 ⟨_, rfl, hzx, by rw [e7, e12]; exact Bx.new _ _ _⟩)
  | 15, _ => exact absurd (show e7Pre.getD 15 false = true from hp) (by decide)
  | 16, _ => exact absurd (show e7Pre.getD 16 false = true from hp) (by decide)
end Go.Proofs.YtcahnkocfbcchaaGreatDoor


namespace Go.Proofs.YtcahnkocfbcchaaGreatDoor
open Go.RowKit Tnd

theorem below_grown {w w' : World} (h : Below w.heap.size w w') : w.grownBy w' none := ⟨h.os, h.tape, h.output, h.size, fun k hk _ => h.block k hk⟩
theorem row_kept {w w' : World} {B n z : Nat} {T : TypeId} {v : Value} {xs : List Value} (h : w.ownsRow B T z v n xs) (hb : Below w.heap.size w w') : w'.ownsRow B T z v n xs := World.ownsRow.kept h (below_grown hb) (by cases e : v.ownBlock <;> simp)
theorem info_natz : (Tryz.prog.info? 24).map (fun i => (i.zero, i.size, i.bytes)) = some (some (.agg #[.slice none 0 0]), 1, 24) := by kernel_rfl
set_option maxHeartbeats 6400000 in
set_option maxRecDepth 100000 in
theorem e7_all {Q : Exit → Act → World → Prop} {a0 : Act} {w : World} (lv : Value) (qa : Option Addr) (ca ba : Nat) (A : List Nat) (BL nl : Nat) (cells : List Value) (hsize : a0.tmps.size = 211) (h2 : a0.tmps[2]? = some lv) (h4 : a0.tmps[4]? = some (.pointer (some ⟨ba, 0, none⟩))) (hc : w.drew.cell? ⟨ba, 0, none⟩ = some (.slice qa A.length ca)) (hA : Sl w.drew .u32 qa A) (hq : qa = none → ca = 0) (hl : A.length ≤ 1000)
    (ho : w.drew.ownsRow BL 24 1 lv nl cells) (hBL : BL ≤ w.drew.heap.size) (hnl : nl ≤ 1000)
    (fin : ∀ (f : Nat → Value) (v' : Value) (q7 q12 : Option Addr) (g c7 c12 : Nat) (w' : World), Own w' 0 46 .u32 (.slice q7 (A.length + 2) c7) (A ++ [0, 0]) → Own w' 0 46 .u32 (.slice q12 (A.length + 2) c12) ([0, 4294967295] ++ A) → w'.ownsRow BL 24 1 v' (nl + 3) (cells ++ [.slice qa A.length ca, .slice q7 (A.length + 2) c7, .slice q12 (A.length + 2) c12]) → w.drew.grownBy w' lv.ownBlock → Q .normal (((putL a0 [(35, lv), (36, f 1), (37, f 2), (38, f 3), (39, f 4), (40, f 5), (41, f 6), (42, f 7), (43, f 8), (44, f 9), (45, f 10), (46, f 11), (47, f 12), (48, f 13), (49, .slice (some ⟨g, 0, none⟩) 3 3)]).put (some 50) v').put (some 2) v') w') (id : Nat) :
    (Code.region id e7Ops true).wp Tryz.prog Q a0 w := by
  refine e7_wp lv qa ca ba A hsize h2 h4 hc hA hq hl ?_ id
  intro f y hk hb hH
  have o7 : Own y w.drew.heap.size 46 .u32 (f 7) (A ++ [0, 0]) := hH.rw.1 7 rfl
  have o12 : Own y w.drew.heap.size 46 .u32 (f 12) ([0, 4294967295] ++ A) := hH.rw.1 12 rfl
  obtain ⟨g, e14, hzg, hx⟩ := hH.e14 rfl
  have e0 : f 0 = lv := hk 0 (by decide) (by decide)
  obtain ⟨q7, c7, e7⟩ : ∃ q c, f 7 = .slice q (A.length + 2) c := hk 7 (by decide) (by decide)
  obtain ⟨q12, c12, e12⟩ : ∃ q c, f 12 = .slice q (A.length + 2) c := hk 12 (by decide) (by decide)
  have hoy := row_kept ho hb
  have hby : BL ≤ y.heap.size := Nat.le_trans hBL hb.size
  obtain ⟨i0, hinf, hz0, hz1, hz2⟩ := finfo_parts info_natz
  have hlt : ∀ k, lv.ownBlock = some k → k < w.drew.heap.size := fun k hk => (World.ownsRow.lt ho k hk).2
  obtain ⟨v', w', r1, r2, r3, _, _⟩ := run_append_own_at (P := Tryz.prog) (w := y) BL 38 38 24 i0 (.agg #[.slice none 0 0]) 1 24 Tryz.underlying38 hinf hz0 hz1 hz2 rfl (by decide) lv nl cells hoy ⟨g, 0, none⟩ 3 3 [.slice qa A.length ca, f 7, f 12] rfl (fun j u hj => by
      have e2 : (⟨g, 0, none⟩ : Addr).add j = ⟨g, j, none⟩ := by simp [Addr.add]; exact Eq.symm
      rw [e2]
      exact hx.cell (by simpa using hj)) (by rw [e7, e12]; intro u hu; simp only [List.mem_cons, List.not_mem_nil, or_false] at hu; rcases hu with rfl | rfl | rfl <;> rfl) (by simp only [maxLen]; omega) (by omega) hby
  have far : ∀ (v : Value) (l : List Nat), Own y w.drew.heap.size 46 .u32 v l → Own w' 0 46 .u32 v l := fun v l o => by
    refine own_down (World.ownsRow.kept o r3 ?_) (Nat.zero_le _)
    cases h : v.ownBlock with
    | none => exact .inl rfl
    | some k =>
      refine .inr fun e => ?_
      have h1 := (World.ownsRow.lt o k h).1
      have h2 := hlt k e.symm
      omega
  have p7 := far _ _ o7
  have p12 := far _ _ o12
  have hgr : w.drew.grownBy w' lv.ownBlock := ⟨r3.os.trans hb.os, r3.tape.trans hb.tape, r3.output.trans hb.output, Nat.le_trans hb.size r3.size, fun k hk hne => (r3.block k (Nat.lt_of_lt_of_le hk hb.size) hne).trans (hb.block k hk)⟩
  rw [e7, e12] at r2
  rw [e7] at p7
  rw [e12] at p12
  have fin' := fin f v' q7 q12 g c7 c12 w' p7 p12 r2 hgr
  rw [e0, e14]
  clear fin hk hH o7 o12 hx e0 e14 e7 e12 hoy far p7 p12 r2 r3 hgr hlt
  have H : Has 211 (putL a0 [(35, lv), (36, f 1), (37, f 2), (38, f 3), (39, f 4), (40, f 5), (41, f 6), (42, f 7), (43, f 8), (44, f 9), (45, f 10), (46, f 11), (47, f 12), (48, f 13), (49, .slice (some ⟨g, 0, none⟩) 3 3)]) [(35, lv), (49, .slice (some ⟨g, 0, none⟩) 3 3)] := by
    refine ⟨by rw [putL_size]; exact hsize, fun s v hm => ?_⟩
    have h1 := putL_get [(35, lv), (36, f 1), (37, f 2), (38, f 3), (39, f 4), (40, f 5), (41, f 6), (42, f 7), (43, f 8), (44, f 9), (45, f 10), (46, f 11), (47, f 12), (48, f 13), (49, .slice (some ⟨g, 0, none⟩) 3 3)] a0 s (by simp) (by rw [hsize]; simp)
    simp only [List.mem_cons, Prod.mk.injEq, List.not_mem_nil, or_false] at hm
    rcases hm with ⟨rfl, rfl⟩ | ⟨rfl, rfl⟩
    · exact h1.2 _ (by simp)
    · exact h1.2 _ (by simp)
  generalize putL a0 [(35, lv), (36, f 1), (37, f 2), (38, f 3), (39, f 4), (40, f 5), (41, f 6), (42, f 7), (43, f 8), (44, f 9), (45, f 10), (46, f 11), (47, f 12), (48, f 13), (49, .slice (some ⟨g, 0, none⟩) 3 3)] = a at H fin' ⊢
  refine any_one (i := 15) (o := e7o15) (by kernel_rfl) rfl ?_
  refine step_append_run rfl _ _ 38 rfl lv (.slice (some ⟨g, 0, none⟩) 3 3) v' (eval_at (H.2 35 lv (by simp))) (eval_at (H.2 49 (.slice (some ⟨g, 0, none⟩) 3 3) (by simp))) r1 ?_
  rw [show e7o15.dst = some 50 from rfl]
  have H := H.put 50 v' (by decide) (by simp)
  obtain ⟨a50, ha50⟩ : ∃ a_, a_ = a.put (some 50) v' := ⟨_, rfl⟩
  rw [← ha50] at H fin' ⊢
  clear ha50
  refine any_one (i := 16) (o := e7o16) (by kernel_rfl) rfl ?_
  have d50 := eval_at (H.2 50 v' (by simp))
  refine inv_val (G := fun u V => u = v' ∧ w' = V) (R := fun _ _ => True) (wanted_none rfl) (v := v') (w2 := w') (by simp only [execOp, e7o16, d50]; go_simp) ?_ ⟨rfl, rfl⟩ trivial
  rintro _ _ ⟨rfl, rfl⟩ _
  exact any_end (by kernel_rfl) fin' 0
def Kc.lst3 (u1 u2 u3 : Value) : Kc := ⟨fun v w => ∃ b : Nat, v = .slice (some ⟨b, 0, none⟩) 3 3 ∧ Bx w b 24 #[u1, u2, u3], fun ⟨b, h1, h2⟩ hb => ⟨b, h1, h2.below hb⟩⟩
def e14o0 : Oper := { dst := some 63, op := Op.move (Operand.tmp 2), type := 38, pos := "law.go:92", after := #[], guard := none }
def e14o1 : Oper := { dst := some 64, op := Op.move (Operand.tmp 5), type := 3, pos := "law.go:92", after := #[], guard := none }
def e14o2 : Oper := { dst := some 65, op := Op.indexAddr 38 (Operand.tmp 63) (Operand.tmp 64), type := 0, pos := "law.go:92", after := #[{ on := 0, ground := Ground.data }, { on := 1, ground := Ground.data }], guard := none }
def e14o3 : Oper := { dst := some 66, op := Op.load 24 (Operand.tmp 65), type := 24, pos := "law.go:92", after := #[{ on := 2, ground := Ground.data }], guard := none }
def e14o4 : Oper := { dst := some 67, op := Op.move (Operand.tmp 2), type := 38, pos := "law.go:92", after := #[], guard := none }
def e14o5 : Oper := { dst := some 68, op := Op.move (Operand.tmp 6), type := 3, pos := "law.go:92", after := #[], guard := none }
def e14o6 : Oper := { dst := some 69, op := Op.indexAddr 38 (Operand.tmp 67) (Operand.tmp 68), type := 0, pos := "law.go:92", after := #[{ on := 4, ground := Ground.data }, { on := 5, ground := Ground.data }], guard := none }
def e14o7 : Oper := { dst := some 70, op := Op.load 24 (Operand.tmp 69), type := 24, pos := "law.go:92", after := #[{ on := 6, ground := Ground.data }], guard := none }
def e14o8 : Oper := { dst := some 71, op := Op.move (Operand.tmp 1), type := 45, pos := "law.go:92", after := #[], guard := none }
def e14o9 : Oper := { dst := some 72, op := Op.move (Operand.tmp 5), type := 3, pos := "law.go:92", after := #[], guard := none }
def e14o10 : Oper := { dst := some 73, op := Op.move (Operand.tmp 6), type := 3, pos := "law.go:92", after := #[], guard := none }
def e14o11 : Oper := { dst := some 74, op := Op.binOp BinOp.add 3 (Operand.tmp 72) (Operand.tmp 73) 3, type := 3, pos := "law.go:92", after := #[{ on := 9, ground := Ground.data }, { on := 10, ground := Ground.data }], guard := none }
def e14o12 : Oper := { dst := some 75, op := Op.move (Operand.tmp 1), type := 45, pos := "law.go:92", after := #[], guard := none }
def e14o13 : Oper := { dst := some 76, op := Op.call { callee := Callee.builtin Builtin.len, args := #[Operand.tmp 75], argTypes := #[45] }, type := 3, pos := "law.go:92", after := #[{ on := 12, ground := Ground.data }], guard := none }
def e14o14 : Oper := { dst := some 77, op := Op.binOp BinOp.rem 3 (Operand.tmp 74) (Operand.tmp 76) 3, type := 3, pos := "law.go:92", after := #[{ on := 11, ground := Ground.data }, { on := 13, ground := Ground.data }], guard := none }
def e14o15 : Oper := { dst := some 78, op := Op.indexAddr 45 (Operand.tmp 71) (Operand.tmp 77), type := 0, pos := "law.go:92", after := #[{ on := 8, ground := Ground.data }, { on := 14, ground := Ground.data }], guard := none }
def e14o16 : Oper := { dst := some 79, op := Op.load 25 (Operand.tmp 78), type := 25, pos := "law.go:92", after := #[{ on := 15, ground := Ground.data }], guard := none }
def e14o17 : Oper := { dst := some 80, op := Op.call { callee := Callee.value (Operand.func 3), args := #[Operand.tmp 66, Operand.tmp 70, Operand.tmp 79], argTypes := #[24, 24, 25] }, type := 4, pos := "law.go:92", after := #[{ on := 3, ground := Ground.data }, { on := 7, ground := Ground.data }, { on := 16, ground := Ground.data }], guard := none }
def e14o18 : Oper := { dst := some 81, op := Op.unOp UnOp.not 4 (Operand.tmp 80), type := 4, pos := "law.go:92", after := #[{ on := 17, ground := Ground.data }], guard := none }
def e14o19 : Oper := { dst := some 82, op := Op.move (Operand.tmp 81), type := 4, pos := "law.go:92", after := #[{ on := 18, ground := Ground.data }, { on := 17, ground := Ground.chain }], guard := none }
def e14o20 : Oper := { dst := some 83, op := Op.move (Operand.tmp 2), type := 38, pos := "law.go:92", after := #[{ on := 19, ground := Ground.guard }], guard := some (19, false) }
def e14o21 : Oper := { dst := some 84, op := Op.move (Operand.tmp 5), type := 3, pos := "law.go:92", after := #[{ on := 19, ground := Ground.guard }], guard := some (19, false) }
def e14o22 : Oper := { dst := some 85, op := Op.indexAddr 38 (Operand.tmp 83) (Operand.tmp 84), type := 0, pos := "law.go:92", after := #[{ on := 20, ground := Ground.data }, { on := 21, ground := Ground.data }, { on := 19, ground := Ground.guard }], guard := some (19, false) }
def e14o23 : Oper := { dst := some 86, op := Op.load 24 (Operand.tmp 85), type := 24, pos := "law.go:92", after := #[{ on := 22, ground := Ground.data }, { on := 19, ground := Ground.guard }], guard := some (19, false) }
def e14o24 : Oper := { dst := some 87, op := Op.move (Operand.tmp 2), type := 38, pos := "law.go:92", after := #[{ on := 19, ground := Ground.guard }], guard := some (19, false) }
def e14o25 : Oper := { dst := some 88, op := Op.move (Operand.tmp 6), type := 3, pos := "law.go:92", after := #[{ on := 19, ground := Ground.guard }], guard := some (19, false) }
def e14o26 : Oper := { dst := some 89, op := Op.indexAddr 38 (Operand.tmp 87) (Operand.tmp 88), type := 0, pos := "law.go:92", after := #[{ on := 24, ground := Ground.data }, { on := 25, ground := Ground.data }, { on := 19, ground := Ground.guard }], guard := some (19, false) }
def e14o27 : Oper := { dst := some 90, op := Op.load 24 (Operand.tmp 89), type := 24, pos := "law.go:92", after := #[{ on := 26, ground := Ground.data }, { on := 19, ground := Ground.guard }], guard := some (19, false) }
def e14o28 : Oper := { dst := some 91, op := Op.move (Operand.tmp 2), type := 38, pos := "law.go:92", after := #[{ on := 19, ground := Ground.guard }], guard := some (19, false) }
def e14o29 : Oper := { dst := some 92, op := Op.move (Operand.tmp 5), type := 3, pos := "law.go:92", after := #[{ on := 19, ground := Ground.guard }], guard := some (19, false) }
def e14o30 : Oper := { dst := some 93, op := Op.move (Operand.tmp 6), type := 3, pos := "law.go:92", after := #[{ on := 19, ground := Ground.guard }], guard := some (19, false) }
def e14o31 : Oper := { dst := some 94, op := Op.binOp BinOp.add 3 (Operand.tmp 92) (Operand.tmp 93) 3, type := 3, pos := "law.go:92", after := #[{ on := 29, ground := Ground.data }, { on := 30, ground := Ground.data }, { on := 19, ground := Ground.guard }], guard := some (19, false) }
def e14o32 : Oper := { dst := some 95, op := Op.move (Operand.tmp 2), type := 38, pos := "law.go:92", after := #[{ on := 19, ground := Ground.guard }], guard := some (19, false) }
def e14o33 : Oper := { dst := some 96, op := Op.call { callee := Callee.builtin Builtin.len, args := #[Operand.tmp 95], argTypes := #[38] }, type := 3, pos := "law.go:92", after := #[{ on := 32, ground := Ground.data }, { on := 19, ground := Ground.guard }], guard := some (19, false) }
def e14o34 : Oper := { dst := some 97, op := Op.binOp BinOp.rem 3 (Operand.tmp 94) (Operand.tmp 96) 3, type := 3, pos := "law.go:92", after := #[{ on := 31, ground := Ground.data }, { on := 33, ground := Ground.data }, { on := 19, ground := Ground.guard }], guard := some (19, false) }
def e14o35 : Oper := { dst := some 98, op := Op.indexAddr 38 (Operand.tmp 91) (Operand.tmp 97), type := 0, pos := "law.go:92", after := #[{ on := 28, ground := Ground.data }, { on := 34, ground := Ground.data }, { on := 19, ground := Ground.guard }], guard := some (19, false) }
def e14o36 : Oper := { dst := some 99, op := Op.load 24 (Operand.tmp 98), type := 24, pos := "law.go:92", after := #[{ on := 35, ground := Ground.data }, { on := 19, ground := Ground.guard }], guard := some (19, false) }
def e14o37 : Oper := { dst := some 100, op := Op.buildSlice 38 3 #[(0, Operand.tmp 86), (1, Operand.tmp 90), (2, Operand.tmp 99)], type := 38, pos := "law.go:92", after := #[{ on := 23, ground := Ground.data }, { on := 27, ground := Ground.data }, { on := 36, ground := Ground.data }, { on := 19, ground := Ground.guard }], guard := some (19, false) }
def e14o38 : Oper := { dst := some 101, op := Op.call { callee := Callee.value (Operand.func 26), args := #[Operand.tmp 100], argTypes := #[38] }, type := 4, pos := "law.go:92", after := #[{ on := 37, ground := Ground.data }, { on := 19, ground := Ground.chain }, { on := 19, ground := Ground.guard }], guard := some (19, false) }
def e14o39 : Oper := { dst := some 102, op := Op.unOp UnOp.not 4 (Operand.tmp 101), type := 4, pos := "law.go:92", after := #[{ on := 38, ground := Ground.data }, { on := 19, ground := Ground.guard }], guard := some (19, false) }
def e14o40 : Oper := { dst := some 103, op := Op.pick (Operand.tmp 82) (Operand.const (Value.bool true)) (Operand.tmp 102), type := 4, pos := "law.go:92", after := #[{ on := 19, ground := Ground.data }, { on := 39, ground := Ground.data }], guard := none }
def e14Ops : Array Oper := #[e14o0, e14o1, e14o2, e14o3, e14o4, e14o5, e14o6, e14o7, e14o8, e14o9, e14o10, e14o11, e14o12, e14o13, e14o14, e14o15, e14o16, e14o17, e14o18, e14o19, e14o20, e14o21, e14o22, e14o23, e14o24, e14o25, e14o26, e14o27, e14o28, e14o29, e14o30, e14o31, e14o32, e14o33, e14o34, e14o35, e14o36, e14o37, e14o38, e14o39, e14o40]
def e14Pre : Array Bool := #[true, true, true, true, true, true, true, true, true, true, true, true, true, true, true, true, true, true, true, true, true, true, true, true, true, true, true, true, true, true, true, true, true, true, true, true, true, true, true, true, true]
def e14K (q1 q2 q3 : Option Addr) (gl cl n m1 c1 m2 c2 m3 c3 bn i_ k_ r1 r2 nn : Nat) : Nat → Kc
  | 0 => Kc.val (.slice (some ⟨gl, 0, none⟩) n cl)
  | 1 => Kc.val (.int .i64 ((i_ : Nat) : Int))
  | 2 => Kc.val (.pointer (some ⟨gl, i_, none⟩))
  | 3 => Kc.val (.agg #[.slice q1 m1 c1])
  | 4 => Kc.val (.slice (some ⟨gl, 0, none⟩) n cl)
  | 5 => Kc.val (.int .i64 ((k_ : Nat) : Int))
  | 6 => Kc.val (.pointer (some ⟨gl, k_, none⟩))
  | 7 => Kc.val (.agg #[.slice q2 m2 c2])
  | 8 => Kc.val (.slice (some ⟨bn, 0, none⟩) 11 11)
  | 9 => Kc.val (.int .i64 ((i_ : Nat) : Int))
  | 10 => Kc.val (.int .i64 ((k_ : Nat) : Int))
  | 11 => Kc.val (.int .i64 ((i_ + k_ : Nat) : Int))
  | 12 => Kc.val (.slice (some ⟨bn, 0, none⟩) 11 11)
  | 13 => Kc.val (.int .i64 11)
  | 14 => Kc.val (.int .i64 ((r1 : Nat) : Int))
  | 15 => Kc.val (.pointer (some ⟨bn, r1, none⟩))
  | 16 => Kc.val (.int .u64 (nn : Nat))
  | 17 => Kc.val (.bool true)
  | 18 => Kc.val (.bool false)
  | 19 => Kc.val (.bool false)
  | 20 => Kc.val (.slice (some ⟨gl, 0, none⟩) n cl)
  | 21 => Kc.val (.int .i64 ((i_ : Nat) : Int))
  | 22 => Kc.val (.pointer (some ⟨gl, i_, none⟩))
  | 23 => Kc.val (.agg #[.slice q1 m1 c1])
  | 24 => Kc.val (.slice (some ⟨gl, 0, none⟩) n cl)
  | 25 => Kc.val (.int .i64 ((k_ : Nat) : Int))
  | 26 => Kc.val (.pointer (some ⟨gl, k_, none⟩))
  | 27 => Kc.val (.agg #[.slice q2 m2 c2])
  | 28 => Kc.val (.slice (some ⟨gl, 0, none⟩) n cl)
  | 29 => Kc.val (.int .i64 ((i_ : Nat) : Int))
  | 30 => Kc.val (.int .i64 ((k_ : Nat) : Int))
  | 31 => Kc.val (.int .i64 ((i_ + k_ : Nat) : Int))
  | 32 => Kc.val (.slice (some ⟨gl, 0, none⟩) n cl)
  | 33 => Kc.val (.int .i64 ((n : Nat) : Int))
  | 34 => Kc.val (.int .i64 ((r2 : Nat) : Int))
  | 35 => Kc.val (.pointer (some ⟨gl, r2, none⟩))
  | 36 => Kc.val (.agg #[.slice q3 m3 c3])
  | 37 => Kc.lst3 (.slice q1 m1 c1) (.slice q2 m2 c2) (.slice q3 m3 c3)
  | 38 => Kc.val (.bool true)
  | 39 => Kc.val (.bool false)
  | 40 => Kc.val (.bool false)
  | _ => Kc.val undef
theorem e14_slots (f : Nat → Value) : slotsOf e14Ops e14Pre f = [(63, f 0), (64, f 1), (65, f 2), (66, f 3), (67, f 4), (68, f 5), (69, f 6), (70, f 7), (71, f 8), (72, f 9), (73, f 10), (74, f 11), (75, f 12), (76, f 13), (77, f 14), (78, f 15), (79, f 16), (80, f 17), (81, f 18), (82, f 19), (83, f 20), (84, f 21), (85, f 22), (86, f 23), (87, f 24), (88, f 25), (89, f 26), (90, f 27), (91, f 28), (92, f 29), (93, f 30), (94, f 31), (95, f 32), (96, f 33), (97, f 34), (98, f 35), (99, f 36), (100, f 37), (101, f 38), (102, f 39), (103, f 40)] := by kernel_rfl
set_option maxHeartbeats 6400000 in
set_option maxRecDepth 100000 in
theorem e14_wp {Q : Exit → Act → World → Prop} {a0 : Act} {w : World} (q1 q2 q3 : Option Addr) (gl cl n m1 c1 m2 c2 m3 c3 bn i_ k_ r1 r2 nn : Nat) (hsize : a0.tmps.size = 211) (h1 : a0.tmps[1]? = some (.slice (some ⟨bn, 0, none⟩) 11 11))
    (h2 : a0.tmps[2]? = some (.slice (some ⟨gl, 0, none⟩) n cl))
    (h5 : a0.tmps[5]? = some (.int .i64 ((i_ : Nat) : Int)))
    (h6 : a0.tmps[6]? = some (.int .i64 ((k_ : Nat) : Int)))
    (hi_ : i_ < n) (hk_ : k_ < n) (hn : n ≤ 1000) (hr1 : Hid (r1 = (i_ + k_) % 11)) (hr2 : Hid (r2 = (i_ + k_) % n))
    (hc1 : w.drew.cell? ⟨gl, i_, none⟩ = some (.slice q1 m1 c1))
    (hc2 : w.drew.cell? ⟨gl, k_, none⟩ = some (.slice q2 m2 c2))
    (hc3 : w.drew.cell? ⟨gl, r2, none⟩ = some (.slice q3 m3 c3))
    (hcn : w.drew.cell? ⟨bn, r1, none⟩ = some (.int .u64 (nn : Nat)))
    (hT : ∀ V, Below w.drew.heap.size w.drew V → Calls Tryz.prog 3 #[.agg #[.slice q1 m1 c1], .agg #[.slice q2 m2 c2], .int .u64 (nn : Nat)] V fun e w' => e = .returned (.bool true) ∧ Below V.heap.size V w')
    (hS : ∀ (V : World) (b : Nat), Below w.drew.heap.size w.drew V → Bx V b 24 #[.slice q1 m1 c1, .slice q2 m2 c2, .slice q3 m3 c3] → Calls Tryz.prog 26 #[.slice (some ⟨b, 0, none⟩) 3 3] V fun e w' => e = .returned (.bool true) ∧ Below V.heap.size V w')
    (fin : ∀ (f : Nat → Value) (y : World), (∀ j, j < 41 → e14Pre.getD j false = true → (e14K q1 q2 q3 gl cl n m1 c1 m2 c2 m3 c3 bn i_ k_ r1 r2 nn j).P (f j) y) → Below w.drew.heap.size w.drew y → Q .normal (putL a0 [(63, f 0), (64, f 1), (65, f 2), (66, f 3), (67, f 4), (68, f 5), (69, f 6), (70, f 7), (71, f 8), (72, f 9), (73, f 10), (74, f 11), (75, f 12), (76, f 13), (77, f 14), (78, f 15), (79, f 16), (80, f 17), (81, f 18), (82, f 19), (83, f 20), (84, f 21), (85, f 22), (86, f 23), (87, f 24), (88, f 25), (89, f 26), (90, f 27), (91, f 28), (92, f 29), (93, f 30), (94, f 31), (95, f 32), (96, f 33), (97, f 34), (98, f 35), (99, f 36), (100, f 37), (101, f 38), (102, f 39), (103, f 40)]) y) (id : Nat) :
    (Code.region id e14Ops true).wp Tryz.prog Q a0 w := by
  refine wp_region_inv e14Pre (fun j => (e14K q1 q2 q3 gl cl n m1 c1 m2 c2 m3 c3 bn i_ k_ r1 r2 nn j).P) (fun x y => Below x.heap.size x y) 41 0 (by kernel_rfl) (by kernel_rfl) (by rw [hsize]; kernel_rfl) (by kernel_rfl) (by kernel_rfl) (Below.refl _ _) (fun _ _ _ h1 h2 => bl_trans h1 h2) (fun j _ _ _ h1 h2 => (e14K q1 q2 q3 gl cl n m1 c1 m2 c2 m3 c3 bn i_ k_ r1 r2 nn j).keep h1 h2) ?_ (fun f y h1 h2 => by rw [e14_slots]; exact any_end (by kernel_rfl) (fin f y h1 h2) 0)
  intro i o ho hp f a x hR hbase hdeps K hK
  have hi : i < 41 := by
    rcases Nat.lt_or_ge i 41 with h | h
    · exact h
    · have : e14Ops.size ≤ i := h
      rw [Array.getElem?_eq_none this] at ho; cases ho
  have dep : ∀ j, (o.after.any fun e => Region.binds .any e && e.on == j) = true → (∀ s, slotOf e14Ops j = some s → a.tmps[s]? = some (f j)) ∧ (e14K q1 q2 q3 gl cl n m1 c1 m2 c2 m3 c3 bn i_ k_ r1 r2 nn j).P (f j) x := by
    intro j h
    obtain ⟨e, he, h2⟩ := Array.any_eq_true'.1 h
    simp only [Bool.and_eq_true, beq_iff_eq] at h2
    obtain ⟨h3, rfl⟩ := h2
    exact hdeps e he h3
  have dv : ∀ (j s : Nat) {v : Value}, (o.after.any fun e => Region.binds .any e && e.on == j) = true → slotOf e14Ops j = some s → e14K q1 q2 q3 gl cl n m1 c1 m2 c2 m3 c3 bn i_ k_ r1 r2 nn j = Kc.val v → a.tmps[s]? = some v := fun j s v h1 h2 h3 => by
    obtain ⟨t, g⟩ := dep j h1
    rw [h3] at g
    have e : f j = v := g
    rw [← e]; exact t s h2
  have bv : ∀ {s : Nat} {v : Value}, a0.tmps[s]? = some v → ((List.range e14Ops.size).all fun j => slotOf e14Ops j != some s) = true → a.tmps[s]? = some v := by
    intro s v h0 h
    rw [hbase s fun j hj _ e => ?_]; exact h0
    have h2 := (List.all_eq_true.1 h) j (List.mem_range.2 hj)
    rw [e] at h2; simp at h2
  match i, hi with
  | 0, _ =>
    obtain rfl : e14o0 = o := Option.some.inj (show e14Ops[0]? = some _ from ho)
    have eb2 := eval_at (bv h2 (by kernel_rfl))
    exact inv_stay hK rfl (by simp only [execOp, e14o0, eb2]; go_simp) (wanted_none rfl)
  | 1, _ =>
    obtain rfl : e14o1 = o := Option.some.inj (show e14Ops[1]? = some _ from ho)
    have eb5 := eval_at (bv h5 (by kernel_rfl))
    exact inv_stay hK rfl (by simp only [execOp, e14o1, eb5]; go_simp) (wanted_none rfl)
  | 2, _ =>
    obtain rfl : e14o2 = o := Option.some.inj (show e14Ops[2]? = some _ from ho)
    have e0 := eval_at (dv 0 63 (by kernel_rfl) rfl rfl)
    have e1 := eval_at (dv 1 64 (by kernel_rfl) rfl rfl)
    have hiI : ((i_ : Nat) : Int) < ((n : Nat) : Int) := by omega
    have hkI : ((k_ : Nat) : Int) < ((n : Nat) : Int) := by omega
    have hrI : ((r2 : Nat) : Int) < ((n : Nat) : Int) := by have := Nat.mod_lt (i_ + k_) (show 0 < n by omega); have := hr2.out; omega
    have hr1I : ((r1 : Nat) : Int) < 11 := by have := Nat.mod_lt (i_ + k_) (show 0 < 11 by omega); have := hr1.out; omega
    exact inv_stay hK rfl (by simp only [execOp, e14o2, e0, e1]; go_simp) (wanted_none rfl)
  | 3, _ =>
    obtain rfl : e14o3 = o := Option.some.inj (show e14Ops[3]? = some _ from ho)
    have e2 := eval_at (dv 2 65 (by kernel_rfl) rfl rfl)
    have kcell := keep_cellK hR hc1
    exact inv_stay hK rfl (by simp only [execOp, e14o3, e2]; go_simp) (wanted_none rfl)
  | 4, _ =>
    obtain rfl : e14o4 = o := Option.some.inj (show e14Ops[4]? = some _ from ho)
    have eb2 := eval_at (bv h2 (by kernel_rfl))
    exact inv_stay hK rfl (by simp only [execOp, e14o4, eb2]; go_simp) (wanted_none rfl)
  | 5, _ =>
    obtain rfl : e14o5 = o := Option.some.inj (show e14Ops[5]? = some _ from ho)
    have eb6 := eval_at (bv h6 (by kernel_rfl))
    exact inv_stay hK rfl (by simp only [execOp, e14o5, eb6]; go_simp) (wanted_none rfl)
  | 6, _ =>
    obtain rfl : e14o6 = o := Option.some.inj (show e14Ops[6]? = some _ from ho)
    have e4 := eval_at (dv 4 67 (by kernel_rfl) rfl rfl)
    have e5 := eval_at (dv 5 68 (by kernel_rfl) rfl rfl)
    have hiI : ((i_ : Nat) : Int) < ((n : Nat) : Int) := by omega
    have hkI : ((k_ : Nat) : Int) < ((n : Nat) : Int) := by omega
    have hrI : ((r2 : Nat) : Int) < ((n : Nat) : Int) := by have := Nat.mod_lt (i_ + k_) (show 0 < n by omega); have := hr2.out; omega
    have hr1I : ((r1 : Nat) : Int) < 11 := by have := Nat.mod_lt (i_ + k_) (show 0 < 11 by omega); have := hr1.out; omega
    exact inv_stay hK rfl (by simp only [execOp, e14o6, e4, e5]; go_simp) (wanted_none rfl)
  | 7, _ =>
    obtain rfl : e14o7 = o := Option.some.inj (show e14Ops[7]? = some _ from ho)
    have e6 := eval_at (dv 6 69 (by kernel_rfl) rfl rfl)
    have kcell := keep_cellK hR hc2
    exact inv_stay hK rfl (by simp only [execOp, e14o7, e6]; go_simp) (wanted_none rfl)
  | 8, _ =>
    obtain rfl : e14o8 = o := Option.some.inj (show e14Ops[8]? = some _ from ho)
    have eb1 := eval_at (bv h1 (by kernel_rfl))
    exact inv_stay hK rfl (by simp only [execOp, e14o8, eb1]; go_simp) (wanted_none rfl)
  | 9, _ =>
    obtain rfl : e14o9 = o := Option.some.inj (show e14Ops[9]? = some _ from ho)
    have eb5 := eval_at (bv h5 (by kernel_rfl))
    exact inv_stay hK rfl (by simp only [execOp, e14o9, eb5]; go_simp) (wanted_none rfl)
  | 10, _ =>
    obtain rfl : e14o10 = o := Option.some.inj (show e14Ops[10]? = some _ from ho)
    have eb6 := eval_at (bv h6 (by kernel_rfl))
    exact inv_stay hK rfl (by simp only [execOp, e14o10, eb6]; go_simp) (wanted_none rfl)
  | 11, _ =>
    obtain rfl : e14o11 = o := Option.some.inj (show e14Ops[11]? = some _ from ho)
    have e9 := eval_at (dv 9 72 (by kernel_rfl) rfl rfl)
    have e10 := eval_at (dv 10 73 (by kernel_rfl) rfl rfl)
    have hw := IntWalk.i64_in ((i_ : Int) + (k_ : Int)) (by omega)
    have hb1 : (0 : Int) ≤ (i_ : Int) + (k_ : Int) := by omega
    have hb2 : (i_ : Int) + (k_ : Int) ≤ 9223372036854775807 := by omega
    have ee : (((i_ + k_ : Nat)) : Int) = (i_ : Int) + (k_ : Int) := by omega
    exact inv_stay hK (show Value.int .i64 ((i_ : Int) + (k_ : Int)) = _ by rw [ee]) (by simp only [execOp, e14o11, e9, e10]; go_simp) (wanted_none rfl)
  | 12, _ =>
    obtain rfl : e14o12 = o := Option.some.inj (show e14Ops[12]? = some _ from ho)
    have eb1 := eval_at (bv h1 (by kernel_rfl))
    exact inv_stay hK rfl (by simp only [execOp, e14o12, eb1]; go_simp) (wanted_none rfl)
  | 13, _ =>
    obtain rfl : e14o13 = o := Option.some.inj (show e14Ops[13]? = some _ from ho)
    have q12 := dv 12 75 (by kernel_rfl) rfl rfl
    exact inv_stay hK rfl (by simp only [execOp, e14o13]; go_simp) (wanted_none rfl)
  | 14, _ =>
    obtain rfl : e14o14 = o := Option.some.inj (show e14Ops[14]? = some _ from ho)
    have e11 := eval_at (dv 11 74 (by kernel_rfl) rfl rfl)
    have e13 := eval_at (dv 13 76 (by kernel_rfl) rfl rfl)
    have hn0 : ¬ n = 0 := by omega
    have hb1 : (0 : Int) ≤ ((i_ + k_ : Nat) : Int) := by omega
    have hb2 : ((i_ + k_ : Nat) : Int) ≤ 9223372036854775807 := by omega
    have hmI : (0 : Int) < 11 := by omega
    have er : ((r1 : Nat) : Int) = (((i_ + k_ : Nat)) : Int) % 11 := by rw [hr1.out]; omega
    have er2 : Int.tmod (((i_ + k_ : Nat)) : Int) 11 = ((r1 : Nat) : Int) := by rw [er, Int.tmod_eq_emod_of_nonneg hb1]
    exact inv_stay hK rfl (by simp only [execOp, e14o14, e11, e13]; generalize ((i_ + k_ : Nat) : Int) = z at *; go_simp; try (rw [er2])) (wanted_none rfl)
  | 15, _ =>
    obtain rfl : e14o15 = o := Option.some.inj (show e14Ops[15]? = some _ from ho)
    have e8 := eval_at (dv 8 71 (by kernel_rfl) rfl rfl)
    have e14 := eval_at (dv 14 77 (by kernel_rfl) rfl rfl)
    have hiI : ((i_ : Nat) : Int) < ((n : Nat) : Int) := by omega
    have hkI : ((k_ : Nat) : Int) < ((n : Nat) : Int) := by omega
    have hrI : ((r2 : Nat) : Int) < ((n : Nat) : Int) := by have := Nat.mod_lt (i_ + k_) (show 0 < n by omega); have := hr2.out; omega
    have hr1I : ((r1 : Nat) : Int) < 11 := by have := Nat.mod_lt (i_ + k_) (show 0 < 11 by omega); have := hr1.out; omega
    exact inv_stay hK rfl (by simp only [execOp, e14o15, e8, e14]; go_simp) (wanted_none rfl)
  | 16, _ =>
    obtain rfl : e14o16 = o := Option.some.inj (show e14Ops[16]? = some _ from ho)
    have e15 := eval_at (dv 15 78 (by kernel_rfl) rfl rfl)
    have kcell := keep_cellK hR hcn
    exact inv_stay hK rfl (by simp only [execOp, e14o16, e15]; go_simp) (wanted_none rfl)
  | 17, _ =>
    obtain rfl : e14o17 = o := Option.some.inj (show e14Ops[17]? = some _ from ho)
    have q3 := dv 3 66 (by kernel_rfl) rfl rfl
    have q7 := dv 7 70 (by kernel_rfl) rfl rfl
    have q16 := dv 16 79 (by kernel_rfl) rfl rfl
    refine inv_enter 3 #[.agg #[.slice q1 m1 c1], .agg #[.slice q2 m2 c2], .int .u64 (nn : Nat)] hK (by simp [go_sem, e14o17, q3, q7, q16]) (wanted_none rfl) ?_
    refine (hT x hR).mono ?_
    rintro e y ⟨rfl, h⟩
    exact ⟨_, rfl, rfl, h⟩
  | 18, _ =>
    obtain rfl : e14o18 = o := Option.some.inj (show e14Ops[18]? = some _ from ho)
    have e17 := eval_at (dv 17 80 (by kernel_rfl) rfl rfl)
    exact inv_stay hK rfl (by simp only [execOp, e14o18, e17]; go_simp) (wanted_none rfl)
  | 19, _ =>
    obtain rfl : e14o19 = o := Option.some.inj (show e14Ops[19]? = some _ from ho)
    have e18 := eval_at (dv 18 81 (by kernel_rfl) rfl rfl)
    exact inv_stay hK rfl (by simp only [execOp, e14o19, e18]; go_simp) (wanted_none rfl)
  | 20, _ =>
    obtain rfl : e14o20 = o := Option.some.inj (show e14Ops[20]? = some _ from ho)
    have q19 := dv 19 82 (by kernel_rfl) rfl rfl
    have eb2 := eval_at (bv h2 (by kernel_rfl))
    exact inv_stay hK rfl (by simp only [execOp, e14o20, eb2]; go_simp) (wanted_t q19 rfl rfl)
  | 21, _ =>
    obtain rfl : e14o21 = o := Option.some.inj (show e14Ops[21]? = some _ from ho)
    have q19 := dv 19 82 (by kernel_rfl) rfl rfl
    have eb5 := eval_at (bv h5 (by kernel_rfl))
    exact inv_stay hK rfl (by simp only [execOp, e14o21, eb5]; go_simp) (wanted_t q19 rfl rfl)
  | 22, _ =>
    obtain rfl : e14o22 = o := Option.some.inj (show e14Ops[22]? = some _ from ho)
    have q19 := dv 19 82 (by kernel_rfl) rfl rfl
    have e20 := eval_at (dv 20 83 (by kernel_rfl) rfl rfl)
    have e21 := eval_at (dv 21 84 (by kernel_rfl) rfl rfl)
    have hiI : ((i_ : Nat) : Int) < ((n : Nat) : Int) := by omega
    have hkI : ((k_ : Nat) : Int) < ((n : Nat) : Int) := by omega
    have hrI : ((r2 : Nat) : Int) < ((n : Nat) : Int) := by have := Nat.mod_lt (i_ + k_) (show 0 < n by omega); have := hr2.out; omega
    have hr1I : ((r1 : Nat) : Int) < 11 := by have := Nat.mod_lt (i_ + k_) (show 0 < 11 by omega); have := hr1.out; omega
    exact inv_stay hK rfl (by simp only [execOp, e14o22, e20, e21]; go_simp) (wanted_t q19 rfl rfl)
  | 23, _ =>
    obtain rfl : e14o23 = o := Option.some.inj (show e14Ops[23]? = some _ from ho)
    have q19 := dv 19 82 (by kernel_rfl) rfl rfl
    have e22 := eval_at (dv 22 85 (by kernel_rfl) rfl rfl)
    have kcell := keep_cellK hR hc1
    exact inv_stay hK rfl (by simp only [execOp, e14o23, e22]; go_simp) (wanted_t q19 rfl rfl)
  | 24, _ =>
    obtain rfl : e14o24 = o := Option.some.inj (show e14Ops[24]? = some _ from ho)
    have q19 := dv 19 82 (by kernel_rfl) rfl rfl
    have eb2 := eval_at (bv h2 (by kernel_rfl))
    exact inv_stay hK rfl (by simp only [execOp, e14o24, eb2]; go_simp) (wanted_t q19 rfl rfl)
  | 25, _ =>
    obtain rfl : e14o25 = o := Option.some.inj (show e14Ops[25]? = some _ from ho)
    have q19 := dv 19 82 (by kernel_rfl) rfl rfl
    have eb6 := eval_at (bv h6 (by kernel_rfl))
    exact inv_stay hK rfl (by simp only [execOp, e14o25, eb6]; go_simp) (wanted_t q19 rfl rfl)
  | 26, _ =>
    obtain rfl : e14o26 = o := Option.some.inj (show e14Ops[26]? = some _ from ho)
    have q19 := dv 19 82 (by kernel_rfl) rfl rfl
    have e24 := eval_at (dv 24 87 (by kernel_rfl) rfl rfl)
    have e25 := eval_at (dv 25 88 (by kernel_rfl) rfl rfl)
    have hiI : ((i_ : Nat) : Int) < ((n : Nat) : Int) := by omega
    have hkI : ((k_ : Nat) : Int) < ((n : Nat) : Int) := by omega
    have hrI : ((r2 : Nat) : Int) < ((n : Nat) : Int) := by have := Nat.mod_lt (i_ + k_) (show 0 < n by omega); have := hr2.out; omega
    have hr1I : ((r1 : Nat) : Int) < 11 := by have := Nat.mod_lt (i_ + k_) (show 0 < 11 by omega); have := hr1.out; omega
    exact inv_stay hK rfl (by simp only [execOp, e14o26, e24, e25]; go_simp) (wanted_t q19 rfl rfl)
  | 27, _ =>
    obtain rfl : e14o27 = o := Option.some.inj (show e14Ops[27]? = some _ from ho)
    have q19 := dv 19 82 (by kernel_rfl) rfl rfl
    have e26 := eval_at (dv 26 89 (by kernel_rfl) rfl rfl)
    have kcell := keep_cellK hR hc2
    exact inv_stay hK rfl (by simp only [execOp, e14o27, e26]; go_simp) (wanted_t q19 rfl rfl)
  | 28, _ =>
    obtain rfl : e14o28 = o := Option.some.inj (show e14Ops[28]? = some _ from ho)
    have q19 := dv 19 82 (by kernel_rfl) rfl rfl
    have eb2 := eval_at (bv h2 (by kernel_rfl))
    exact inv_stay hK rfl (by simp only [execOp, e14o28, eb2]; go_simp) (wanted_t q19 rfl rfl)
  | 29, _ =>
    obtain rfl : e14o29 = o := Option.some.inj (show e14Ops[29]? = some _ from ho)
    have q19 := dv 19 82 (by kernel_rfl) rfl rfl
    have eb5 := eval_at (bv h5 (by kernel_rfl))
    exact inv_stay hK rfl (by simp only [execOp, e14o29, eb5]; go_simp) (wanted_t q19 rfl rfl)
  | 30, _ =>
    obtain rfl : e14o30 = o := Option.some.inj (show e14Ops[30]? = some _ from ho)
    have q19 := dv 19 82 (by kernel_rfl) rfl rfl
    have eb6 := eval_at (bv h6 (by kernel_rfl))
    exact inv_stay hK rfl (by simp only [execOp, e14o30, eb6]; go_simp) (wanted_t q19 rfl rfl)
  | 31, _ =>
    obtain rfl : e14o31 = o := Option.some.inj (show e14Ops[31]? = some _ from ho)
    have q19 := dv 19 82 (by kernel_rfl) rfl rfl
    have e29 := eval_at (dv 29 92 (by kernel_rfl) rfl rfl)
    have e30 := eval_at (dv 30 93 (by kernel_rfl) rfl rfl)
    have hw := IntWalk.i64_in ((i_ : Int) + (k_ : Int)) (by omega)
    have hb1 : (0 : Int) ≤ (i_ : Int) + (k_ : Int) := by omega
    have hb2 : (i_ : Int) + (k_ : Int) ≤ 9223372036854775807 := by omega
    have ee : (((i_ + k_ : Nat)) : Int) = (i_ : Int) + (k_ : Int) := by omega
    exact inv_stay hK (show Value.int .i64 ((i_ : Int) + (k_ : Int)) = _ by rw [ee]) (by simp only [execOp, e14o31, e29, e30]; go_simp) (wanted_t q19 rfl rfl)
  | 32, _ =>
    obtain rfl : e14o32 = o := Option.some.inj (show e14Ops[32]? = some _ from ho)
    have q19 := dv 19 82 (by kernel_rfl) rfl rfl
    have eb2 := eval_at (bv h2 (by kernel_rfl))
    exact inv_stay hK rfl (by simp only [execOp, e14o32, eb2]; go_simp) (wanted_t q19 rfl rfl)
  | 33, _ =>
    obtain rfl : e14o33 = o := Option.some.inj (show e14Ops[33]? = some _ from ho)
    have q19 := dv 19 82 (by kernel_rfl) rfl rfl
    have q32 := dv 32 95 (by kernel_rfl) rfl rfl
    exact inv_stay hK rfl (by simp only [execOp, e14o33]; go_simp) (wanted_t q19 rfl rfl)
  | 34, _ =>
    obtain rfl : e14o34 = o := Option.some.inj (show e14Ops[34]? = some _ from ho)
    have q19 := dv 19 82 (by kernel_rfl) rfl rfl
    have e31 := eval_at (dv 31 94 (by kernel_rfl) rfl rfl)
    have e33 := eval_at (dv 33 96 (by kernel_rfl) rfl rfl)
    have hn0 : ¬ n = 0 := by omega
    have hb1 : (0 : Int) ≤ ((i_ + k_ : Nat) : Int) := by omega
    have hb2 : ((i_ + k_ : Nat) : Int) ≤ 9223372036854775807 := by omega
    have hmI : (0 : Int) < ((n : Nat) : Int) := by omega
    have er : ((r2 : Nat) : Int) = (((i_ + k_ : Nat)) : Int) % ((n : Nat) : Int) := by rw [hr2.out]; omega
    have er2 : Int.tmod (((i_ + k_ : Nat)) : Int) ((n : Nat) : Int) = ((r2 : Nat) : Int) := by rw [er, Int.tmod_eq_emod_of_nonneg hb1]
    exact inv_stay hK rfl (by simp only [execOp, e14o34, e31, e33]; generalize ((i_ + k_ : Nat) : Int) = z at *; go_simp; try (rw [er2])) (wanted_t q19 rfl rfl)
  | 35, _ =>
    obtain rfl : e14o35 = o := Option.some.inj (show e14Ops[35]? = some _ from ho)
    have q19 := dv 19 82 (by kernel_rfl) rfl rfl
    have e28 := eval_at (dv 28 91 (by kernel_rfl) rfl rfl)
    have e34 := eval_at (dv 34 97 (by kernel_rfl) rfl rfl)
    have hiI : ((i_ : Nat) : Int) < ((n : Nat) : Int) := by omega
    have hkI : ((k_ : Nat) : Int) < ((n : Nat) : Int) := by omega
    have hrI : ((r2 : Nat) : Int) < ((n : Nat) : Int) := by have := Nat.mod_lt (i_ + k_) (show 0 < n by omega); have := hr2.out; omega
    have hr1I : ((r1 : Nat) : Int) < 11 := by have := Nat.mod_lt (i_ + k_) (show 0 < 11 by omega); have := hr1.out; omega
    exact inv_stay hK rfl (by simp only [execOp, e14o35, e28, e34]; go_simp) (wanted_t q19 rfl rfl)
  | 36, _ =>
    obtain rfl : e14o36 = o := Option.some.inj (show e14Ops[36]? = some _ from ho)
    have q19 := dv 19 82 (by kernel_rfl) rfl rfl
    have e35 := eval_at (dv 35 98 (by kernel_rfl) rfl rfl)
    have kcell := keep_cellK hR hc3
    exact inv_stay hK rfl (by simp only [execOp, e14o36, e35]; go_simp) (wanted_t q19 rfl rfl)
  | 37, _ =>
    obtain rfl : e14o37 = o := Option.some.inj (show e14Ops[37]? = some _ from ho)
    have q19 := dv 19 82 (by kernel_rfl) rfl rfl
    have q23 := dv 23 86 (by kernel_rfl) rfl rfl
    have q27 := dv 27 90 (by kernel_rfl) rfl rfl
    have q36 := dv 36 99 (by kernel_rfl) rfl rfl
    refine inv_val (G := (e14K q1 q2 q3 gl cl n m1 c1 m2 c2 m3 c3 bn i_ k_ r1 r2 nn 37).P) (R := fun x y => Below x.heap.size x y) (wanted_t q19 rfl rfl) (v := .slice (some ⟨x.heap.size, 0, none⟩) 3 3) (w2 := x.alloc (.cells #[.slice q1 m1 c1, .slice q2 m2 c2, .slice q3 m3 c3] 24)) (by simp only [execOp, e14o37]; go_simp) hK ⟨_, rfl, Bx.new _ _ _⟩ (bl_alloc _ _)
  | 38, _ =>
    obtain rfl : e14o38 = o := Option.some.inj (show e14Ops[38]? = some _ from ho)
    have q19 := dv 19 82 (by kernel_rfl) rfl rfl
    obtain ⟨t37, g37⟩ := dep 37 (by kernel_rfl)
    have q37 := t37 100 (by rfl)
    have e37 := eval_at q37
    obtain ⟨b1, hv1, hx1⟩ : (Kc.lst3 (.slice q1 m1 c1) (.slice q2 m2 c2) (.slice q3 m3 c3)).P (f 37) x := g37
    rw [hv1] at q37
    refine inv_enter 26 #[.slice (some ⟨b1, 0, none⟩) 3 3] hK (by simp [go_sem, e14o38, q37]) (wanted_t q19 rfl rfl) ?_
    refine (hS x b1 hR hx1).mono ?_
    rintro e y ⟨rfl, h⟩
    exact ⟨_, rfl, rfl, h⟩
  | 39, _ =>
    obtain rfl : e14o39 = o := Option.some.inj (show e14Ops[39]? = some _ from ho)
    have q19 := dv 19 82 (by kernel_rfl) rfl rfl
    have e38 := eval_at (dv 38 101 (by kernel_rfl) rfl rfl)
    exact inv_stay hK rfl (by simp only [execOp, e14o39, e38]; go_simp) (wanted_t q19 rfl rfl)
  | 40, _ =>
    obtain rfl : e14o40 = o := Option.some.inj (show e14Ops[40]? = some _ from ho)
    have e19 := eval_at (dv 19 82 (by kernel_rfl) rfl rfl)
    have e39 := eval_at (dv 39 102 (by kernel_rfl) rfl rfl)
    exact inv_stay hK rfl (by simp only [execOp, e14o40, e19, e39]; go_simp) (wanted_none rfl)
def e34o0 : Oper := { dst := some 160, op := Op.move (Operand.tmp 12), type := 41, pos := "law.go:115", after := #[], guard := none }
def e34o1 : Oper := { dst := some 161, op := Op.binOp BinOp.eql 41 (Operand.tmp 160) (Operand.const (Value.int IntKind.i64 0)) 41, type := 4, pos := "law.go:115", after := #[{ on := 0, ground := Ground.data }], guard := none }
def e34o2 : Oper := { dst := some 162, op := Op.move (Operand.tmp 161), type := 4, pos := "law.go:115", after := #[{ on := 1, ground := Ground.data }], guard := none }
def e34o3 : Oper := { dst := some 163, op := Op.fieldAddr 24 (Operand.tmp 11) 0, type := 0, pos := "law.go:115", after := #[{ on := 2, ground := Ground.guard }], guard := some (2, true) }
def e34o4 : Oper := { dst := some 164, op := Op.load 22 (Operand.tmp 163), type := 22, pos := "law.go:115", after := #[{ on := 3, ground := Ground.data }, { on := 2, ground := Ground.guard }], guard := some (2, true) }
def e34o5 : Oper := { dst := some 165, op := Op.call { callee := Callee.builtin Builtin.len, args := #[Operand.tmp 164], argTypes := #[22] }, type := 3, pos := "law.go:115", after := #[{ on := 4, ground := Ground.data }, { on := 2, ground := Ground.guard }], guard := some (2, true) }
def e34o6 : Oper := { dst := some 166, op := Op.binOp BinOp.eql 3 (Operand.tmp 165) (Operand.const (Value.int IntKind.i64 2000)) 3, type := 4, pos := "law.go:115", after := #[{ on := 5, ground := Ground.data }, { on := 2, ground := Ground.guard }], guard := some (2, true) }
def e34o7 : Oper := { dst := some 167, op := Op.pick (Operand.tmp 162) (Operand.tmp 166) (Operand.const (Value.bool false)), type := 4, pos := "law.go:115", after := #[{ on := 2, ground := Ground.data }, { on := 6, ground := Ground.data }], guard := none }
def e34o8 : Oper := { dst := some 168, op := Op.move (Operand.tmp 167), type := 4, pos := "law.go:115", after := #[{ on := 7, ground := Ground.data }, { on := 2, ground := Ground.chain }], guard := none }
def e34o9 : Oper := { dst := some 169, op := Op.fieldAddr 24 (Operand.tmp 11) 0, type := 0, pos := "law.go:115", after := #[{ on := 8, ground := Ground.guard }], guard := some (8, true) }
def e34o10 : Oper := { dst := some 170, op := Op.load 22 (Operand.tmp 169), type := 22, pos := "law.go:115", after := #[{ on := 9, ground := Ground.data }, { on := 8, ground := Ground.guard }], guard := some (8, true) }
def e34o11 : Oper := { dst := some 171, op := Op.indexAddr 22 (Operand.tmp 170) (Operand.const (Value.int IntKind.i64 1999)), type := 0, pos := "law.go:115", after := #[{ on := 10, ground := Ground.data }, { on := 8, ground := Ground.guard }], guard := some (8, true) }
def e34o12 : Oper := { dst := some 172, op := Op.load 46 (Operand.tmp 171), type := 46, pos := "law.go:115", after := #[{ on := 11, ground := Ground.data }, { on := 8, ground := Ground.guard }], guard := some (8, true) }
def e34o13 : Oper := { dst := some 173, op := Op.binOp BinOp.eql 46 (Operand.tmp 172) (Operand.const (Value.int IntKind.u32 2147483648)) 46, type := 4, pos := "law.go:115", after := #[{ on := 12, ground := Ground.data }, { on := 8, ground := Ground.guard }], guard := some (8, true) }
def e34o14 : Oper := { dst := some 174, op := Op.pick (Operand.tmp 168) (Operand.tmp 173) (Operand.const (Value.bool false)), type := 4, pos := "law.go:115", after := #[{ on := 8, ground := Ground.data }, { on := 13, ground := Ground.data }], guard := none }
def e34o15 : Oper := { dst := some 175, op := Op.move (Operand.tmp 174), type := 4, pos := "law.go:115", after := #[{ on := 14, ground := Ground.data }, { on := 8, ground := Ground.chain }], guard := none }
def e34o16 : Oper := { dst := some 176, op := Op.move (Operand.tmp 14), type := 41, pos := "law.go:115", after := #[{ on := 15, ground := Ground.guard }], guard := some (15, true) }
def e34o17 : Oper := { dst := some 177, op := Op.binOp BinOp.eql 3 (Operand.tmp 176) (Operand.const (Value.int IntKind.i64 3)) 3, type := 4, pos := "law.go:115", after := #[{ on := 16, ground := Ground.data }, { on := 15, ground := Ground.guard }], guard := some (15, true) }
def e34o18 : Oper := { dst := some 178, op := Op.pick (Operand.tmp 175) (Operand.tmp 177) (Operand.const (Value.bool false)), type := 4, pos := "law.go:115", after := #[{ on := 15, ground := Ground.data }, { on := 17, ground := Ground.data }], guard := none }
def e34o19 : Oper := { dst := some 179, op := Op.move (Operand.tmp 178), type := 4, pos := "law.go:115", after := #[{ on := 18, ground := Ground.data }, { on := 15, ground := Ground.chain }], guard := none }
def e34o20 : Oper := { dst := some 180, op := Op.move (Operand.tmp 16), type := 41, pos := "law.go:115", after := #[{ on := 19, ground := Ground.guard }], guard := some (19, true) }
def e34o21 : Oper := { dst := some 181, op := Op.binOp BinOp.eql 3 (Operand.tmp 180) (Operand.const (Value.int IntKind.i64 3)) 3, type := 4, pos := "law.go:115", after := #[{ on := 20, ground := Ground.data }, { on := 19, ground := Ground.guard }], guard := some (19, true) }
def e34o22 : Oper := { dst := some 182, op := Op.pick (Operand.tmp 179) (Operand.tmp 181) (Operand.const (Value.bool false)), type := 4, pos := "law.go:115", after := #[{ on := 19, ground := Ground.data }, { on := 21, ground := Ground.data }], guard := none }
def e34o23 : Oper := { dst := some 183, op := Op.move (Operand.tmp 182), type := 4, pos := "law.go:115", after := #[{ on := 22, ground := Ground.data }, { on := 19, ground := Ground.chain }], guard := none }
def e34o24 : Oper := { dst := some 184, op := Op.move (Operand.tmp 18), type := 41, pos := "law.go:115", after := #[{ on := 23, ground := Ground.guard }], guard := some (23, true) }
def e34o25 : Oper := { dst := some 185, op := Op.binOp BinOp.eql 41 (Operand.tmp 184) (Operand.const (Value.int IntKind.i64 0)) 41, type := 4, pos := "law.go:115", after := #[{ on := 24, ground := Ground.data }, { on := 23, ground := Ground.guard }], guard := some (23, true) }
def e34o26 : Oper := { dst := some 186, op := Op.pick (Operand.tmp 183) (Operand.tmp 185) (Operand.const (Value.bool false)), type := 4, pos := "law.go:115", after := #[{ on := 23, ground := Ground.data }, { on := 25, ground := Ground.data }], guard := none }
def e34o27 : Oper := { dst := some 187, op := Op.move (Operand.tmp 186), type := 4, pos := "law.go:115", after := #[{ on := 26, ground := Ground.data }, { on := 23, ground := Ground.chain }], guard := none }
def e34o28 : Oper := { dst := some 188, op := Op.load 24 (Operand.tmp 17), type := 24, pos := "law.go:115", after := #[{ on := 27, ground := Ground.guard }], guard := some (27, true) }
def e34o29 : Oper := { dst := some 189, op := Op.call { callee := Callee.value (Operand.func 18), args := #[Operand.const (Value.int IntKind.u64 1)], argTypes := #[25] }, type := 24, pos := "law.go:115", after := #[{ on := 27, ground := Ground.chain }, { on := 27, ground := Ground.guard }], guard := some (27, true) }
def e34o30 : Oper := { dst := some 190, op := Op.call { callee := Callee.value (Operand.func 11), args := #[Operand.tmp 188, Operand.tmp 189], argTypes := #[24, 24] }, type := 4, pos := "law.go:115", after := #[{ on := 28, ground := Ground.data }, { on := 29, ground := Ground.data }, { on := 29, ground := Ground.chain }, { on := 27, ground := Ground.guard }], guard := some (27, true) }
def e34o31 : Oper := { dst := some 191, op := Op.pick (Operand.tmp 187) (Operand.tmp 190) (Operand.const (Value.bool false)), type := 4, pos := "law.go:115", after := #[{ on := 27, ground := Ground.data }, { on := 30, ground := Ground.data }], guard := none }
def e34o32 : Oper := { dst := some 192, op := Op.move (Operand.tmp 191), type := 4, pos := "law.go:115", after := #[{ on := 31, ground := Ground.data }, { on := 30, ground := Ground.chain }], guard := none }
def e34o33 : Oper := { dst := some 193, op := Op.move (Operand.tmp 20), type := 41, pos := "law.go:115", after := #[{ on := 32, ground := Ground.guard }], guard := some (32, true) }
def e34o34 : Oper := { dst := some 194, op := Op.binOp BinOp.eql 41 (Operand.tmp 193) (Operand.const (Value.int IntKind.i64 0)) 41, type := 4, pos := "law.go:115", after := #[{ on := 33, ground := Ground.data }, { on := 32, ground := Ground.guard }], guard := some (32, true) }
def e34o35 : Oper := { dst := some 195, op := Op.pick (Operand.tmp 192) (Operand.tmp 194) (Operand.const (Value.bool false)), type := 4, pos := "law.go:115", after := #[{ on := 32, ground := Ground.data }, { on := 34, ground := Ground.data }], guard := none }
def e34o36 : Oper := { dst := some 196, op := Op.move (Operand.tmp 195), type := 4, pos := "law.go:115", after := #[{ on := 35, ground := Ground.data }, { on := 32, ground := Ground.chain }], guard := none }
def e34o37 : Oper := { dst := some 197, op := Op.load 24 (Operand.tmp 19), type := 24, pos := "law.go:115", after := #[{ on := 36, ground := Ground.guard }], guard := some (36, true) }
def e34o38 : Oper := { dst := some 198, op := Op.build 24 #[], type := 24, pos := "law.go:115", after := #[{ on := 36, ground := Ground.guard }], guard := some (36, true) }
def e34o39 : Oper := { dst := some 199, op := Op.call { callee := Callee.value (Operand.func 11), args := #[Operand.tmp 197, Operand.tmp 198], argTypes := #[24, 24] }, type := 4, pos := "law.go:115", after := #[{ on := 37, ground := Ground.data }, { on := 38, ground := Ground.data }, { on := 36, ground := Ground.chain }, { on := 36, ground := Ground.guard }], guard := some (36, true) }
def e34o40 : Oper := { dst := some 200, op := Op.pick (Operand.tmp 196) (Operand.tmp 199) (Operand.const (Value.bool false)), type := 4, pos := "law.go:115", after := #[{ on := 36, ground := Ground.data }, { on := 39, ground := Ground.data }], guard := none }
def e34o41 : Oper := { dst := some 201, op := Op.move (Operand.tmp 200), type := 4, pos := "law.go:115", after := #[{ on := 40, ground := Ground.data }, { on := 39, ground := Ground.chain }], guard := none }
def e34o42 : Oper := { dst := some 202, op := Op.move (Operand.tmp 22), type := 41, pos := "law.go:115", after := #[{ on := 41, ground := Ground.guard }], guard := some (41, true) }
def e34o43 : Oper := { dst := some 203, op := Op.binOp BinOp.eql 3 (Operand.tmp 202) (Operand.const (Value.int IntKind.i64 2)) 3, type := 4, pos := "law.go:115", after := #[{ on := 42, ground := Ground.data }, { on := 41, ground := Ground.guard }], guard := some (41, true) }
def e34o44 : Oper := { dst := some 204, op := Op.pick (Operand.tmp 201) (Operand.tmp 203) (Operand.const (Value.bool false)), type := 4, pos := "law.go:115", after := #[{ on := 41, ground := Ground.data }, { on := 43, ground := Ground.data }], guard := none }
def e34o45 : Oper := { dst := some 205, op := Op.move (Operand.tmp 204), type := 4, pos := "law.go:115", after := #[{ on := 44, ground := Ground.data }, { on := 41, ground := Ground.chain }], guard := none }
def e34o46 : Oper := { dst := some 206, op := Op.call { callee := Callee.value (Operand.func 26), args := #[Operand.const (Value.slice none 0 0)], argTypes := #[38] }, type := 4, pos := "law.go:115", after := #[{ on := 45, ground := Ground.chain }, { on := 45, ground := Ground.guard }], guard := some (45, true) }
def e34o47 : Oper := { dst := some 207, op := Op.pick (Operand.tmp 205) (Operand.tmp 206) (Operand.const (Value.bool false)), type := 4, pos := "law.go:115", after := #[{ on := 45, ground := Ground.data }, { on := 46, ground := Ground.data }], guard := none }
def e34o48 : Oper := { dst := some 208, op := Op.move (Operand.tmp 207), type := 4, pos := "law.go:115", after := #[{ on := 47, ground := Ground.data }, { on := 46, ground := Ground.chain }], guard := none }
def e34o49 : Oper := { dst := some 209, op := Op.call { callee := Callee.value (Operand.func 7), args := #[], argTypes := #[] }, type := 4, pos := "law.go:115", after := #[{ on := 48, ground := Ground.chain }, { on := 48, ground := Ground.guard }], guard := some (48, true) }
def e34o50 : Oper := { dst := some 210, op := Op.pick (Operand.tmp 208) (Operand.tmp 209) (Operand.const (Value.bool false)), type := 4, pos := "law.go:115", after := #[{ on := 48, ground := Ground.data }, { on := 49, ground := Ground.data }], guard := none }
def e34o51 : Oper := { dst := some 0, op := Op.assign (Operand.tmp 210), type := 4, pos := "law.go:115", after := #[{ on := 50, ground := Ground.data }, { on := 49, ground := Ground.chain }, { on := 0, ground := Ground.phase }, { on := 1, ground := Ground.phase }, { on := 2, ground := Ground.phase }, { on := 3, ground := Ground.phase }, { on := 4, ground := Ground.phase }, { on := 5, ground := Ground.phase }, { on := 6, ground := Ground.phase }, { on := 7, ground := Ground.phase }, { on := 8, ground := Ground.phase }, { on := 9, ground := Ground.phase }, { on := 10, ground := Ground.phase }, { on := 11, ground := Ground.phase }, { on := 12, ground := Ground.phase }, { on := 13, ground := Ground.phase }, { on := 14, ground := Ground.phase }, { on := 15, ground := Ground.phase }, { on := 16, ground := Ground.phase }, { on := 17, ground := Ground.phase }, { on := 18, ground := Ground.phase }, { on := 19, ground := Ground.phase }, { on := 20, ground := Ground.phase }, { on := 21, ground := Ground.phase }, { on := 22, ground := Ground.phase }, { on := 23, ground := Ground.phase }, { on := 24, ground := Ground.phase }, { on := 25, ground := Ground.phase }, { on := 26, ground := Ground.phase }, { on := 27, ground := Ground.phase }, { on := 28, ground := Ground.phase }, { on := 29, ground := Ground.phase }, { on := 30, ground := Ground.phase }, { on := 31, ground := Ground.phase }, { on := 32, ground := Ground.phase }, { on := 33, ground := Ground.phase }, { on := 34, ground := Ground.phase }, { on := 35, ground := Ground.phase }, { on := 36, ground := Ground.phase }, { on := 37, ground := Ground.phase }, { on := 38, ground := Ground.phase }, { on := 39, ground := Ground.phase }, { on := 40, ground := Ground.phase }, { on := 41, ground := Ground.phase }, { on := 42, ground := Ground.phase }, { on := 43, ground := Ground.phase }, { on := 44, ground := Ground.phase }, { on := 45, ground := Ground.phase }, { on := 46, ground := Ground.phase }, { on := 47, ground := Ground.phase }, { on := 48, ground := Ground.phase }, { on := 49, ground := Ground.phase }, { on := 50, ground := Ground.phase }], guard := none }
def e34Ops : Array Oper := #[e34o0, e34o1, e34o2, e34o3, e34o4, e34o5, e34o6, e34o7, e34o8, e34o9, e34o10, e34o11, e34o12, e34o13, e34o14, e34o15, e34o16, e34o17, e34o18, e34o19, e34o20, e34o21, e34o22, e34o23, e34o24, e34o25, e34o26, e34o27, e34o28, e34o29, e34o30, e34o31, e34o32, e34o33, e34o34, e34o35, e34o36, e34o37, e34o38, e34o39, e34o40, e34o41, e34o42, e34o43, e34o44, e34o45, e34o46, e34o47, e34o48, e34o49, e34o50, e34o51]
def e34Pre : Array Bool := #[true, true, true, true, true, true, true, true, true, true, true, true, true, true, true, true, true, true, true, true, true, true, true, true, true, true, true, true, true, true, true, true, true, true, true, true, true, true, true, true, true, true, true, true, true, true, true, true, true, true, true, true]
def e34K (qb qc : Option Addr) (ga ca nb cb nc cc b11 _b17 _b19 : Nat) : Nat → Kc
  | 0 => Kc.val (.int .i64 0)
  | 1 => Kc.val (.bool true)
  | 2 => Kc.val (.bool true)
  | 3 => Kc.val (.pointer (some ⟨b11, 0, none⟩))
  | 4 => Kc.val (.slice (some ⟨ga, 0, none⟩) 2000 ca)
  | 5 => Kc.val (.int .i64 2000)
  | 6 => Kc.val (.bool true)
  | 7 => Kc.val (.bool true)
  | 8 => Kc.val (.bool true)
  | 9 => Kc.val (.pointer (some ⟨b11, 0, none⟩))
  | 10 => Kc.val (.slice (some ⟨ga, 0, none⟩) 2000 ca)
  | 11 => Kc.val (.pointer (some ⟨ga, 1999, none⟩))
  | 12 => Kc.val (.int .u32 2147483648)
  | 13 => Kc.val (.bool true)
  | 14 => Kc.val (.bool true)
  | 15 => Kc.val (.bool true)
  | 16 => Kc.val (.int .i64 3)
  | 17 => Kc.val (.bool true)
  | 18 => Kc.val (.bool true)
  | 19 => Kc.val (.bool true)
  | 20 => Kc.val (.int .i64 3)
  | 21 => Kc.val (.bool true)
  | 22 => Kc.val (.bool true)
  | 23 => Kc.val (.bool true)
  | 24 => Kc.val (.int .i64 0)
  | 25 => Kc.val (.bool true)
  | 26 => Kc.val (.bool true)
  | 27 => Kc.val (.bool true)
  | 28 => Kc.val (.agg #[.slice qb nb cb])
  | 29 => Kc.fnat 0 1
  | 30 => Kc.val (.bool true)
  | 31 => Kc.val (.bool true)
  | 32 => Kc.val (.bool true)
  | 33 => Kc.val (.int .i64 0)
  | 34 => Kc.val (.bool true)
  | 35 => Kc.val (.bool true)
  | 36 => Kc.val (.bool true)
  | 37 => Kc.val (.agg #[.slice qc nc cc])
  | 38 => Kc.val (.agg #[.slice none 0 0])
  | 39 => Kc.val (.bool true)
  | 40 => Kc.val (.bool true)
  | 41 => Kc.val (.bool true)
  | 42 => Kc.val (.int .i64 2)
  | 43 => Kc.val (.bool true)
  | 44 => Kc.val (.bool true)
  | 45 => Kc.val (.bool true)
  | 46 => Kc.val (.bool true)
  | 47 => Kc.val (.bool true)
  | 48 => Kc.val (.bool true)
  | 49 => Kc.val (.bool true)
  | 50 => Kc.val (.bool true)
  | 51 => Kc.val (.bool true)
  | _ => Kc.val undef
theorem e34_slots (f : Nat → Value) : slotsOf e34Ops e34Pre f = [(160, f 0), (161, f 1), (162, f 2), (163, f 3), (164, f 4), (165, f 5), (166, f 6), (167, f 7), (168, f 8), (169, f 9), (170, f 10), (171, f 11), (172, f 12), (173, f 13), (174, f 14), (175, f 15), (176, f 16), (177, f 17), (178, f 18), (179, f 19), (180, f 20), (181, f 21), (182, f 22), (183, f 23), (184, f 24), (185, f 25), (186, f 26), (187, f 27), (188, f 28), (189, f 29), (190, f 30), (191, f 31), (192, f 32), (193, f 33), (194, f 34), (195, f 35), (196, f 36), (197, f 37), (198, f 38), (199, f 39), (200, f 40), (201, f 41), (202, f 42), (203, f 43), (204, f 44), (205, f 45), (206, f 46), (207, f 47), (208, f 48), (209, f 49), (210, f 50), (0, f 51)] := by kernel_rfl
set_option maxHeartbeats 6400000 in
set_option maxRecDepth 100000 in
theorem e34_wp {Q : Exit → Act → World → Prop} {a0 : Act} {w : World} (qb qc : Option Addr) (ga ca nb cb nc cc b11 b17 b19 : Nat) (hsize : a0.tmps.size = 211) (h12 : a0.tmps[12]? = some (.int .i64 0))
    (h14 : a0.tmps[14]? = some (.int .i64 3))
    (h16 : a0.tmps[16]? = some (.int .i64 3))
    (h18 : a0.tmps[18]? = some (.int .i64 0))
    (h20 : a0.tmps[20]? = some (.int .i64 0))
    (h22 : a0.tmps[22]? = some (.int .i64 2))
    (h11 : a0.tmps[11]? = some (.pointer (some ⟨b11, 0, none⟩)))
    (h17 : a0.tmps[17]? = some (.pointer (some ⟨b17, 0, none⟩)))
    (h19 : a0.tmps[19]? = some (.pointer (some ⟨b19, 0, none⟩)))
    (hc11 : w.drew.cell? ⟨b11, 0, none⟩ = some (.slice (some ⟨ga, 0, none⟩) 2000 ca))
    (hc17 : w.drew.cell? ⟨b17, 0, none⟩ = some (.slice qb nb cb))
    (hc19 : w.drew.cell? ⟨b19, 0, none⟩ = some (.slice qc nc cc))
    (hcd : w.drew.cell? ⟨ga, 1999, none⟩ = some (.int .u32 2147483648))
    (hof : ∀ V, Below w.drew.heap.size w.drew V → Calls Tryz.prog 18 #[.int .u64 1] V (FP 0 1 V))
    (hsm : ∀ (V : World) (q : Option Addr) (n c B : Nat), Below w.drew.heap.size w.drew V → FNat V B (.agg #[.slice q n c]) 1 → Calls Tryz.prog 11 #[.agg #[.slice qb nb cb], .agg #[.slice q n c]] V fun e w' => e = .returned (.bool true) ∧ Below V.heap.size V w')
    (hsz : ∀ V, Below w.drew.heap.size w.drew V → Calls Tryz.prog 11 #[.agg #[.slice qc nc cc], .agg #[.slice none 0 0]] V fun e w' => e = .returned (.bool true) ∧ Below V.heap.size V w')
    (hsu : ∀ V, Below w.drew.heap.size w.drew V → Calls Tryz.prog 26 #[.slice none 0 0] V fun e w' => e = .returned (.bool true) ∧ Below V.heap.size V w')
    (haw : ∀ V, Below w.drew.heap.size w.drew V → Calls Tryz.prog 7 #[] V fun e w' => e = .returned (.bool true) ∧ Below V.heap.size V w')
    (fin : ∀ (f : Nat → Value) (y : World), (∀ j, j < 52 → e34Pre.getD j false = true → (e34K qb qc ga ca nb cb nc cc b11 b17 b19 j).P (f j) y) → Below w.drew.heap.size w.drew y → Q .normal (putL a0 [(160, f 0), (161, f 1), (162, f 2), (163, f 3), (164, f 4), (165, f 5), (166, f 6), (167, f 7), (168, f 8), (169, f 9), (170, f 10), (171, f 11), (172, f 12), (173, f 13), (174, f 14), (175, f 15), (176, f 16), (177, f 17), (178, f 18), (179, f 19), (180, f 20), (181, f 21), (182, f 22), (183, f 23), (184, f 24), (185, f 25), (186, f 26), (187, f 27), (188, f 28), (189, f 29), (190, f 30), (191, f 31), (192, f 32), (193, f 33), (194, f 34), (195, f 35), (196, f 36), (197, f 37), (198, f 38), (199, f 39), (200, f 40), (201, f 41), (202, f 42), (203, f 43), (204, f 44), (205, f 45), (206, f 46), (207, f 47), (208, f 48), (209, f 49), (210, f 50), (0, f 51)]) y) (id : Nat) :
    (Code.region id e34Ops true).wp Tryz.prog Q a0 w := by
  refine wp_region_inv e34Pre (fun j => (e34K qb qc ga ca nb cb nc cc b11 b17 b19 j).P) (fun x y => Below x.heap.size x y) 52 0 (by kernel_rfl) (by kernel_rfl) (by rw [hsize]; kernel_rfl) (by kernel_rfl) (by kernel_rfl) (Below.refl _ _) (fun _ _ _ h1 h2 => bl_trans h1 h2) (fun j _ _ _ h1 h2 => (e34K qb qc ga ca nb cb nc cc b11 b17 b19 j).keep h1 h2) ?_ (fun f y h1 h2 => by rw [e34_slots]; exact any_end (by kernel_rfl) (fin f y h1 h2) 0)
  intro i o ho hp f a x hR hbase hdeps K hK
  have hi : i < 52 := by
    rcases Nat.lt_or_ge i 52 with h | h
    · exact h
    · have : e34Ops.size ≤ i := h
      rw [Array.getElem?_eq_none this] at ho; cases ho
  have dep : ∀ j, (o.after.any fun e => Region.binds .any e && e.on == j) = true → (∀ s, slotOf e34Ops j = some s → a.tmps[s]? = some (f j)) ∧ (e34K qb qc ga ca nb cb nc cc b11 b17 b19 j).P (f j) x := by
    intro j h
    obtain ⟨e, he, h2⟩ := Array.any_eq_true'.1 h
    simp only [Bool.and_eq_true, beq_iff_eq] at h2
    obtain ⟨h3, rfl⟩ := h2
    exact hdeps e he h3
  have dv : ∀ (j s : Nat) {v : Value}, (o.after.any fun e => Region.binds .any e && e.on == j) = true → slotOf e34Ops j = some s → e34K qb qc ga ca nb cb nc cc b11 b17 b19 j = Kc.val v → a.tmps[s]? = some v := fun j s v h1 h2 h3 => by
    obtain ⟨t, g⟩ := dep j h1
    rw [h3] at g
    have e : f j = v := g
    rw [← e]; exact t s h2
  have bv : ∀ {s : Nat} {v : Value}, a0.tmps[s]? = some v → ((List.range e34Ops.size).all fun j => slotOf e34Ops j != some s) = true → a.tmps[s]? = some v := by
    intro s v h0 h
    rw [hbase s fun j hj _ e => ?_]; exact h0
    have h2 := (List.all_eq_true.1 h) j (List.mem_range.2 hj)
    rw [e] at h2; simp at h2
  match i, hi with
  | 0, _ =>
    obtain rfl : e34o0 = o := Option.some.inj (show e34Ops[0]? = some _ from ho)
    have eb12 := eval_at (bv h12 (by kernel_rfl))
    exact inv_stay hK rfl (by simp only [execOp, e34o0, eb12]; go_simp) (wanted_none rfl)
  | 1, _ =>
    obtain rfl : e34o1 = o := Option.some.inj (show e34Ops[1]? = some _ from ho)
    have e0 := eval_at (dv 0 160 (by kernel_rfl) rfl rfl)
    exact inv_stay hK rfl (by simp only [execOp, e34o1, e0]; go_simp) (wanted_none rfl)
  | 2, _ =>
    obtain rfl : e34o2 = o := Option.some.inj (show e34Ops[2]? = some _ from ho)
    have e1 := eval_at (dv 1 161 (by kernel_rfl) rfl rfl)
    exact inv_stay hK rfl (by simp only [execOp, e34o2, e1]; go_simp) (wanted_none rfl)
  | 3, _ =>
    obtain rfl : e34o3 = o := Option.some.inj (show e34Ops[3]? = some _ from ho)
    have q2 := dv 2 162 (by kernel_rfl) rfl rfl
    have eb11 := eval_at (bv h11 (by kernel_rfl))
    exact inv_stay hK rfl (by simp only [execOp, e34o3, eb11]; go_simp) (wanted_t q2 rfl rfl)
  | 4, _ =>
    obtain rfl : e34o4 = o := Option.some.inj (show e34Ops[4]? = some _ from ho)
    have q2 := dv 2 162 (by kernel_rfl) rfl rfl
    have e3 := eval_at (dv 3 163 (by kernel_rfl) rfl rfl)
    have kcell := keep_cellK hR hc11
    exact inv_stay hK rfl (by simp only [execOp, e34o4, e3]; go_simp) (wanted_t q2 rfl rfl)
  | 5, _ =>
    obtain rfl : e34o5 = o := Option.some.inj (show e34Ops[5]? = some _ from ho)
    have q2 := dv 2 162 (by kernel_rfl) rfl rfl
    have q4 := dv 4 164 (by kernel_rfl) rfl rfl
    exact inv_stay hK rfl (by simp only [execOp, e34o5]; go_simp) (wanted_t q2 rfl rfl)
  | 6, _ =>
    obtain rfl : e34o6 = o := Option.some.inj (show e34Ops[6]? = some _ from ho)
    have q2 := dv 2 162 (by kernel_rfl) rfl rfl
    have e5 := eval_at (dv 5 165 (by kernel_rfl) rfl rfl)
    exact inv_stay hK rfl (by simp only [execOp, e34o6, e5]; go_simp) (wanted_t q2 rfl rfl)
  | 7, _ =>
    obtain rfl : e34o7 = o := Option.some.inj (show e34Ops[7]? = some _ from ho)
    have e2 := eval_at (dv 2 162 (by kernel_rfl) rfl rfl)
    have e6 := eval_at (dv 6 166 (by kernel_rfl) rfl rfl)
    exact inv_stay hK rfl (by simp only [execOp, e34o7, e2, e6]; go_simp) (wanted_none rfl)
  | 8, _ =>
    obtain rfl : e34o8 = o := Option.some.inj (show e34Ops[8]? = some _ from ho)
    have e7 := eval_at (dv 7 167 (by kernel_rfl) rfl rfl)
    exact inv_stay hK rfl (by simp only [execOp, e34o8, e7]; go_simp) (wanted_none rfl)
  | 9, _ =>
    obtain rfl : e34o9 = o := Option.some.inj (show e34Ops[9]? = some _ from ho)
    have q8 := dv 8 168 (by kernel_rfl) rfl rfl
    have eb11 := eval_at (bv h11 (by kernel_rfl))
    exact inv_stay hK rfl (by simp only [execOp, e34o9, eb11]; go_simp) (wanted_t q8 rfl rfl)
  | 10, _ =>
    obtain rfl : e34o10 = o := Option.some.inj (show e34Ops[10]? = some _ from ho)
    have q8 := dv 8 168 (by kernel_rfl) rfl rfl
    have e9 := eval_at (dv 9 169 (by kernel_rfl) rfl rfl)
    have kcell := keep_cellK hR hc11
    exact inv_stay hK rfl (by simp only [execOp, e34o10, e9]; go_simp) (wanted_t q8 rfl rfl)
  | 11, _ =>
    obtain rfl : e34o11 = o := Option.some.inj (show e34Ops[11]? = some _ from ho)
    have q8 := dv 8 168 (by kernel_rfl) rfl rfl
    have e10 := eval_at (dv 10 170 (by kernel_rfl) rfl rfl)
    exact inv_stay hK rfl (by simp only [execOp, e34o11, e10]; go_simp) (wanted_t q8 rfl rfl)
  | 12, _ =>
    obtain rfl : e34o12 = o := Option.some.inj (show e34Ops[12]? = some _ from ho)
    have q8 := dv 8 168 (by kernel_rfl) rfl rfl
    have e11 := eval_at (dv 11 171 (by kernel_rfl) rfl rfl)
    have kcell := keep_cellK hR hcd
    exact inv_stay hK rfl (by simp only [execOp, e34o12, e11]; go_simp) (wanted_t q8 rfl rfl)
  | 13, _ =>
    obtain rfl : e34o13 = o := Option.some.inj (show e34Ops[13]? = some _ from ho)
    have q8 := dv 8 168 (by kernel_rfl) rfl rfl
    have e12 := eval_at (dv 12 172 (by kernel_rfl) rfl rfl)
    exact inv_stay hK rfl (by simp only [execOp, e34o13, e12]; go_simp) (wanted_t q8 rfl rfl)
  | 14, _ =>
    obtain rfl : e34o14 = o := Option.some.inj (show e34Ops[14]? = some _ from ho)
    have e8 := eval_at (dv 8 168 (by kernel_rfl) rfl rfl)
    have e13 := eval_at (dv 13 173 (by kernel_rfl) rfl rfl)
    exact inv_stay hK rfl (by simp only [execOp, e34o14, e8, e13]; go_simp) (wanted_none rfl)
  | 15, _ =>
    obtain rfl : e34o15 = o := Option.some.inj (show e34Ops[15]? = some _ from ho)
    have e14 := eval_at (dv 14 174 (by kernel_rfl) rfl rfl)
    exact inv_stay hK rfl (by simp only [execOp, e34o15, e14]; go_simp) (wanted_none rfl)
  | 16, _ =>
    obtain rfl : e34o16 = o := Option.some.inj (show e34Ops[16]? = some _ from ho)
    have q15 := dv 15 175 (by kernel_rfl) rfl rfl
    have eb14 := eval_at (bv h14 (by kernel_rfl))
    exact inv_stay hK rfl (by simp only [execOp, e34o16, eb14]; go_simp) (wanted_t q15 rfl rfl)
  | 17, _ =>
    obtain rfl : e34o17 = o := Option.some.inj (show e34Ops[17]? = some _ from ho)
    have q15 := dv 15 175 (by kernel_rfl) rfl rfl
    have e16 := eval_at (dv 16 176 (by kernel_rfl) rfl rfl)
    exact inv_stay hK rfl (by simp only [execOp, e34o17, e16]; go_simp) (wanted_t q15 rfl rfl)
  | 18, _ =>
    obtain rfl : e34o18 = o := Option.some.inj (show e34Ops[18]? = some _ from ho)
    have e15 := eval_at (dv 15 175 (by kernel_rfl) rfl rfl)
    have e17 := eval_at (dv 17 177 (by kernel_rfl) rfl rfl)
    exact inv_stay hK rfl (by simp only [execOp, e34o18, e15, e17]; go_simp) (wanted_none rfl)
  | 19, _ =>
    obtain rfl : e34o19 = o := Option.some.inj (show e34Ops[19]? = some _ from ho)
    have e18 := eval_at (dv 18 178 (by kernel_rfl) rfl rfl)
    exact inv_stay hK rfl (by simp only [execOp, e34o19, e18]; go_simp) (wanted_none rfl)
  | 20, _ =>
    obtain rfl : e34o20 = o := Option.some.inj (show e34Ops[20]? = some _ from ho)
    have q19 := dv 19 179 (by kernel_rfl) rfl rfl
    have eb16 := eval_at (bv h16 (by kernel_rfl))
    exact inv_stay hK rfl (by simp only [execOp, e34o20, eb16]; go_simp) (wanted_t q19 rfl rfl)
  | 21, _ =>
    obtain rfl : e34o21 = o := Option.some.inj (show e34Ops[21]? = some _ from ho)
    have q19 := dv 19 179 (by kernel_rfl) rfl rfl
    have e20 := eval_at (dv 20 180 (by kernel_rfl) rfl rfl)
    exact inv_stay hK rfl (by simp only [execOp, e34o21, e20]; go_simp) (wanted_t q19 rfl rfl)
  | 22, _ =>
    obtain rfl : e34o22 = o := Option.some.inj (show e34Ops[22]? = some _ from ho)
    have e19 := eval_at (dv 19 179 (by kernel_rfl) rfl rfl)
    have e21 := eval_at (dv 21 181 (by kernel_rfl) rfl rfl)
    exact inv_stay hK rfl (by simp only [execOp, e34o22, e19, e21]; go_simp) (wanted_none rfl)
  | 23, _ =>
    obtain rfl : e34o23 = o := Option.some.inj (show e34Ops[23]? = some _ from ho)
    have e22 := eval_at (dv 22 182 (by kernel_rfl) rfl rfl)
    exact inv_stay hK rfl (by simp only [execOp, e34o23, e22]; go_simp) (wanted_none rfl)
  | 24, _ =>
    obtain rfl : e34o24 = o := Option.some.inj (show e34Ops[24]? = some _ from ho)
    have q23 := dv 23 183 (by kernel_rfl) rfl rfl
    have eb18 := eval_at (bv h18 (by kernel_rfl))
    exact inv_stay hK rfl (by simp only [execOp, e34o24, eb18]; go_simp) (wanted_t q23 rfl rfl)
  | 25, _ =>
    obtain rfl : e34o25 = o := Option.some.inj (show e34Ops[25]? = some _ from ho)
    have q23 := dv 23 183 (by kernel_rfl) rfl rfl
    have e24 := eval_at (dv 24 184 (by kernel_rfl) rfl rfl)
    exact inv_stay hK rfl (by simp only [execOp, e34o25, e24]; go_simp) (wanted_t q23 rfl rfl)
  | 26, _ =>
    obtain rfl : e34o26 = o := Option.some.inj (show e34Ops[26]? = some _ from ho)
    have e23 := eval_at (dv 23 183 (by kernel_rfl) rfl rfl)
    have e25 := eval_at (dv 25 185 (by kernel_rfl) rfl rfl)
    exact inv_stay hK rfl (by simp only [execOp, e34o26, e23, e25]; go_simp) (wanted_none rfl)
  | 27, _ =>
    obtain rfl : e34o27 = o := Option.some.inj (show e34Ops[27]? = some _ from ho)
    have e26 := eval_at (dv 26 186 (by kernel_rfl) rfl rfl)
    exact inv_stay hK rfl (by simp only [execOp, e34o27, e26]; go_simp) (wanted_none rfl)
  | 28, _ =>
    obtain rfl : e34o28 = o := Option.some.inj (show e34Ops[28]? = some _ from ho)
    have q27 := dv 27 187 (by kernel_rfl) rfl rfl
    have eb17 := eval_at (bv h17 (by kernel_rfl))
    have kcell := keep_cellK hR hc17
    exact inv_stay hK rfl (by simp only [execOp, e34o28, eb17]; go_simp) (wanted_t q27 rfl rfl)
  | 29, _ =>
    obtain rfl : e34o29 = o := Option.some.inj (show e34Ops[29]? = some _ from ho)
    have q27 := dv 27 187 (by kernel_rfl) rfl rfl
    refine inv_enter 18 #[.int .u64 1] hK (by simp [go_sem, e34o29]) (wanted_t q27 rfl rfl) ?_
    refine (hof x hR).mono ?_
    rintro e y ⟨q0, n0, c0, rfl, h1, h2, h3⟩
    exact ⟨_, rfl, ⟨_, _, _, _, h2, rfl, h1⟩, h3⟩
  | 30, _ =>
    obtain rfl : e34o30 = o := Option.some.inj (show e34Ops[30]? = some _ from ho)
    have q27 := dv 27 187 (by kernel_rfl) rfl rfl
    have q28 := dv 28 188 (by kernel_rfl) rfl rfl
    obtain ⟨t29, g29⟩ := dep 29 (by kernel_rfl)
    have q29 := t29 189 (by rfl)
    have e29 := eval_at q29
    obtain ⟨B1, q1, n1, c1, _, hv1, hf1⟩ : (Kc.fnat 0 1).P (f 29) x := g29
    rw [hv1] at q29
    refine inv_enter 11 #[.agg #[.slice qb nb cb], .agg #[.slice q1 n1 c1]] hK (by simp [go_sem, e34o30, q28, q29]) (wanted_t q27 rfl rfl) ?_
    refine (hsm x q1 n1 c1 B1 hR hf1).mono ?_
    rintro e y ⟨rfl, h⟩
    exact ⟨_, rfl, rfl, h⟩
  | 31, _ =>
    obtain rfl : e34o31 = o := Option.some.inj (show e34Ops[31]? = some _ from ho)
    have e27 := eval_at (dv 27 187 (by kernel_rfl) rfl rfl)
    have e30 := eval_at (dv 30 190 (by kernel_rfl) rfl rfl)
    exact inv_stay hK rfl (by simp only [execOp, e34o31, e27, e30]; go_simp) (wanted_none rfl)
  | 32, _ =>
    obtain rfl : e34o32 = o := Option.some.inj (show e34Ops[32]? = some _ from ho)
    have e31 := eval_at (dv 31 191 (by kernel_rfl) rfl rfl)
    exact inv_stay hK rfl (by simp only [execOp, e34o32, e31]; go_simp) (wanted_none rfl)
  | 33, _ =>
    obtain rfl : e34o33 = o := Option.some.inj (show e34Ops[33]? = some _ from ho)
    have q32 := dv 32 192 (by kernel_rfl) rfl rfl
    have eb20 := eval_at (bv h20 (by kernel_rfl))
    exact inv_stay hK rfl (by simp only [execOp, e34o33, eb20]; go_simp) (wanted_t q32 rfl rfl)
  | 34, _ =>
    obtain rfl : e34o34 = o := Option.some.inj (show e34Ops[34]? = some _ from ho)
    have q32 := dv 32 192 (by kernel_rfl) rfl rfl
    have e33 := eval_at (dv 33 193 (by kernel_rfl) rfl rfl)
    exact inv_stay hK rfl (by simp only [execOp, e34o34, e33]; go_simp) (wanted_t q32 rfl rfl)
  | 35, _ =>
    obtain rfl : e34o35 = o := Option.some.inj (show e34Ops[35]? = some _ from ho)
    have e32 := eval_at (dv 32 192 (by kernel_rfl) rfl rfl)
    have e34 := eval_at (dv 34 194 (by kernel_rfl) rfl rfl)
    exact inv_stay hK rfl (by simp only [execOp, e34o35, e32, e34]; go_simp) (wanted_none rfl)
  | 36, _ =>
    obtain rfl : e34o36 = o := Option.some.inj (show e34Ops[36]? = some _ from ho)
    have e35 := eval_at (dv 35 195 (by kernel_rfl) rfl rfl)
    exact inv_stay hK rfl (by simp only [execOp, e34o36, e35]; go_simp) (wanted_none rfl)
  | 37, _ =>
    obtain rfl : e34o37 = o := Option.some.inj (show e34Ops[37]? = some _ from ho)
    have q36 := dv 36 196 (by kernel_rfl) rfl rfl
    have eb19 := eval_at (bv h19 (by kernel_rfl))
    have kcell := keep_cellK hR hc19
    exact inv_stay hK rfl (by simp only [execOp, e34o37, eb19]; go_simp) (wanted_t q36 rfl rfl)
  | 38, _ =>
    obtain rfl : e34o38 = o := Option.some.inj (show e34Ops[38]? = some _ from ho)
    have q36 := dv 36 196 (by kernel_rfl) rfl rfl
    exact inv_stay hK rfl (by simp only [execOp, e34o38]; go_simp) (wanted_t q36 rfl rfl)
  | 39, _ =>
    obtain rfl : e34o39 = o := Option.some.inj (show e34Ops[39]? = some _ from ho)
    have q36 := dv 36 196 (by kernel_rfl) rfl rfl
    have q37 := dv 37 197 (by kernel_rfl) rfl rfl
    have q38 := dv 38 198 (by kernel_rfl) rfl rfl
    refine inv_enter 11 #[.agg #[.slice qc nc cc], .agg #[.slice none 0 0]] hK (by simp [go_sem, e34o39, q37, q38]) (wanted_t q36 rfl rfl) ?_
    refine (hsz x hR).mono ?_
    rintro e y ⟨rfl, h⟩
    exact ⟨_, rfl, rfl, h⟩
  | 40, _ =>
    obtain rfl : e34o40 = o := Option.some.inj (show e34Ops[40]? = some _ from ho)
    have e36 := eval_at (dv 36 196 (by kernel_rfl) rfl rfl)
    have e39 := eval_at (dv 39 199 (by kernel_rfl) rfl rfl)
    exact inv_stay hK rfl (by simp only [execOp, e34o40, e36, e39]; go_simp) (wanted_none rfl)
  | 41, _ =>
    obtain rfl : e34o41 = o := Option.some.inj (show e34Ops[41]? = some _ from ho)
    have e40 := eval_at (dv 40 200 (by kernel_rfl) rfl rfl)
    exact inv_stay hK rfl (by simp only [execOp, e34o41, e40]; go_simp) (wanted_none rfl)
  | 42, _ =>
    obtain rfl : e34o42 = o := Option.some.inj (show e34Ops[42]? = some _ from ho)
    have q41 := dv 41 201 (by kernel_rfl) rfl rfl
    have eb22 := eval_at (bv h22 (by kernel_rfl))
    exact inv_stay hK rfl (by simp only [execOp, e34o42, eb22]; go_simp) (wanted_t q41 rfl rfl)
  | 43, _ =>
    obtain rfl : e34o43 = o := Option.some.inj (show e34Ops[43]? = some _ from ho)
    have q41 := dv 41 201 (by kernel_rfl) rfl rfl
    have e42 := eval_at (dv 42 202 (by kernel_rfl) rfl rfl)
    exact inv_stay hK rfl (by simp only [execOp, e34o43, e42]; go_simp) (wanted_t q41 rfl rfl)
  | 44, _ =>
    obtain rfl : e34o44 = o := Option.some.inj (show e34Ops[44]? = some _ from ho)
    have e41 := eval_at (dv 41 201 (by kernel_rfl) rfl rfl)
    have e43 := eval_at (dv 43 203 (by kernel_rfl) rfl rfl)
    exact inv_stay hK rfl (by simp only [execOp, e34o44, e41, e43]; go_simp) (wanted_none rfl)
  | 45, _ =>
    obtain rfl : e34o45 = o := Option.some.inj (show e34Ops[45]? = some _ from ho)
    have e44 := eval_at (dv 44 204 (by kernel_rfl) rfl rfl)
    exact inv_stay hK rfl (by simp only [execOp, e34o45, e44]; go_simp) (wanted_none rfl)
  | 46, _ =>
    obtain rfl : e34o46 = o := Option.some.inj (show e34Ops[46]? = some _ from ho)
    have q45 := dv 45 205 (by kernel_rfl) rfl rfl
    refine inv_enter 26 #[.slice none 0 0] hK (by simp [go_sem, e34o46]) (wanted_t q45 rfl rfl) ?_
    refine (hsu x hR).mono ?_
    rintro e y ⟨rfl, h⟩
    exact ⟨_, rfl, rfl, h⟩
  | 47, _ =>
    obtain rfl : e34o47 = o := Option.some.inj (show e34Ops[47]? = some _ from ho)
    have e45 := eval_at (dv 45 205 (by kernel_rfl) rfl rfl)
    have e46 := eval_at (dv 46 206 (by kernel_rfl) rfl rfl)
    exact inv_stay hK rfl (by simp only [execOp, e34o47, e45, e46]; go_simp) (wanted_none rfl)
  | 48, _ =>
    obtain rfl : e34o48 = o := Option.some.inj (show e34Ops[48]? = some _ from ho)
    have e47 := eval_at (dv 47 207 (by kernel_rfl) rfl rfl)
    exact inv_stay hK rfl (by simp only [execOp, e34o48, e47]; go_simp) (wanted_none rfl)
  | 49, _ =>
    obtain rfl : e34o49 = o := Option.some.inj (show e34Ops[49]? = some _ from ho)
    have q48 := dv 48 208 (by kernel_rfl) rfl rfl
    refine inv_enter 7 #[] hK (by simp [go_sem, e34o49]) (wanted_t q48 rfl rfl) ?_
    refine (haw x hR).mono ?_
    rintro e y ⟨rfl, h⟩
    exact ⟨_, rfl, rfl, h⟩
  | 50, _ =>
    obtain rfl : e34o50 = o := Option.some.inj (show e34Ops[50]? = some _ from ho)
    have e48 := eval_at (dv 48 208 (by kernel_rfl) rfl rfl)
    have e49 := eval_at (dv 49 209 (by kernel_rfl) rfl rfl)
    exact inv_stay hK rfl (by simp only [execOp, e34o50, e48, e49]; go_simp) (wanted_none rfl)
  | 51, _ =>
    obtain rfl : e34o51 = o := Option.some.inj (show e34Ops[51]? = some _ from ho)
    have e50 := eval_at (dv 50 210 (by kernel_rfl) rfl rfl)
    exact inv_stay hK rfl (by simp only [execOp, e34o51, e50]; go_simp) (wanted_none rfl)
end Go.Proofs.YtcahnkocfbcchaaGreatDoor

