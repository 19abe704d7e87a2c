/- FoldEnds' drawn region 16. -/
import Derived.Test.YtglgfpapackcdaaGreatGta

namespace Go.Proofs.YtglgfpapackcdaaGreat
open Go.RowKit Tnr

def f16Alive (b : Nat → Bool) : Nat → Bool
  | 0 => b 0 && !b 5
  | 5 => b 5 && !b 12
  | 11 => b 11 && !b 12
  | 12 => b 12 && !b 17
  | 17 => b 17
  | _ => false
def f16D (i : Nat) (F : List R) : Nat → List R
  | 0 => []
  | 5 => F.take i
  | 11 => [gr F i]
  | 12 => F.take i ++ [gr F i]
  | 17 => (F.take i ++ [gr F i]) ++ F.drop i
  | _ => []
structure f16H (i : Nat) (F : List R) (z : Nat) (b : Nat → Bool) (f : Nat → Value) (x : World) : Prop where
  c5_0 : b 5 = true → b 0 = true
  c12_5 : b 12 = true → b 5 = true
  c12_11 : b 12 = true → b 11 = true
  c17_12 : b 17 = true → b 12 = true
  rw : RWF x z (f16Alive b) f (f16D i F)
theorem f16H.pure {x y : World} {z io : Nat} {b : Nat → Bool} {f : Nat → Value} {u : Value} {i : Nat} {F : List R} (h : f16H i F z b f x) (hb : Below x.heap.size x y) (h0 : io ≠ 0) (h5 : io ≠ 5) (h11 : io ≠ 11) (h12 : io ≠ 12) (h17 : io ≠ 17) : f16H i F z (bset b io) (upd f io u) y := by
  have e0 := bset_ne (b := b) (Ne.symm h0)
  have e5 := bset_ne (b := b) (Ne.symm h5)
  have e11 := bset_ne (b := b) (Ne.symm h11)
  have e12 := bset_ne (b := b) (Ne.symm h12)
  have e17 := bset_ne (b := b) (Ne.symm h17)
  refine ⟨?_, ?_, ?_, ?_, ?_⟩
  · rw [e5, e0]; exact h.c5_0
  · rw [e12, e5]; exact h.c12_5
  · rw [e12, e11]; exact h.c12_11
  · rw [e17, e12]; exact h.c17_12
  · have ea : f16Alive (bset b io) = f16Alive b := by
      funext j
      unfold f16Alive
      simp only [e0, e5, e11, e12, e17]
    rw [ea]
    have hi : f16Alive b io = false := by
      unfold f16Alive
      split <;> first | rfl | (exfalso; first | exact h0 rfl | exact h5 rfl | exact h11 rfl | exact h12 rfl | exact h17 rfl)
    refine h.rw.next (fun j hj => ?_) (fun e => by rw [hi] at e; cases e)
    exact .inr ⟨(fun e => by subst e; rw [hi] at hj; cases hj), hj, fun g hg => hb.block g (RWF.lt h.rw hj hg)⟩
theorem f16alive0 {b : Nat → Bool} {j : Nat} (hj : f16Alive (bset b 0) j = true) (e : j ≠ 0) : f16Alive b j = true ∧ j ≠ 0 := by
  unfold f16Alive at hj ⊢
  split at hj
  · exact absurd rfl e
  · simp [bset] at hj ⊢ <;> simp [hj]
  · simp [bset] at hj ⊢ <;> simp [hj]
  · simp [bset] at hj ⊢ <;> simp [hj]
  · simp [bset] at hj ⊢ <;> simp [hj]
  · cases hj
theorem f16H.s0 {x y : World} {z : Nat} {b : Nat → Bool} {f : Nat → Value} {u : Value} {i : Nat} {F : List R} (h : f16H i F z b f x) (hb : Below x.heap.size x y) (ho : OwnF y z u (f16D i F 0)) (hu : u.ownBlock = some x.heap.size) (_ni : b 0 = false) : f16H i F z (bset b 0) (upd f 0 u) y := by
  refine ⟨?_, ?_, ?_, ?_, ?_⟩
  · exact fun _ => bset_eq
  · rw [bset_ne (show (12 : Nat) ≠ 0 by decide), bset_ne (show (5 : Nat) ≠ 0 by decide)]; exact h.c12_5
  · rw [bset_ne (show (12 : Nat) ≠ 0 by decide), bset_ne (show (11 : Nat) ≠ 0 by decide)]; exact h.c12_11
  · rw [bset_ne (show (17 : Nat) ≠ 0 by decide), bset_ne (show (12 : Nat) ≠ 0 by decide)]; exact h.c17_12
  · refine h.rw.next (fun j hj => ?_) (fun _ => ⟨ho, fun j g hj hp hg => ?_⟩)
    · by_cases e : j = 0
      · exact .inl e
      · refine .inr ⟨e, ?_⟩
        obtain ⟨a1, a2⟩ := f16alive0 (b := b) hj e
        exact ⟨a1, fun g hg => hb.block g (RWF.lt h.rw a1 hg)⟩
    · obtain ⟨a1, _⟩ := f16alive0 (b := b) hp hj
      have := RWF.lt h.rw a1 hg
      rw [hu]
      intro e
      have := Option.some.inj e
      omega
theorem f16alive5 {b : Nat → Bool} {j : Nat} (hj : f16Alive (bset b 5) j = true) (e : j ≠ 5) : f16Alive b j = true ∧ j ≠ 0 := by
  unfold f16Alive at hj ⊢
  split at hj
  · simp [bset] at hj ⊢ <;> simp [hj]
  · exact absurd rfl e
  · simp [bset] at hj ⊢ <;> simp [hj]
  · simp [bset] at hj ⊢ <;> simp [hj]
  · simp [bset] at hj ⊢ <;> simp [hj]
  · cases hj
theorem f16H.s5 {x y : World} {z : Nat} {b : Nat → Bool} {f : Nat → Value} {u : Value} {i : Nat} {F : List R} (h : f16H i F z b f x) (hg7 : x.grownBy y (f 0).ownBlock) (ho : OwnF y z u (f16D i F 5)) (hu : u.ownBlock = (f 0).ownBlock ∨ u.ownBlock = some x.heap.size) (k0 : b 0 = true) (ni : b 5 = false) : f16H i F z (bset b 5) (upd f 5 u) y := by
  have ksrc : f16Alive b 0 = true := by simp [f16Alive, k0, ni]
  refine ⟨?_, ?_, ?_, ?_, ?_⟩
  · rw [bset_ne (show (0 : Nat) ≠ 5 by decide)]; exact fun _ => k0
  · exact fun _ => bset_eq
  · rw [bset_ne (show (12 : Nat) ≠ 5 by decide), bset_ne (show (11 : Nat) ≠ 5 by decide)]; exact h.c12_11
  · rw [bset_ne (show (17 : Nat) ≠ 5 by decide), bset_ne (show (12 : Nat) ≠ 5 by decide)]; exact h.c17_12
  · refine h.rw.next (fun j hj => ?_) (fun _ => ⟨ho, fun j g hj hp hg => ?_⟩)
    · by_cases e : j = 5
      · exact .inl e
      · refine .inr ⟨e, ?_⟩
        obtain ⟨a1, a2⟩ := f16alive5 (b := b) hj e
        exact ⟨a1, fun g hg => hg7.block g (RWF.lt h.rw a1 hg) (fun e2 => h.rw.2 j 0 g a2 a1 ksrc hg e2.symm)⟩
    · obtain ⟨a1, a2⟩ := f16alive5 (b := b) hp hj
      rcases hu with hu | hu
      · rw [hu]; exact h.rw.2 j 0 g a2 a1 ksrc hg
      · have := RWF.lt h.rw a1 hg
        rw [hu]
        intro e
        have := Option.some.inj e
        omega
theorem f16alive11 {b : Nat → Bool} {j : Nat} (hj : f16Alive (bset b 11) j = true) (e : j ≠ 11) : f16Alive b j = true ∧ j ≠ 11 := by
  unfold f16Alive at hj ⊢
  split at hj
  · simp [bset] at hj ⊢ <;> simp [hj]
  · simp [bset] at hj ⊢ <;> simp [hj]
  · exact absurd rfl e
  · simp [bset] at hj ⊢ <;> simp [hj]
  · simp [bset] at hj ⊢ <;> simp [hj]
  · cases hj
theorem f16H.s11 {x y : World} {z : Nat} {b : Nat → Bool} {f : Nat → Value} {u : Value} {i : Nat} {F : List R} (h : f16H i F z b f x) (hb : Below x.heap.size x y) (ho : OwnF y z u (f16D i F 11)) (hu : u.ownBlock = some x.heap.size) (_ni : b 11 = false) : f16H i F z (bset b 11) (upd f 11 u) y := by
  refine ⟨?_, ?_, ?_, ?_, ?_⟩
  · rw [bset_ne (show (5 : Nat) ≠ 11 by decide), bset_ne (show (0 : Nat) ≠ 11 by decide)]; exact h.c5_0
  · rw [bset_ne (show (12 : Nat) ≠ 11 by decide), bset_ne (show (5 : Nat) ≠ 11 by decide)]; exact h.c12_5
  · exact fun _ => bset_eq
  · rw [bset_ne (show (17 : Nat) ≠ 11 by decide), bset_ne (show (12 : Nat) ≠ 11 by decide)]; exact h.c17_12
  · refine h.rw.next (fun j hj => ?_) (fun _ => ⟨ho, fun j g hj hp hg => ?_⟩)
    · by_cases e : j = 11
      · exact .inl e
      · refine .inr ⟨e, ?_⟩
        obtain ⟨a1, a2⟩ := f16alive11 (b := b) hj e
        exact ⟨a1, fun g hg => hb.block g (RWF.lt h.rw a1 hg)⟩
    · obtain ⟨a1, _⟩ := f16alive11 (b := b) hp hj
      have := RWF.lt h.rw a1 hg
      rw [hu]
      intro e
      have := Option.some.inj e
      omega
theorem f16alive12 {b : Nat → Bool} {j : Nat} (hj : f16Alive (bset b 12) j = true) (e : j ≠ 12) : f16Alive b j = true ∧ j ≠ 5 := by
  unfold f16Alive at hj ⊢
  split at hj
  · simp [bset] at hj ⊢ <;> simp [hj]
  · simp [bset] at hj ⊢ <;> simp [hj]
  · simp [bset] at hj ⊢ <;> simp [hj]
  · exact absurd rfl e
  · simp [bset] at hj ⊢ <;> simp [hj]
  · cases hj
theorem f16H.s12 {x y : World} {z : Nat} {b : Nat → Bool} {f : Nat → Value} {u : Value} {i : Nat} {F : List R} (h : f16H i F z b f x) (hg7 : x.grownBy y (f 5).ownBlock) (ho : OwnF y z u (f16D i F 12)) (hu : u.ownBlock = (f 5).ownBlock ∨ u.ownBlock = some x.heap.size) (k5 : b 5 = true) (k11 : b 11 = true) (ni : b 12 = false) : f16H i F z (bset b 12) (upd f 12 u) y := by
  have ksrc : f16Alive b 5 = true := by simp [f16Alive, k5, ni]
  refine ⟨?_, ?_, ?_, ?_, ?_⟩
  · rw [bset_ne (show (5 : Nat) ≠ 12 by decide), bset_ne (show (0 : Nat) ≠ 12 by decide)]; exact h.c5_0
  · rw [bset_ne (show (5 : Nat) ≠ 12 by decide)]; exact fun _ => k5
  · rw [bset_ne (show (11 : Nat) ≠ 12 by decide)]; exact fun _ => k11
  · exact fun _ => bset_eq
  · refine h.rw.next (fun j hj => ?_) (fun _ => ⟨ho, fun j g hj hp hg => ?_⟩)
    · by_cases e : j = 12
      · exact .inl e
      · refine .inr ⟨e, ?_⟩
        obtain ⟨a1, a2⟩ := f16alive12 (b := b) hj e
        exact ⟨a1, fun g hg => hg7.block g (RWF.lt h.rw a1 hg) (fun e2 => h.rw.2 j 5 g a2 a1 ksrc hg e2.symm)⟩
    · obtain ⟨a1, a2⟩ := f16alive12 (b := b) hp hj
      rcases hu with hu | hu
      · rw [hu]; exact h.rw.2 j 5 g a2 a1 ksrc hg
      · have := RWF.lt h.rw a1 hg
        rw [hu]
        intro e
        have := Option.some.inj e
        omega
theorem f16alive17 {b : Nat → Bool} {j : Nat} (hj : f16Alive (bset b 17) j = true) (e : j ≠ 17) : f16Alive b j = true ∧ j ≠ 12 := by
  unfold f16Alive at hj ⊢
  split at hj
  · simp [bset] at hj ⊢ <;> simp [hj]
  · simp [bset] at hj ⊢ <;> simp [hj]
  · simp [bset] at hj ⊢ <;> simp [hj]
  · simp [bset] at hj ⊢ <;> simp [hj]
  · exact absurd rfl e
  · cases hj
theorem f16H.s17 {x y : World} {z : Nat} {b : Nat → Bool} {f : Nat → Value} {u : Value} {i : Nat} {F : List R} (h : f16H i F z b f x) (hg7 : x.grownBy y (f 12).ownBlock) (ho : OwnF y z u (f16D i F 17)) (hu : u.ownBlock = (f 12).ownBlock ∨ u.ownBlock = some x.heap.size) (k12 : b 12 = true) (ni : b 17 = false) : f16H i F z (bset b 17) (upd f 17 u) y := by
  have ksrc : f16Alive b 12 = true := by simp [f16Alive, k12, ni]
  refine ⟨?_, ?_, ?_, ?_, ?_⟩
  · rw [bset_ne (show (5 : Nat) ≠ 17 by decide), bset_ne (show (0 : Nat) ≠ 17 by decide)]; exact h.c5_0
  · rw [bset_ne (show (12 : Nat) ≠ 17 by decide), bset_ne (show (5 : Nat) ≠ 17 by decide)]; exact h.c12_5
  · rw [bset_ne (show (12 : Nat) ≠ 17 by decide), bset_ne (show (11 : Nat) ≠ 17 by decide)]; exact h.c12_11
  · rw [bset_ne (show (12 : Nat) ≠ 17 by decide)]; exact fun _ => k12
  · refine h.rw.next (fun j hj => ?_) (fun _ => ⟨ho, fun j g hj hp hg => ?_⟩)
    · by_cases e : j = 17
      · exact .inl e
      · refine .inr ⟨e, ?_⟩
        obtain ⟨a1, a2⟩ := f16alive17 (b := b) hj e
        exact ⟨a1, fun g hg => hg7.block g (RWF.lt h.rw a1 hg) (fun e2 => h.rw.2 j 12 g a2 a1 ksrc hg e2.symm)⟩
    · obtain ⟨a1, a2⟩ := f16alive17 (b := b) hp hj
      rcases hu with hu | hu
      · rw [hu]; exact h.rw.2 j 12 g a2 a1 ksrc hg
      · have := RWF.lt h.rw a1 hg
        rw [hu]
        intro e
        have := Option.some.inj e
        omega
theorem f16H.none (i : Nat) (F : List R) (z : Nat) (f : Nat → Value) (x : World) : f16H i F z (fun _ => false) f x := by
  refine ⟨by simp, by simp, by simp, by simp, fun j hj => ?_, fun i j g _ hi => ?_⟩
  · unfold f16Alive at hj; split at hj <;> simp at hj
  · unfold f16Alive at hi; split at hi <;> simp at hi
def f16o0 : Oper := ⟨some 97, Op.buildSlice 27 0 #[], 27, "law.go:75", #[], none⟩
def f16o1 : Oper := ⟨some 98, Op.fieldAddr 30 (.tmp 8) 0, 0, "law.go:75", #[], none⟩
def f16o2 : Oper := ⟨some 99, Op.load 27 (.tmp 98), 27, "law.go:75", #[⟨1, .data⟩], none⟩
def f16o3 : Oper := ⟨some 100, Op.move (.tmp 3), 3, "law.go:75", #[], none⟩
def f16o4 : Oper := ⟨some 101, Op.slice 27 (.tmp 99) none (some (.tmp 100)) none, 27, "law.go:75", #[⟨2, .data⟩, ⟨3, .data⟩], none⟩
def f16o5 : Oper := ⟨some 102, Op.call { callee := Callee.builtin Builtin.append, args := #[.tmp 97, .tmp 101], argTypes := #[27, 27] }, 27, "law.go:75", #[⟨0, .data⟩, ⟨4, .data⟩], none⟩
def f16o6 : Oper := ⟨some 103, Op.fieldAddr 30 (.tmp 8) 0, 0, "law.go:75", #[], none⟩
def f16o7 : Oper := ⟨some 104, Op.load 27 (.tmp 103), 27, "law.go:75", #[⟨6, .data⟩], none⟩
def f16o8 : Oper := ⟨some 105, Op.move (.tmp 3), 3, "law.go:75", #[], none⟩
def f16o9 : Oper := ⟨some 106, Op.indexAddr 27 (.tmp 104) (.tmp 105), 0, "law.go:75", #[⟨7, .data⟩, ⟨8, .data⟩], none⟩
def f16o10 : Oper := ⟨some 107, Op.load 33 (.tmp 106), 33, "law.go:75", #[⟨9, .data⟩], none⟩
def f16o11 : Oper := ⟨some 108, Op.buildSlice 27 1 #[(0, .tmp 107)], 27, "law.go:75", #[⟨10, .data⟩], none⟩
def f16o12 : Oper := ⟨some 109, Op.call { callee := Callee.builtin Builtin.append, args := #[.tmp 102, .tmp 108], argTypes := #[27, 27] }, 27, "law.go:75", #[⟨5, .data⟩, ⟨11, .data⟩, ⟨5, .chain⟩], none⟩
def f16o13 : Oper := ⟨some 110, Op.fieldAddr 30 (.tmp 8) 0, 0, "law.go:75", #[], none⟩
def f16o14 : Oper := ⟨some 111, Op.load 27 (.tmp 110), 27, "law.go:75", #[⟨13, .data⟩], none⟩
def f16o15 : Oper := ⟨some 112, Op.move (.tmp 3), 3, "law.go:75", #[], none⟩
def f16o16 : Oper := ⟨some 113, Op.slice 27 (.tmp 111) (some (.tmp 112)) none none, 27, "law.go:75", #[⟨14, .data⟩, ⟨15, .data⟩], none⟩
def f16o17 : Oper := ⟨some 114, Op.call { callee := Callee.builtin Builtin.append, args := #[.tmp 109, .tmp 113], argTypes := #[27, 27] }, 27, "law.go:75", #[⟨12, .data⟩, ⟨16, .data⟩, ⟨12, .chain⟩], none⟩
def f16o18 : Oper := ⟨some 115, Op.fieldAddr 30 (.tmp 8) 0, 0, "law.go:75", #[⟨0, .phase⟩, ⟨1, .phase⟩, ⟨2, .phase⟩, ⟨3, .phase⟩, ⟨4, .phase⟩, ⟨5, .phase⟩, ⟨6, .phase⟩, ⟨7, .phase⟩, ⟨8, .phase⟩, ⟨9, .phase⟩, ⟨10, .phase⟩, ⟨11, .phase⟩, ⟨12, .phase⟩, ⟨13, .phase⟩, ⟨14, .phase⟩, ⟨15, .phase⟩, ⟨16, .phase⟩, ⟨17, .phase⟩], none⟩
def f16o19 : Oper := ⟨none, Op.store 27 (.tmp 115) (.tmp 114), 0, "law.go:75", #[⟨18, .data⟩, ⟨17, .data⟩, ⟨17, .chain⟩, ⟨0, .phase⟩, ⟨1, .phase⟩, ⟨2, .phase⟩, ⟨3, .phase⟩, ⟨4, .phase⟩, ⟨5, .phase⟩, ⟨6, .phase⟩, ⟨7, .phase⟩, ⟨8, .phase⟩, ⟨9, .phase⟩, ⟨10, .phase⟩, ⟨11, .phase⟩, ⟨12, .phase⟩, ⟨13, .phase⟩, ⟨14, .phase⟩, ⟨15, .phase⟩, ⟨16, .phase⟩, ⟨17, .phase⟩], none⟩
def f16Ops : Array Oper := #[f16o0, f16o1, f16o2, f16o3, f16o4, f16o5, f16o6, f16o7, f16o8, f16o9, f16o10, f16o11, f16o12, f16o13, f16o14, f16o15, f16o16, f16o17, f16o18, f16o19]
def f16Pre : Array Bool := #[true, true, true, true, true, true, true, true, true, true, true, true, true, true, true, true, true, true, false, false]
def f16K (bx b1 i : Nat) (F : List R) : Nat → Value → Prop
  | 0 => fun v => ∃ g, v = .slice (some ⟨g, 0, none⟩) 0 0
  | 1 => fun v => v = .pointer (some ⟨bx, 0, none⟩)
  | 2 => fun v => v = .slice (some ⟨b1, 0, none⟩) 4 4
  | 3 => fun v => v = .int .i64 ((i : Nat) : Int)
  | 4 => fun v => v = .slice (some ⟨b1, 0, none⟩) i 4
  | 5 => fun v => ∃ q c, v = .slice q i c
  | 6 => fun v => v = .pointer (some ⟨bx, 0, none⟩)
  | 7 => fun v => v = .slice (some ⟨b1, 0, none⟩) 4 4
  | 8 => fun v => v = .int .i64 ((i : Nat) : Int)
  | 9 => fun v => v = .pointer (some ⟨b1, i * 2, none⟩)
  | 10 => fun v => v = .agg #[.int .i64 (gr F i).1, .int .i64 (gr F i).2]
  | 11 => fun v => ∃ g, v = .slice (some ⟨g, 0, none⟩) 1 1
  | 12 => fun v => ∃ q c, v = .slice q (i + 1) c
  | 13 => fun v => v = .pointer (some ⟨bx, 0, none⟩)
  | 14 => fun v => v = .slice (some ⟨b1, 0, none⟩) 4 4
  | 15 => fun v => v = .int .i64 ((i : Nat) : Int)
  | 16 => fun v => v = .slice (some ⟨b1, i * 2, none⟩) (4 - i) (4 - i)
  | 17 => fun v => ∃ q c, v = .slice q 5 c
  | _ => fun _ => True
theorem f16_slots (f : Nat → Value) : slotsOf f16Ops f16Pre f = [(97, f 0), (98, f 1), (99, f 2), (100, f 3), (101, f 4), (102, f 5), (103, f 6), (104, f 7), (105, f 8), (106, f 9), (107, f 10), (108, f 11), (109, f 12), (110, f 13), (111, f 14), (112, f 15), (113, f 16), (114, f 17)] := by kernel_rfl
set_option maxHeartbeats 6400000 in
set_option maxRecDepth 100000 in
theorem f16_wp {Q : Exit → Act → World → Prop} {a0 : Act} {w : World} (bx b1 i : Nat) (F : List R) (hsize : a0.tmps.size = 258) (h3 : a0.tmps[3]? = some (.int .i64 ((i : Nat) : Int))) (hb : a0.tmps[8]? = some (.pointer (some ⟨bx, 0, none⟩))) (hc : w.drew.cell? ⟨bx, 0, none⟩ = some (.slice (some ⟨b1, 0, none⟩) 4 4)) (hs : SlR w.drew (some ⟨b1, 0, none⟩) F) (hF : F.length = 4) (hi : i < 4)
    (fin : ∀ (f : Nat → Value) (y : World), (∀ j, j < 20 → f16Pre.getD j false = true → f16K bx b1 i F j (f j)) → Below w.drew.heap.size w.drew y → f16H i F w.drew.heap.size (fun j => f16Pre.getD j false) f y → wpAny Tryz.prog .any f16Ops Q 2 f16Pre (putL a0 [(97, f 0), (98, f 1), (99, f 2), (100, f 3), (101, f 4), (102, f 5), (103, f 6), (104, f 7), (105, f 8), (106, f 9), (107, f 10), (108, f 11), (109, f 12), (110, f 13), (111, f 14), (112, f 15), (113, f 16), (114, f 17)]) y) (id : Nat) :
    (Code.region id f16Ops true).wp Tryz.prog Q a0 w := by
  refine wp_region_invS9 f16Pre (fun j v _ => f16K bx b1 i F j v) (fun done f x => f16H i F w.drew.heap.size (fun j => done.getD j false) f x) (fun x y => Below w.drew.heap.size x y) 18 2 (by kernel_rfl) (by kernel_rfl) (by rw [hsize]; kernel_rfl) (by kernel_rfl) (by kernel_rfl) (Below.refl _ _) (fun _ _ _ h1 h2 => h1.trans h2) (fun _ _ _ _ h1 _ => h1) ?_ (fun f y h1 h2 h3 => by rw [f16_slots]; exact fin f y h1 h2 h3) ?_
  rotate_left
  · have e : (fun j => (Array.replicate f16Ops.size false).getD j false) = fun _ => false := by
      funext j
      by_cases hj : j < f16Ops.size <;> simp [hj]
    show f16H i F w.drew.heap.size (fun j => (Array.replicate f16Ops.size false).getD j false) _ _
    rw [e]
    exact f16H.none i F _ _ _
  intro i_ o ho hp done f a x hR hbase hdeps hH0 hdsz hnd hdd hgood K hK0
  have hi_ : i_ < 20 := by
    rcases Nat.lt_or_ge i_ 20 with h | h
    · exact h
    · have : f16Ops.size ≤ i_ := h
      rw [Array.getElem?_eq_none this] at ho; cases ho
  have hH : f16H i F w.drew.heap.size (fun j => done.getD j false) f x := hH0
  have hzx := hR.size
  have hlt : i_ < done.size := by rw [hdsz]; exact hi_
  have hnd' : done.getD i_ false = false := by rw [getD_flip hlt false true]; exact hnd
  have ha : ∀ (u : Value) (y : World), f16K bx b1 i F i_ u → Below w.drew.heap.size x y → f16H i F w.drew.heap.size (bset (fun j => done.getD j false) i_) (upd f i_ u) y → K (a.put o.dst u) y := fun u y k1 k2 k3 => hK0 u y k1 k2 (by rw [← bits_set hlt] at k3; exact k3)
  clear hK0
  have dep : ∀ j, (o.after.any fun e => Region.binds .any e && e.on == j) = true → (∀ s, slotOf f16Ops j = some s → a.tmps[s]? = some (f j)) ∧ f16K bx b1 i F j (f j) := by
    intro j h
    obtain ⟨e, he, h2⟩ := Array.any_eq_true'.1 h
    simp only [Bool.and_eq_true, beq_iff_eq] at h2
    obtain ⟨h3, rfl⟩ := h2
    exact hdeps e he h3
  have kd : ∀ j, j < 20 → (o.after.any fun e => Region.binds .any e && e.on == j) = true → done.getD j false = true := by
    intro j hj h
    obtain ⟨e, he, h2⟩ := Array.any_eq_true'.1 h
    simp only [Bool.and_eq_true, beq_iff_eq] at h2
    obtain ⟨h3, rfl⟩ := h2
    rw [getD_flip (by rw [hdsz]; exact hj) false true]; exact hdd e he h3
  have bv : ∀ {s : Nat} {v : Value}, a0.tmps[s]? = some v → ((List.range f16Ops.size).all fun j => !(f16Pre.getD j false) || slotOf f16Ops j != some s) = true → a.tmps[s]? = some v := by
    intro s v h0 h
    rw [hbase s fun j hj hjp e => ?_]; exact h0
    have h2 := (List.all_eq_true.1 h) j (List.mem_range.2 hj)
    rw [e, hjp] at h2; simp at h2
  have kc : x.cell? ⟨bx, 0, none⟩ = some (.slice (some ⟨b1, 0, none⟩) 4 4) := keep_cellK hR hc
  have kF : SlR x (some ⟨b1, 0, none⟩) F := hs.below hR
  match i_, hi_ with
  | 0, _ =>
    obtain rfl : f16o0 = o := Option.some.inj (show f16Ops[0]? = some _ from ho)
    refine inv_val (G := fun u V => u = .slice (some ⟨x.heap.size, 0, none⟩) 0 0 ∧ x.alloc (.cells #[] 33) = V) (R := fun _ _ => True) (wanted_none rfl) (v := .slice (some ⟨x.heap.size, 0, none⟩) 0 0) (w2 := x.alloc (.cells #[] 33)) (by simp only [execOp, f16o0]; go_simp) ?_ ⟨rfl, rfl⟩ trivial
    rintro _ _ ⟨rfl, rfl⟩ _
    exact ha _ _ (⟨_, rfl⟩) ((Below.refl _ _).alloc hzx _) (hH.s0 (bl_alloc _ _) (ownF_new (l := []) hzx rfl rfl (by decide)) rfl hnd')
  | 1, _ =>
    obtain rfl : f16o1 = o := Option.some.inj (show f16Ops[1]? = some _ from ho)
    have qb := eval_at (bv hb (by kernel_rfl))
    refine inv_val (G := fun u V => u = .pointer (some ⟨bx, 0, none⟩) ∧ x = V) (R := fun _ _ => True) (wanted_none rfl) (v := .pointer (some ⟨bx, 0, none⟩)) (w2 := x) (by simp only [execOp, f16o1, qb]; go_simp) ?_ ⟨rfl, rfl⟩ trivial
    rintro _ _ ⟨rfl, rfl⟩ _
    exact ha _ _ (rfl) (Below.refl _ _) (hH.pure (Below.refl _ _) (by decide) (by decide) (by decide) (by decide) (by decide))
  | 2, _ =>
    obtain rfl : f16o2 = o := Option.some.inj (show f16Ops[2]? = some _ from ho)
    obtain ⟨t1, g1⟩ := dep 1 (by kernel_rfl)
    have q1 := t1 98 (by rfl)
    have e1 : f 1 = .pointer (some ⟨bx, 0, none⟩) := g1
    rw [e1] at q1
    have w1 := eval_at q1
    refine inv_val (G := fun u V => u = .slice (some ⟨b1, 0, none⟩) 4 4 ∧ x = V) (R := fun _ _ => True) (wanted_none rfl) (v := .slice (some ⟨b1, 0, none⟩) 4 4) (w2 := x) (by simp only [execOp, f16o2, w1]; go_simp) ?_ ⟨rfl, rfl⟩ trivial
    rintro _ _ ⟨rfl, rfl⟩ _
    exact ha _ _ (rfl) (Below.refl _ _) (hH.pure (Below.refl _ _) (by decide) (by decide) (by decide) (by decide) (by decide))
  | 3, _ =>
    obtain rfl : f16o3 = o := Option.some.inj (show f16Ops[3]? = some _ from ho)
    have qb := eval_at (bv h3 (by kernel_rfl))
    refine inv_val (G := fun u V => u = .int .i64 ((i : Nat) : Int) ∧ x = V) (R := fun _ _ => True) (wanted_none rfl) (v := .int .i64 ((i : Nat) : Int)) (w2 := x) (by simp only [execOp, f16o3, qb]; go_simp) ?_ ⟨rfl, rfl⟩ trivial
    rintro _ _ ⟨rfl, rfl⟩ _
    exact ha _ _ (rfl) (Below.refl _ _) (hH.pure (Below.refl _ _) (by decide) (by decide) (by decide) (by decide) (by decide))
  | 4, _ =>
    obtain rfl : f16o4 = o := Option.some.inj (show f16Ops[4]? = some _ from ho)
    obtain ⟨t2, g2⟩ := dep 2 (by kernel_rfl)
    have q2 := t2 99 (by rfl)
    have e2 : f 2 = .slice (some ⟨b1, 0, none⟩) 4 4 := g2
    rw [e2] at q2
    have w2 := eval_at q2
    obtain ⟨t3, g3⟩ := dep 3 (by kernel_rfl)
    have q3 := t3 100 (by rfl)
    have e3 : f 3 = .int .i64 ((i : Nat) : Int) := g3
    rw [e3] at q3
    have w3 := eval_at q3
    have hiI : ((i : Nat) : Int) < 4 := by omega
    have hi0 : (0 : Int) ≤ ((i : Nat) : Int) := by omega
    refine inv_val (G := fun u V => u = .slice (some ⟨b1, 0, none⟩) i 4 ∧ x = V) (R := fun _ _ => True) (wanted_none rfl) (v := .slice (some ⟨b1, 0, none⟩) i 4) (w2 := x) (by rcases (show i = 0 ∨ i = 1 ∨ i = 2 ∨ i = 3 by omega) with rfl | rfl | rfl | rfl <;> (simp only [execOp, f16o4, w2]; go_simp; try rfl)) ?_ ⟨rfl, rfl⟩ trivial
    rintro _ _ ⟨rfl, rfl⟩ _
    exact ha _ _ (rfl) (Below.refl _ _) (hH.pure (Below.refl _ _) (by decide) (by decide) (by decide) (by decide) (by decide))
  | 5, _ =>
    obtain rfl : f16o5 = o := Option.some.inj (show f16Ops[5]? = some _ from ho)
    obtain ⟨t0, g0⟩ := dep 0 (by kernel_rfl)
    have q0 := t0 97 (by rfl)
    have k0 := kd 0 (by decide) (by kernel_rfl)
    have ho : OwnF x w.drew.heap.size (f 0) ([]) := hH.rw.1 0 (by simp [f16Alive, k0, hnd'])
    obtain ⟨t4, g4⟩ := dep 4 (by kernel_rfl)
    have q4 := t4 101 (by rfl)
    have e4 : f 4 = .slice (some ⟨b1, 0, none⟩) i 4 := g4
    rw [e4] at q4
    have w4 := eval_at q4
    have qs_ := q4
    obtain ⟨v', w', r1, r2, r3, r4⟩ := run_joinFA (cq := 4) (n := i) 27 ho (slR_take kF i) (by rw [List.length_take]; omega) (by simp) (by simp; omega) hzx
    refine step_append_run rfl _ _ 27 rfl (f 0) _ v' (eval_at q0) (eval_at qs_) r1 ?_
    obtain ⟨q_, c_, hv', _⟩ := ownF_form r2
    exact ha v' w' ⟨q_, c_, by rw [hv']; simp; omega⟩ ((Below.refl _ _).grown r3 hzx (fun k hk => (World.ownsRow.lt ho k hk).1)) (hH.s5 r3 r2 r4 k0 hnd')
  | 6, _ =>
    obtain rfl : f16o6 = o := Option.some.inj (show f16Ops[6]? = some _ from ho)
    have qb := eval_at (bv hb (by kernel_rfl))
    refine inv_val (G := fun u V => u = .pointer (some ⟨bx, 0, none⟩) ∧ x = V) (R := fun _ _ => True) (wanted_none rfl) (v := .pointer (some ⟨bx, 0, none⟩)) (w2 := x) (by simp only [execOp, f16o6, qb]; go_simp) ?_ ⟨rfl, rfl⟩ trivial
    rintro _ _ ⟨rfl, rfl⟩ _
    exact ha _ _ (rfl) (Below.refl _ _) (hH.pure (Below.refl _ _) (by decide) (by decide) (by decide) (by decide) (by decide))
  | 7, _ =>
    obtain rfl : f16o7 = o := Option.some.inj (show f16Ops[7]? = some _ from ho)
    obtain ⟨t6, g6⟩ := dep 6 (by kernel_rfl)
    have q6 := t6 103 (by rfl)
    have e6 : f 6 = .pointer (some ⟨bx, 0, none⟩) := g6
    rw [e6] at q6
    have w6 := eval_at q6
    refine inv_val (G := fun u V => u = .slice (some ⟨b1, 0, none⟩) 4 4 ∧ x = V) (R := fun _ _ => True) (wanted_none rfl) (v := .slice (some ⟨b1, 0, none⟩) 4 4) (w2 := x) (by simp only [execOp, f16o7, w6]; go_simp) ?_ ⟨rfl, rfl⟩ trivial
    rintro _ _ ⟨rfl, rfl⟩ _
    exact ha _ _ (rfl) (Below.refl _ _) (hH.pure (Below.refl _ _) (by decide) (by decide) (by decide) (by decide) (by decide))
  | 8, _ =>
    obtain rfl : f16o8 = o := Option.some.inj (show f16Ops[8]? = some _ from ho)
    have qb := eval_at (bv h3 (by kernel_rfl))
    refine inv_val (G := fun u V => u = .int .i64 ((i : Nat) : Int) ∧ x = V) (R := fun _ _ => True) (wanted_none rfl) (v := .int .i64 ((i : Nat) : Int)) (w2 := x) (by simp only [execOp, f16o8, qb]; go_simp) ?_ ⟨rfl, rfl⟩ trivial
    rintro _ _ ⟨rfl, rfl⟩ _
    exact ha _ _ (rfl) (Below.refl _ _) (hH.pure (Below.refl _ _) (by decide) (by decide) (by decide) (by decide) (by decide))
  | 9, _ =>
    obtain rfl : f16o9 = o := Option.some.inj (show f16Ops[9]? = some _ from ho)
    obtain ⟨t7, g7⟩ := dep 7 (by kernel_rfl)
    have q7 := t7 104 (by rfl)
    have e7 : f 7 = .slice (some ⟨b1, 0, none⟩) 4 4 := g7
    rw [e7] at q7
    have w7 := eval_at q7
    obtain ⟨t8, g8⟩ := dep 8 (by kernel_rfl)
    have q8 := t8 105 (by rfl)
    have e8 : f 8 = .int .i64 ((i : Nat) : Int) := g8
    rw [e8] at q8
    have w8 := eval_at q8
    refine inv_val (G := fun u V => u = .pointer (some ⟨b1, i * 2, none⟩) ∧ x = V) (R := fun _ _ => True) (wanted_none rfl) (v := .pointer (some ⟨b1, i * 2, none⟩)) (w2 := x) (by rcases (show i = 0 ∨ i = 1 ∨ i = 2 ∨ i = 3 by omega) with rfl | rfl | rfl | rfl <;> (simp only [execOp, f16o9, w7, w8]; go_simp)) ?_ ⟨rfl, rfl⟩ trivial
    rintro _ _ ⟨rfl, rfl⟩ _
    exact ha _ _ (rfl) (Below.refl _ _) (hH.pure (Below.refl _ _) (by decide) (by decide) (by decide) (by decide) (by decide))
  | 10, _ =>
    obtain rfl : f16o10 = o := Option.some.inj (show f16Ops[10]? = some _ from ho)
    obtain ⟨t9, g9⟩ := dep 9 (by kernel_rfl)
    have q9 := t9 106 (by rfl)
    have e9 : f 9 = .pointer (some ⟨b1, i * 2, none⟩) := g9
    rw [e9] at q9
    have w9 := eval_at q9
    obtain ⟨kc1, kc2⟩ : x.cell? ⟨b1, i * 2, none⟩ = some (.int .i64 (gr F i).1) ∧ x.cell? ⟨b1, i * 2 + 1, none⟩ = some (.int .i64 (gr F i).2) := by
      rcases kF with h | ⟨b_, off_, h1_, h2_⟩
      · rw [h] at hF; cases hF
      · cases h1_; have := h2_ i (by omega); rw [Nat.zero_add] at this; exact this
    refine inv_val (G := fun u V => u = .agg #[.int .i64 (gr F i).1, .int .i64 (gr F i).2] ∧ x = V) (R := fun _ _ => True) (wanted_none rfl) (v := .agg #[.int .i64 (gr F i).1, .int .i64 (gr F i).2]) (w2 := x) (by simp only [execOp, f16o10, w9]; go_simp) ?_ ⟨rfl, rfl⟩ trivial
    rintro _ _ ⟨rfl, rfl⟩ _
    exact ha _ _ (rfl) (Below.refl _ _) (hH.pure (Below.refl _ _) (by decide) (by decide) (by decide) (by decide) (by decide))
  | 11, _ =>
    obtain rfl : f16o11 = o := Option.some.inj (show f16Ops[11]? = some _ from ho)
    obtain ⟨t10, g10⟩ := dep 10 (by kernel_rfl)
    have q10 := t10 107 (by rfl)
    have e10 : f 10 = .agg #[.int .i64 (gr F i).1, .int .i64 (gr F i).2] := g10
    rw [e10] at q10
    have w10 := eval_at q10
    refine inv_val (G := fun u V => u = .slice (some ⟨x.heap.size, 0, none⟩) 1 1 ∧ x.alloc (.cells #[.int .i64 (gr F i).1, .int .i64 (gr F i).2] 33) = V) (R := fun _ _ => True) (wanted_none rfl) (v := .slice (some ⟨x.heap.size, 0, none⟩) 1 1) (w2 := x.alloc (.cells #[.int .i64 (gr F i).1, .int .i64 (gr F i).2] 33)) (by simp only [execOp, f16o11]; go_simp) ?_ ⟨rfl, rfl⟩ trivial
    rintro _ _ ⟨rfl, rfl⟩ _
    exact ha _ _ (⟨_, rfl⟩) ((Below.refl _ _).alloc hzx _) (hH.s11 (bl_alloc _ _) (ownF_new (l := [gr F i]) hzx rfl rfl (by simp)) rfl hnd')
  | 12, _ =>
    obtain rfl : f16o12 = o := Option.some.inj (show f16Ops[12]? = some _ from ho)
    obtain ⟨t5, g5⟩ := dep 5 (by kernel_rfl)
    have q5 := t5 102 (by rfl)
    have k5 := kd 5 (by decide) (by kernel_rfl)
    have k11 := kd 11 (by decide) (by kernel_rfl)
    have ho : OwnF x w.drew.heap.size (f 5) (F.take i) := hH.rw.1 5 (by simp [f16Alive, k5, hnd'])
    obtain ⟨t11, g11⟩ := dep 11 (by kernel_rfl)
    have q11 := t11 108 (by rfl)
    obtain ⟨g_, e11⟩ : ∃ g, f 11 = .slice (some ⟨g, 0, none⟩) 1 1 := g11
    rw [e11] at q11
    have qs_ := q11
    have o11 : OwnF x w.drew.heap.size (f 11) [gr F i] := hH.rw.1 11 (by simp [f16Alive, k11, hnd'])
    rw [e11] at o11
    have hs_ : SlR x (some ⟨g_, 0, none⟩) [gr F i] := by obtain ⟨p_, c_, ee, _, _, _, hs2, _⟩ := ownF_form o11; simp only [Value.slice.injEq] at ee; rw [ee.1]; exact hs2
    obtain ⟨v', w', r1, r2, r3, r4⟩ := run_joinFA (cq := 1) (n := 1) 27 ho hs_ (rfl) (by simp) (by simp; omega) hzx
    refine step_append_run rfl _ _ 27 rfl (f 5) _ v' (eval_at q5) (eval_at qs_) r1 ?_
    obtain ⟨q_, c_, hv', _⟩ := ownF_form r2
    exact ha v' w' ⟨q_, c_, by rw [hv']; simp; omega⟩ ((Below.refl _ _).grown r3 hzx (fun k hk => (World.ownsRow.lt ho k hk).1)) (hH.s12 r3 r2 r4 k5 k11 hnd')
  | 13, _ =>
    obtain rfl : f16o13 = o := Option.some.inj (show f16Ops[13]? = some _ from ho)
    have qb := eval_at (bv hb (by kernel_rfl))
    refine inv_val (G := fun u V => u = .pointer (some ⟨bx, 0, none⟩) ∧ x = V) (R := fun _ _ => True) (wanted_none rfl) (v := .pointer (some ⟨bx, 0, none⟩)) (w2 := x) (by simp only [execOp, f16o13, qb]; go_simp) ?_ ⟨rfl, rfl⟩ trivial
    rintro _ _ ⟨rfl, rfl⟩ _
    exact ha _ _ (rfl) (Below.refl _ _) (hH.pure (Below.refl _ _) (by decide) (by decide) (by decide) (by decide) (by decide))
  | 14, _ =>
    obtain rfl : f16o14 = o := Option.some.inj (show f16Ops[14]? = some _ from ho)
    obtain ⟨t13, g13⟩ := dep 13 (by kernel_rfl)
    have q13 := t13 110 (by rfl)
    have e13 : f 13 = .pointer (some ⟨bx, 0, none⟩) := g13
    rw [e13] at q13
    have w13 := eval_at q13
    refine inv_val (G := fun u V => u = .slice (some ⟨b1, 0, none⟩) 4 4 ∧ x = V) (R := fun _ _ => True) (wanted_none rfl) (v := .slice (some ⟨b1, 0, none⟩) 4 4) (w2 := x) (by simp only [execOp, f16o14, w13]; go_simp) ?_ ⟨rfl, rfl⟩ trivial
    rintro _ _ ⟨rfl, rfl⟩ _
    exact ha _ _ (rfl) (Below.refl _ _) (hH.pure (Below.refl _ _) (by decide) (by decide) (by decide) (by decide) (by decide))
  | 15, _ =>
    obtain rfl : f16o15 = o := Option.some.inj (show f16Ops[15]? = some _ from ho)
    have qb := eval_at (bv h3 (by kernel_rfl))
    refine inv_val (G := fun u V => u = .int .i64 ((i : Nat) : Int) ∧ x = V) (R := fun _ _ => True) (wanted_none rfl) (v := .int .i64 ((i : Nat) : Int)) (w2 := x) (by simp only [execOp, f16o15, qb]; go_simp) ?_ ⟨rfl, rfl⟩ trivial
    rintro _ _ ⟨rfl, rfl⟩ _
    exact ha _ _ (rfl) (Below.refl _ _) (hH.pure (Below.refl _ _) (by decide) (by decide) (by decide) (by decide) (by decide))
  | 16, _ =>
    obtain rfl : f16o16 = o := Option.some.inj (show f16Ops[16]? = some _ from ho)
    obtain ⟨t14, g14⟩ := dep 14 (by kernel_rfl)
    have q14 := t14 111 (by rfl)
    have e14 : f 14 = .slice (some ⟨b1, 0, none⟩) 4 4 := g14
    rw [e14] at q14
    have w14 := eval_at q14
    obtain ⟨t15, g15⟩ := dep 15 (by kernel_rfl)
    have q15 := t15 112 (by rfl)
    have e15 : f 15 = .int .i64 ((i : Nat) : Int) := g15
    rw [e15] at q15
    have w15 := eval_at q15
    have hiI : ((i : Nat) : Int) < 4 := by omega
    have hi0 : (0 : Int) ≤ ((i : Nat) : Int) := by omega
    refine inv_val (G := fun u V => u = .slice (some ⟨b1, i * 2, none⟩) (4 - i) (4 - i) ∧ x = V) (R := fun _ _ => True) (wanted_none rfl) (v := .slice (some ⟨b1, i * 2, none⟩) (4 - i) (4 - i)) (w2 := x) (by rcases (show i = 0 ∨ i = 1 ∨ i = 2 ∨ i = 3 by omega) with rfl | rfl | rfl | rfl <;> (simp only [execOp, f16o16, w14]; go_simp; try rfl)) ?_ ⟨rfl, rfl⟩ trivial
    rintro _ _ ⟨rfl, rfl⟩ _
    exact ha _ _ (rfl) (Below.refl _ _) (hH.pure (Below.refl _ _) (by decide) (by decide) (by decide) (by decide) (by decide))
  | 17, _ =>
    obtain rfl : f16o17 = o := Option.some.inj (show f16Ops[17]? = some _ from ho)
    obtain ⟨t12, g12⟩ := dep 12 (by kernel_rfl)
    have q12 := t12 109 (by rfl)
    have k12 := kd 12 (by decide) (by kernel_rfl)
    have ho : OwnF x w.drew.heap.size (f 12) (F.take i ++ [gr F i]) := hH.rw.1 12 (by simp [f16Alive, k12, hnd'])
    obtain ⟨t16, g16⟩ := dep 16 (by kernel_rfl)
    have q16 := t16 113 (by rfl)
    have e16 : f 16 = .slice (some ⟨b1, i * 2, none⟩) (4 - i) (4 - i) := g16
    rw [e16] at q16
    have w16 := eval_at q16
    have qs_ := q16
    obtain ⟨v', w', r1, r2, r3, r4⟩ := run_joinFA (cq := 4 - i) (n := 4 - i) 27 ho (slR_drop kF i (i * 2) (fun _ => rfl)) (by rw [List.length_drop]; omega) (by simp) (by simp; omega) hzx
    refine step_append_run rfl _ _ 27 rfl (f 12) _ v' (eval_at q12) (eval_at qs_) r1 ?_
    obtain ⟨q_, c_, hv', _⟩ := ownF_form r2
    exact ha v' w' ⟨q_, c_, by rw [hv']; simp; omega⟩ ((Below.refl _ _).grown r3 hzx (fun k hk => (World.ownsRow.lt ho k hk).1)) (hH.s17 r3 r2 r4 k12 hnd')
  | 18, _ => exact absurd (show f16Pre.getD 18 false = true from hp) (by decide)
  | 19, _ => exact absurd (show f16Pre.getD 19 false = true from hp) (by decide)
set_option maxHeartbeats 3200000 in
set_option maxRecDepth 100000 in
theorem f16_all {Q : Exit → Act → World → Prop} {a0 : Act} {w : World} (bx b1 i : Nat) (F : List R) (u1 : Value) (hsize : a0.tmps.size = 258) (h3 : a0.tmps[3]? = some (.int .i64 ((i : Nat) : Int))) (hb : a0.tmps[8]? = some (.pointer (some ⟨bx, 0, none⟩))) (hc : w.drew.cell? ⟨bx, 0, none⟩ = some (.slice (some ⟨b1, 0, none⟩) 4 4)) (hs : SlR w.drew (some ⟨b1, 0, none⟩) F) (hF : F.length = 4) (hi : i < 4)
    (hx : Bx w.drew bx 30 #[.slice (some ⟨b1, 0, none⟩) 4 4, u1])
    (fin : ∀ (f : Nat → Value) (q : Option Addr) (c : Nat) (y : World), OwnF y w.drew.heap.size (.slice q 5 c) ((F.take i ++ [gr F i]) ++ F.drop i) → Bx y bx 30 #[.slice q 5 c, u1] → w.drew.grownBy y (some bx) → Q .normal ((putL a0 [(97, f 0), (98, f 1), (99, f 2), (100, f 3), (101, f 4), (102, f 5), (103, f 6), (104, f 7), (105, f 8), (106, f 9), (107, f 10), (108, f 11), (109, f 12), (110, f 13), (111, f 14), (112, f 15), (113, f 16), (114, .slice q 5 c)]).put (some 115) (.pointer (some ⟨bx, 0, none⟩))) y) (id : Nat) :
    (Code.region id f16Ops true).wp Tryz.prog Q a0 w := by
  refine f16_wp bx b1 i F hsize h3 hb hc hs hF hi ?_ id
  intro f y hk hbl hH
  have ol : OwnF y w.drew.heap.size (f 17) ((F.take i ++ [gr F i]) ++ F.drop i) := hH.rw.1 17 rfl
  obtain ⟨q, c, el⟩ : ∃ q c, f 17 = .slice q 5 c := hk 17 (by decide) (by decide)
  rw [el] at ol
  have hbx : bx < w.drew.heap.size := hx.lt
  have xy := hx.below hbl
  have c0 : y.cell? ⟨bx, 0, none⟩ = some (.slice (some ⟨b1, 0, none⟩) 4 4) := xy.cell rfl
  have f0 := xy.free 0
  have x2 : Bx (y.setCell ⟨bx, 0, none⟩ (.slice q 5 c)) bx 30 #[.slice q 5 c, u1] := xy.set 0 (.slice q 5 c)
  have o2 : OwnF (y.setCell ⟨bx, 0, none⟩ (.slice q 5 c)) w.drew.heap.size (.slice q 5 c) ((F.take i ++ [gr F i]) ++ F.drop i) := ownF_keep ol fun g hg => by
    have := (World.ownsRow.lt ol g hg).1
    exact Below.heap_setCell _ _ _ _ (show g ≠ bx by omega)
  have gr : w.drew.grownBy (y.setCell ⟨bx, 0, none⟩ (.slice q 5 c)) (some bx) := ⟨hbl.os, hbl.tape, hbl.output, by rw [World.size_setCell]; exact hbl.size, fun k hk hne => (Below.heap_setCell _ _ _ _ (fun e => hne (by rw [e]))).trans (hbl.block k hk)⟩
  have fin' := fin f q c _ o2 x2 gr
  rw [el]
  have H : Has 258 (putL a0 [(97, f 0), (98, f 1), (99, f 2), (100, f 3), (101, f 4), (102, f 5), (103, f 6), (104, f 7), (105, f 8), (106, f 9), (107, f 10), (108, f 11), (109, f 12), (110, f 13), (111, f 14), (112, f 15), (113, f 16), (114, .slice q 5 c)]) [(114, .slice q 5 c), (8, .pointer (some ⟨bx, 0, none⟩))] := by
    refine ⟨by rw [putL_size]; exact hsize, fun s v hm => ?_⟩
    have h1 := putL_get [(97, f 0), (98, f 1), (99, f 2), (100, f 3), (101, f 4), (102, f 5), (103, f 6), (104, f 7), (105, f 8), (106, f 9), (107, f 10), (108, f 11), (109, f 12), (110, f 13), (111, f 14), (112, f 15), (113, f 16), (114, .slice q 5 c)] a0 s (by simp) (by rw [hsize]; simp)
    simp only [List.mem_cons, Prod.mk.injEq, List.not_mem_nil, or_false] at hm
    rcases hm with ⟨rfl, rfl⟩ | ⟨rfl, rfl⟩
    · exact h1.2 _ (by simp)
    · rw [h1.1 (by simp)]; exact hb
  clear fin hk hH ol el hx xy x2 o2 gr
  generalize putL a0 [(97, f 0), (98, f 1), (99, f 2), (100, f 3), (101, f 4), (102, f 5), (103, f 6), (104, f 7), (105, f 8), (106, f 9), (107, f 10), (108, f 11), (109, f 12), (110, f 13), (111, f 14), (112, f 15), (113, f 16), (114, .slice q 5 c)] = a at H fin' ⊢
  refine any_one (i := 18) (o := f16o18) (by kernel_rfl) rfl ?_
  have d1 := eval_at (H.2 8 (.pointer (some ⟨bx, 0, none⟩)) (by simp))
  refine inv_val (G := fun u V => u = .pointer (some ⟨bx, 0, none⟩) ∧ y = V) (R := fun _ _ => True) (wanted_none rfl) (v := .pointer (some ⟨bx, 0, none⟩)) (w2 := y) (by simp only [execOp, f16o18, d1]; go_simp) ?_ ⟨rfl, rfl⟩ trivial
  rintro _ _ ⟨rfl, rfl⟩ _
  rw [show f16o18.dst = some 115 from rfl]
  have H := H.put 115 (.pointer (some ⟨bx, 0, none⟩)) (by decide) (by simp)
  obtain ⟨a2, ha2⟩ : ∃ a_, a_ = a.put (some 115) (.pointer (some ⟨bx, 0, none⟩)) := ⟨_, rfl⟩
  rw [← ha2] at H fin' ⊢
  clear ha2
  refine any_one (i := 19) (o := f16o19) (by kernel_rfl) rfl ?_
  have d2 := eval_at (H.2 115 (.pointer (some ⟨bx, 0, none⟩)) (by simp))
  have d3 := eval_at (H.2 114 (.slice q 5 c) (by simp))
  refine inv_skip (wanted_none rfl) (w2 := y.setCell ⟨bx, 0, none⟩ (.slice q 5 c)) (by simp only [execOp, f16o19, d2, d3]; go_simp) ?_
  refine any_end (by kernel_rfl) ?_ 0
  exact fin'
end Go.Proofs.YtglgfpapackcdaaGreat
