/- What an ask tells, of the document's scan: the walk of wants. -/
import Derived.Test.YtkpkhjflelmdjaaZl
namespace Go.Proofs.Ytkpkhjflelmdjaa
open Go.RowKit Tnd

theorem Rs.tb {w : World} {B b nb : Nat} {l : List Int} {k : Nat} {cs : Array Value} (h : Rs w B b l k) (ht : Tb w nb cs) (i : Nat) (x : Value) : Rs (w.setCell ⟨nb, i, none⟩ x) B b l k := by
  refine Cu.kept h (grown_set w ⟨nb, i, none⟩ x) (fun b2 e => ?_)
  cases e
  refine ⟨?_, fun _ => ⟨_, _, _, ht, by decide⟩⟩
  rintro rfl
  obtain ⟨p, c, h1, _⟩ := h
  unfold Tb at ht
  rw [h1] at ht
  simp only [Option.some.injEq, Obj.cells.injEq] at ht
  exact absurd ht.2.1 (by decide)
/-- what an ask leaves of the document's scan. -/
def WT (w : World) (B b : Nat) (l : List Int) (n m : Int) (s : ByteArray) (o : Bool) (k' : Nat) (e : Ending) (w' : World) : Prop :=
  e = .returned (.agg (tvl n m (k' : Nat) s o (decide (k' = l.length)))) ∧ Rs w' B b l k' ∧ w.grownBy w' (some b)

set_option maxHeartbeats 1600000 in
theorem wants_0 (B b : Nat) (l : List Int) (k : Nat) (y : Int) (t : ByteArray) (x : Int) (o : Bool) (k' : Nat) (w : World) (h : Rs w B b l k) (hy : pk y = 0)
    (H : ∀ W, Rs W B b l k → Calls Try.prog 34 #[.pointer (some ⟨b, 0, none⟩)] W (CP W B b 43 [] l (.tuple #[.int .i64 x, .bool o]) k')) :
    Calls Try.prog 17 #[.pointer (some ⟨b, 0, none⟩), .agg #[.int .i64 y, .string t]] w (WT w B b l x 0 ⟨#[]⟩ o k') := by
  have HH := Lib.hid H
  clear H
  have HB : Hid (b < w.heap.size) := h.lt
  have HBL := Lib.hid (bl_three w (.cells #[.int .i64 y, .string t] 33) (.cells (tvl 0 0 0 ⟨#[]⟩ false false) 37) (.cells (tvl 0 0 0 ⟨#[]⟩ false false) 37))
  have HS : Hid (Rs (((w.alloc (.cells #[.int .i64 y, .string t] 33)).alloc (.cells (tvl 0 0 0 ⟨#[]⟩ false false) 37)).alloc (.cells (tvl 0 0 0 ⟨#[]⟩ false false) 37)) B b l k) := Cu.below h HBL.out
  have HP : Hid (∀ W, Calls Try.prog 14 #[.int .i64 y, .int .i64 8] W fun e w' => e = .returned (.int .i64 0) ∧ w' = W) := fun W => by
    have := pick8 y W
    rw [hy] at this; exact this
  have HT3 := Lib.hid (tb_three w (.cells #[.int .i64 y, .string t] 33) (tvl 0 0 0 ⟨#[]⟩ false false) (tvl 0 0 0 ⟨#[]⟩ false false))
  have hne : Hid (b ≠ w.heap.size + 1 + 1) := by have := HB.out; show _ ≠ _; omega
  have hne1 : Hid (b ≠ w.heap.size + 1) := by have := HB.out; show _ ≠ _; omega
  clear h hy
  go_enter Try.func17, Try.ntmps17
  go_wp2_with fail
  refine (HP.out _).mono ?_
  rintro e w' ⟨rfl, rfl⟩
  go_wp2_with fail
  refine (HH.out _ HS.out).mono ?_
  rintro e w4 ⟨rfl, hc4, hg4⟩
  have hT4 : Tb w4 (w.heap.size + 1 + 1) (tvl 0 0 0 ⟨#[]⟩ false false) := HT3.out.1.kept hg4 hne.out
  have hR4 : Tb w4 (w.heap.size + 1) (tvl 0 0 0 ⟨#[]⟩ false false) := HT3.out.2.kept hg4 hne1.out
  have HG4 : Hid (w.grownBy w4 (some b)) := (below_grown HBL.out _).trans hg4
  clear HT3 HS HBL
  obtain ⟨q0, q1, q2, q3, q4, q5⟩ := hT4.cells
  have hcA := hc4.cell1
  have hnb : ¬ b = w.heap.size + 1 + 1 := hne.out
  have hnb2 : ¬ w.heap.size + 1 + 1 = b := Ne.symm hne.out
  have f2 := hT4.frz 2
  have f0 := hT4.frz 0
  have f4 := hT4.frz 4
  have HC4 := Lib.hid hc4
  have HT4 := Lib.hid hT4
  have HR4 := Lib.hid hR4
  clear hc4 hg4 hT4 hR4
  go_wp2_with fail
  refine (done_ref B b l k' _ (Rs.tb (Rs.tb (Rs.tb HC4.out HT4.out 0 _) (Tb.set HT4.out 0 _) 4 _) (Tb.set (Tb.set HT4.out 0 _) 4 _) 2 _)).mono ?_
  rintro e w6 ⟨rfl, nd, hw6⟩
  have hC6 : Rs w6 B b l k' := by rw [hw6]; exact Cu.drewN (Rs.tb (Rs.tb (Rs.tb HC4.out HT4.out 0 _) (Tb.set HT4.out 0 _) 4 _) (Tb.set (Tb.set HT4.out 0 _) 4 _) 2 _) nd
  have hT6 : Tb w6 (w.heap.size + 1 + 1) ((tvl x 0 0 ⟨#[]⟩ o false).set! 2 (.int .i64 (k' : Nat))) := by rw [hw6]; exact (Tb.set (Tb.set (Tb.set HT4.out 0 _) 4 _) 2 _)
  have hR6 : Tb w6 (w.heap.size + 1) (tvl 0 0 0 ⟨#[]⟩ false false) := by rw [hw6]; exact (Tb.other (Tb.other (Tb.other HR4.out (w.heap.size + 1 + 1) 0 _ (by omega)) (w.heap.size + 1 + 1) 4 _ (by omega)) (w.heap.size + 1 + 1) 2 _ (by omega))
  have HG6 : Hid (w.grownBy w6 (some b)) := by rw [hw6]; exact (grown_new (grown_new (grown_new HG4.out (grown_set _ ⟨w.heap.size + 1 + 1, 0, none⟩ _) (show w.heap.size ≤ w.heap.size + 1 + 1 by omega)) (grown_set _ ⟨w.heap.size + 1 + 1, 4, none⟩ _) (show w.heap.size ≤ w.heap.size + 1 + 1 by omega)) (grown_set _ ⟨w.heap.size + 1 + 1, 2, none⟩ _) (show w.heap.size ≤ w.heap.size + 1 + 1 by omega)).trans (grown_drewN _ nd _)
  clear hw6 HG4 q0 q1 q2 q3 q4 q5 HC4 HT4 HR4 hcA
  generalize hD : decide (k' = l.length) = D
  have HD := Lib.hid hD
  clear hD
  obtain ⟨q0, q1, q2, q3, q4, q5⟩ := (show Tb w6 (w.heap.size + 1 + 1) (tvl x 0 (k' : Nat) ⟨#[]⟩ o false) from hT6).cells
  have g5 := hT6.frz 5
  obtain ⟨r0, r1, r2, r3, r4, r5⟩ := hR6.cells
  have z0 := hR6.frz 0
  have z1 := hR6.frz 1
  have z2 := hR6.frz 2
  have z3 := hR6.frz 3
  have z4 := hR6.frz 4
  have z5 := hR6.frz 5
  have HC6 := Lib.hid hC6
  have HT6 := Lib.hid hT6
  have HR6 := Lib.hid hR6
  clear hC6 hT6 hR6
  go_wp2
  have X0 := Tb.other HR6.out (w.heap.size + 1 + 1) 5 (.bool D) (by omega)
  have X6 := (((((X0.set 0 (.int .i64 x)).set 1 (.int .i64 0)).set 2 (.int .i64 (k' : Nat))).set 3 (.string ⟨#[]⟩)).set 4 (.bool o)).set 5 (.bool D)
  refine bodyPost_ret (results_cell_row rfl _ _ (w.heap.size + 1) 37 _ (0, 0) _ rfl X6 Try.underlying37 rfl (by kernel_rfl)) rfl ?_
  refine ⟨by rw [HD.out]; rfl, ?_, ?_⟩
  · have Y0 := Rs.tb HC6.out HT6.out 5 (.bool D)
    exact (((((Y0.tb X0 0 _).tb (X0.set 0 _) 1 _).tb ((X0.set 0 _).set 1 _) 2 _).tb (((X0.set 0 _).set 1 _).set 2 _) 3 _).tb ((((X0.set 0 _).set 1 _).set 2 _).set 3 _) 4 _).tb (((((X0.set 0 _).set 1 _).set 2 _).set 3 _).set 4 _) 5 _
  · have z1 : w.heap.size ≤ w.heap.size + 1 := by omega
    have z2 : w.heap.size ≤ w.heap.size + 1 + 1 := by omega
    exact grown_new (grown_new (grown_new (grown_new (grown_new (grown_new (grown_new HG6.out (grown_set _ ⟨w.heap.size + 1 + 1, 5, none⟩ _) z2) (grown_set _ ⟨w.heap.size + 1, 0, none⟩ _) z1) (grown_set _ ⟨w.heap.size + 1, 1, none⟩ _) z1) (grown_set _ ⟨w.heap.size + 1, 2, none⟩ _) z1) (grown_set _ ⟨w.heap.size + 1, 3, none⟩ _) z1) (grown_set _ ⟨w.heap.size + 1, 4, none⟩ _) z1) (grown_set _ ⟨w.heap.size + 1, 5, none⟩ _) z1

set_option maxHeartbeats 1600000 in
theorem wants_1 (B b : Nat) (l : List Int) (k : Nat) (y : Int) (t : ByteArray) (o : Bool) (k' : Nat) (w : World) (h : Rs w B b l k) (hy : pk y = 1)
    (H : ∀ W, Rs W B b l k → Calls Try.prog 35 #[.pointer (some ⟨b, 0, none⟩), .string t] W (CP W B b 43 [] l (.bool o) k')) :
    Calls Try.prog 17 #[.pointer (some ⟨b, 0, none⟩), .agg #[.int .i64 y, .string t]] w (WT w B b l 0 0 ⟨#[]⟩ o k') := by
  have HH := Lib.hid H
  clear H
  have HB : Hid (b < w.heap.size) := h.lt
  have HBL := Lib.hid (bl_three w (.cells #[.int .i64 y, .string t] 33) (.cells (tvl 0 0 0 ⟨#[]⟩ false false) 37) (.cells (tvl 0 0 0 ⟨#[]⟩ false false) 37))
  have HS : Hid (Rs (((w.alloc (.cells #[.int .i64 y, .string t] 33)).alloc (.cells (tvl 0 0 0 ⟨#[]⟩ false false) 37)).alloc (.cells (tvl 0 0 0 ⟨#[]⟩ false false) 37)) B b l k) := Cu.below h HBL.out
  have HP : Hid (∀ W, Calls Try.prog 14 #[.int .i64 y, .int .i64 8] W fun e w' => e = .returned (.int .i64 1) ∧ w' = W) := fun W => by
    have := pick8 y W
    rw [hy] at this; exact this
  have HT3 := Lib.hid (tb_three w (.cells #[.int .i64 y, .string t] 33) (tvl 0 0 0 ⟨#[]⟩ false false) (tvl 0 0 0 ⟨#[]⟩ false false))
  have hne : Hid (b ≠ w.heap.size + 1 + 1) := by have := HB.out; show _ ≠ _; omega
  have hne1 : Hid (b ≠ w.heap.size + 1) := by have := HB.out; show _ ≠ _; omega
  clear h hy
  go_enter Try.func17, Try.ntmps17
  go_wp2_with fail
  refine (HP.out _).mono ?_
  rintro e w' ⟨rfl, rfl⟩
  go_wp2_with fail
  refine (HH.out _ HS.out).mono ?_
  rintro e w4 ⟨rfl, hc4, hg4⟩
  have hT4 : Tb w4 (w.heap.size + 1 + 1) (tvl 0 0 0 ⟨#[]⟩ false false) := HT3.out.1.kept hg4 hne.out
  have hR4 : Tb w4 (w.heap.size + 1) (tvl 0 0 0 ⟨#[]⟩ false false) := HT3.out.2.kept hg4 hne1.out
  have HG4 : Hid (w.grownBy w4 (some b)) := (below_grown HBL.out _).trans hg4
  clear HT3 HS HBL
  obtain ⟨q0, q1, q2, q3, q4, q5⟩ := hT4.cells
  have hcA := hc4.cell1
  have hnb : ¬ b = w.heap.size + 1 + 1 := hne.out
  have hnb2 : ¬ w.heap.size + 1 + 1 = b := Ne.symm hne.out
  have f2 := hT4.frz 2
  have f4 := hT4.frz 4
  have HC4 := Lib.hid hc4
  have HT4 := Lib.hid hT4
  have HR4 := Lib.hid hR4
  clear hc4 hg4 hT4 hR4
  go_wp2_with fail
  refine (done_ref B b l k' _ (Rs.tb (Rs.tb HC4.out HT4.out 4 _) (Tb.set HT4.out 4 _) 2 _)).mono ?_
  rintro e w6 ⟨rfl, nd, hw6⟩
  have hC6 : Rs w6 B b l k' := by rw [hw6]; exact Cu.drewN (Rs.tb (Rs.tb HC4.out HT4.out 4 _) (Tb.set HT4.out 4 _) 2 _) nd
  have hT6 : Tb w6 (w.heap.size + 1 + 1) ((tvl 0 0 0 ⟨#[]⟩ o false).set! 2 (.int .i64 (k' : Nat))) := by rw [hw6]; exact (Tb.set (Tb.set HT4.out 4 _) 2 _)
  have hR6 : Tb w6 (w.heap.size + 1) (tvl 0 0 0 ⟨#[]⟩ false false) := by rw [hw6]; exact (Tb.other (Tb.other HR4.out (w.heap.size + 1 + 1) 4 _ (by omega)) (w.heap.size + 1 + 1) 2 _ (by omega))
  have HG6 : Hid (w.grownBy w6 (some b)) := by rw [hw6]; exact (grown_new (grown_new HG4.out (grown_set _ ⟨w.heap.size + 1 + 1, 4, none⟩ _) (show w.heap.size ≤ w.heap.size + 1 + 1 by omega)) (grown_set _ ⟨w.heap.size + 1 + 1, 2, none⟩ _) (show w.heap.size ≤ w.heap.size + 1 + 1 by omega)).trans (grown_drewN _ nd _)
  clear hw6 HG4 q0 q1 q2 q3 q4 q5 HC4 HT4 HR4 hcA
  generalize hD : decide (k' = l.length) = D
  have HD := Lib.hid hD
  clear hD
  obtain ⟨q0, q1, q2, q3, q4, q5⟩ := (show Tb w6 (w.heap.size + 1 + 1) (tvl 0 0 (k' : Nat) ⟨#[]⟩ o false) from hT6).cells
  have g5 := hT6.frz 5
  obtain ⟨r0, r1, r2, r3, r4, r5⟩ := hR6.cells
  have z0 := hR6.frz 0
  have z1 := hR6.frz 1
  have z2 := hR6.frz 2
  have z3 := hR6.frz 3
  have z4 := hR6.frz 4
  have z5 := hR6.frz 5
  have HC6 := Lib.hid hC6
  have HT6 := Lib.hid hT6
  have HR6 := Lib.hid hR6
  clear hC6 hT6 hR6
  go_wp2
  have X0 := Tb.other HR6.out (w.heap.size + 1 + 1) 5 (.bool D) (by omega)
  have X6 := (((((X0.set 0 (.int .i64 0)).set 1 (.int .i64 0)).set 2 (.int .i64 (k' : Nat))).set 3 (.string ⟨#[]⟩)).set 4 (.bool o)).set 5 (.bool D)
  refine bodyPost_ret (results_cell_row rfl _ _ (w.heap.size + 1) 37 _ (0, 0) _ rfl X6 Try.underlying37 rfl (by kernel_rfl)) rfl ?_
  refine ⟨by rw [HD.out]; rfl, ?_, ?_⟩
  · have Y0 := Rs.tb HC6.out HT6.out 5 (.bool D)
    exact (((((Y0.tb X0 0 _).tb (X0.set 0 _) 1 _).tb ((X0.set 0 _).set 1 _) 2 _).tb (((X0.set 0 _).set 1 _).set 2 _) 3 _).tb ((((X0.set 0 _).set 1 _).set 2 _).set 3 _) 4 _).tb (((((X0.set 0 _).set 1 _).set 2 _).set 3 _).set 4 _) 5 _
  · have z1 : w.heap.size ≤ w.heap.size + 1 := by omega
    have z2 : w.heap.size ≤ w.heap.size + 1 + 1 := by omega
    exact grown_new (grown_new (grown_new (grown_new (grown_new (grown_new (grown_new HG6.out (grown_set _ ⟨w.heap.size + 1 + 1, 5, none⟩ _) z2) (grown_set _ ⟨w.heap.size + 1, 0, none⟩ _) z1) (grown_set _ ⟨w.heap.size + 1, 1, none⟩ _) z1) (grown_set _ ⟨w.heap.size + 1, 2, none⟩ _) z1) (grown_set _ ⟨w.heap.size + 1, 3, none⟩ _) z1) (grown_set _ ⟨w.heap.size + 1, 4, none⟩ _) z1) (grown_set _ ⟨w.heap.size + 1, 5, none⟩ _) z1

set_option maxHeartbeats 1600000 in
theorem wants_2 (B b : Nat) (l : List Int) (k : Nat) (y : Int) (t : ByteArray) (x : Int) (o : Bool) (k' : Nat) (w : World) (h : Rs w B b l k) (hy : pk y = 2)
    (H : ∀ W, Rs W B b l k → Calls Try.prog 36 #[.pointer (some ⟨b, 0, none⟩), .string t] W (CP W B b 43 [] l (.tuple #[.int .i64 x, .bool o]) k')) :
    Calls Try.prog 17 #[.pointer (some ⟨b, 0, none⟩), .agg #[.int .i64 y, .string t]] w (WT w B b l x 0 ⟨#[]⟩ o k') := by
  have HH := Lib.hid H
  clear H
  have HB : Hid (b < w.heap.size) := h.lt
  have HBL := Lib.hid (bl_three w (.cells #[.int .i64 y, .string t] 33) (.cells (tvl 0 0 0 ⟨#[]⟩ false false) 37) (.cells (tvl 0 0 0 ⟨#[]⟩ false false) 37))
  have HS : Hid (Rs (((w.alloc (.cells #[.int .i64 y, .string t] 33)).alloc (.cells (tvl 0 0 0 ⟨#[]⟩ false false) 37)).alloc (.cells (tvl 0 0 0 ⟨#[]⟩ false false) 37)) B b l k) := Cu.below h HBL.out
  have HP : Hid (∀ W, Calls Try.prog 14 #[.int .i64 y, .int .i64 8] W fun e w' => e = .returned (.int .i64 2) ∧ w' = W) := fun W => by
    have := pick8 y W
    rw [hy] at this; exact this
  have HT3 := Lib.hid (tb_three w (.cells #[.int .i64 y, .string t] 33) (tvl 0 0 0 ⟨#[]⟩ false false) (tvl 0 0 0 ⟨#[]⟩ false false))
  have hne : Hid (b ≠ w.heap.size + 1 + 1) := by have := HB.out; show _ ≠ _; omega
  have hne1 : Hid (b ≠ w.heap.size + 1) := by have := HB.out; show _ ≠ _; omega
  clear h hy
  go_enter Try.func17, Try.ntmps17
  go_wp2_with fail
  refine (HP.out _).mono ?_
  rintro e w' ⟨rfl, rfl⟩
  go_wp2_with fail
  refine (HH.out _ HS.out).mono ?_
  rintro e w4 ⟨rfl, hc4, hg4⟩
  have hT4 : Tb w4 (w.heap.size + 1 + 1) (tvl 0 0 0 ⟨#[]⟩ false false) := HT3.out.1.kept hg4 hne.out
  have hR4 : Tb w4 (w.heap.size + 1) (tvl 0 0 0 ⟨#[]⟩ false false) := HT3.out.2.kept hg4 hne1.out
  have HG4 : Hid (w.grownBy w4 (some b)) := (below_grown HBL.out _).trans hg4
  clear HT3 HS HBL
  obtain ⟨q0, q1, q2, q3, q4, q5⟩ := hT4.cells
  have hcA := hc4.cell1
  have hnb : ¬ b = w.heap.size + 1 + 1 := hne.out
  have hnb2 : ¬ w.heap.size + 1 + 1 = b := Ne.symm hne.out
  have f2 := hT4.frz 2
  have f0 := hT4.frz 0
  have f4 := hT4.frz 4
  have HC4 := Lib.hid hc4
  have HT4 := Lib.hid hT4
  have HR4 := Lib.hid hR4
  clear hc4 hg4 hT4 hR4
  go_wp2_with fail
  refine (done_ref B b l k' _ (Rs.tb (Rs.tb (Rs.tb HC4.out HT4.out 0 _) (Tb.set HT4.out 0 _) 4 _) (Tb.set (Tb.set HT4.out 0 _) 4 _) 2 _)).mono ?_
  rintro e w6 ⟨rfl, nd, hw6⟩
  have hC6 : Rs w6 B b l k' := by rw [hw6]; exact Cu.drewN (Rs.tb (Rs.tb (Rs.tb HC4.out HT4.out 0 _) (Tb.set HT4.out 0 _) 4 _) (Tb.set (Tb.set HT4.out 0 _) 4 _) 2 _) nd
  have hT6 : Tb w6 (w.heap.size + 1 + 1) ((tvl x 0 0 ⟨#[]⟩ o false).set! 2 (.int .i64 (k' : Nat))) := by rw [hw6]; exact (Tb.set (Tb.set (Tb.set HT4.out 0 _) 4 _) 2 _)
  have hR6 : Tb w6 (w.heap.size + 1) (tvl 0 0 0 ⟨#[]⟩ false false) := by rw [hw6]; exact (Tb.other (Tb.other (Tb.other HR4.out (w.heap.size + 1 + 1) 0 _ (by omega)) (w.heap.size + 1 + 1) 4 _ (by omega)) (w.heap.size + 1 + 1) 2 _ (by omega))
  have HG6 : Hid (w.grownBy w6 (some b)) := by rw [hw6]; exact (grown_new (grown_new (grown_new HG4.out (grown_set _ ⟨w.heap.size + 1 + 1, 0, none⟩ _) (show w.heap.size ≤ w.heap.size + 1 + 1 by omega)) (grown_set _ ⟨w.heap.size + 1 + 1, 4, none⟩ _) (show w.heap.size ≤ w.heap.size + 1 + 1 by omega)) (grown_set _ ⟨w.heap.size + 1 + 1, 2, none⟩ _) (show w.heap.size ≤ w.heap.size + 1 + 1 by omega)).trans (grown_drewN _ nd _)
  clear hw6 HG4 q0 q1 q2 q3 q4 q5 HC4 HT4 HR4 hcA
  generalize hD : decide (k' = l.length) = D
  have HD := Lib.hid hD
  clear hD
  obtain ⟨q0, q1, q2, q3, q4, q5⟩ := (show Tb w6 (w.heap.size + 1 + 1) (tvl x 0 (k' : Nat) ⟨#[]⟩ o false) from hT6).cells
  have g5 := hT6.frz 5
  obtain ⟨r0, r1, r2, r3, r4, r5⟩ := hR6.cells
  have z0 := hR6.frz 0
  have z1 := hR6.frz 1
  have z2 := hR6.frz 2
  have z3 := hR6.frz 3
  have z4 := hR6.frz 4
  have z5 := hR6.frz 5
  have HC6 := Lib.hid hC6
  have HT6 := Lib.hid hT6
  have HR6 := Lib.hid hR6
  clear hC6 hT6 hR6
  go_wp2
  have X0 := Tb.other HR6.out (w.heap.size + 1 + 1) 5 (.bool D) (by omega)
  have X6 := (((((X0.set 0 (.int .i64 x)).set 1 (.int .i64 0)).set 2 (.int .i64 (k' : Nat))).set 3 (.string ⟨#[]⟩)).set 4 (.bool o)).set 5 (.bool D)
  refine bodyPost_ret (results_cell_row rfl _ _ (w.heap.size + 1) 37 _ (0, 0) _ rfl X6 Try.underlying37 rfl (by kernel_rfl)) rfl ?_
  refine ⟨by rw [HD.out]; rfl, ?_, ?_⟩
  · have Y0 := Rs.tb HC6.out HT6.out 5 (.bool D)
    exact (((((Y0.tb X0 0 _).tb (X0.set 0 _) 1 _).tb ((X0.set 0 _).set 1 _) 2 _).tb (((X0.set 0 _).set 1 _).set 2 _) 3 _).tb ((((X0.set 0 _).set 1 _).set 2 _).set 3 _) 4 _).tb (((((X0.set 0 _).set 1 _).set 2 _).set 3 _).set 4 _) 5 _
  · have z1 : w.heap.size ≤ w.heap.size + 1 := by omega
    have z2 : w.heap.size ≤ w.heap.size + 1 + 1 := by omega
    exact grown_new (grown_new (grown_new (grown_new (grown_new (grown_new (grown_new HG6.out (grown_set _ ⟨w.heap.size + 1 + 1, 5, none⟩ _) z2) (grown_set _ ⟨w.heap.size + 1, 0, none⟩ _) z1) (grown_set _ ⟨w.heap.size + 1, 1, none⟩ _) z1) (grown_set _ ⟨w.heap.size + 1, 2, none⟩ _) z1) (grown_set _ ⟨w.heap.size + 1, 3, none⟩ _) z1) (grown_set _ ⟨w.heap.size + 1, 4, none⟩ _) z1) (grown_set _ ⟨w.heap.size + 1, 5, none⟩ _) z1

set_option maxHeartbeats 1600000 in
theorem wants_3 (B b : Nat) (l : List Int) (k : Nat) (y : Int) (t : ByteArray) (x z : Int) (k' : Nat) (w : World) (h : Rs w B b l k) (hy : pk y = 3)
    (H : ∀ W, Rs W B b l k → Calls Try.prog 37 #[.pointer (some ⟨b, 0, none⟩)] W (CP W B b 43 [] l (.tuple #[.int .i64 x, .int .i64 z]) k')) :
    Calls Try.prog 17 #[.pointer (some ⟨b, 0, none⟩), .agg #[.int .i64 y, .string t]] w (WT w B b l x z ⟨#[]⟩ false k') := by
  have HH := Lib.hid H
  clear H
  have HB : Hid (b < w.heap.size) := h.lt
  have HBL := Lib.hid (bl_three w (.cells #[.int .i64 y, .string t] 33) (.cells (tvl 0 0 0 ⟨#[]⟩ false false) 37) (.cells (tvl 0 0 0 ⟨#[]⟩ false false) 37))
  have HS : Hid (Rs (((w.alloc (.cells #[.int .i64 y, .string t] 33)).alloc (.cells (tvl 0 0 0 ⟨#[]⟩ false false) 37)).alloc (.cells (tvl 0 0 0 ⟨#[]⟩ false false) 37)) B b l k) := Cu.below h HBL.out
  have HP : Hid (∀ W, Calls Try.prog 14 #[.int .i64 y, .int .i64 8] W fun e w' => e = .returned (.int .i64 3) ∧ w' = W) := fun W => by
    have := pick8 y W
    rw [hy] at this; exact this
  have HT3 := Lib.hid (tb_three w (.cells #[.int .i64 y, .string t] 33) (tvl 0 0 0 ⟨#[]⟩ false false) (tvl 0 0 0 ⟨#[]⟩ false false))
  have hne : Hid (b ≠ w.heap.size + 1 + 1) := by have := HB.out; show _ ≠ _; omega
  have hne1 : Hid (b ≠ w.heap.size + 1) := by have := HB.out; show _ ≠ _; omega
  clear h hy
  go_enter Try.func17, Try.ntmps17
  go_wp2_with fail
  refine (HP.out _).mono ?_
  rintro e w' ⟨rfl, rfl⟩
  go_wp2_with fail
  refine (HH.out _ HS.out).mono ?_
  rintro e w4 ⟨rfl, hc4, hg4⟩
  have hT4 : Tb w4 (w.heap.size + 1 + 1) (tvl 0 0 0 ⟨#[]⟩ false false) := HT3.out.1.kept hg4 hne.out
  have hR4 : Tb w4 (w.heap.size + 1) (tvl 0 0 0 ⟨#[]⟩ false false) := HT3.out.2.kept hg4 hne1.out
  have HG4 : Hid (w.grownBy w4 (some b)) := (below_grown HBL.out _).trans hg4
  clear HT3 HS HBL
  obtain ⟨q0, q1, q2, q3, q4, q5⟩ := hT4.cells
  have hcA := hc4.cell1
  have hnb : ¬ b = w.heap.size + 1 + 1 := hne.out
  have hnb2 : ¬ w.heap.size + 1 + 1 = b := Ne.symm hne.out
  have f2 := hT4.frz 2
  have f0 := hT4.frz 0
  have f1 := hT4.frz 1
  have HC4 := Lib.hid hc4
  have HT4 := Lib.hid hT4
  have HR4 := Lib.hid hR4
  clear hc4 hg4 hT4 hR4
  go_wp2_with fail
  refine (done_ref B b l k' _ (Rs.tb (Rs.tb (Rs.tb HC4.out HT4.out 0 _) (Tb.set HT4.out 0 _) 1 _) (Tb.set (Tb.set HT4.out 0 _) 1 _) 2 _)).mono ?_
  rintro e w6 ⟨rfl, nd, hw6⟩
  have hC6 : Rs w6 B b l k' := by rw [hw6]; exact Cu.drewN (Rs.tb (Rs.tb (Rs.tb HC4.out HT4.out 0 _) (Tb.set HT4.out 0 _) 1 _) (Tb.set (Tb.set HT4.out 0 _) 1 _) 2 _) nd
  have hT6 : Tb w6 (w.heap.size + 1 + 1) ((tvl x z 0 ⟨#[]⟩ false false).set! 2 (.int .i64 (k' : Nat))) := by rw [hw6]; exact (Tb.set (Tb.set (Tb.set HT4.out 0 _) 1 _) 2 _)
  have hR6 : Tb w6 (w.heap.size + 1) (tvl 0 0 0 ⟨#[]⟩ false false) := by rw [hw6]; exact (Tb.other (Tb.other (Tb.other HR4.out (w.heap.size + 1 + 1) 0 _ (by omega)) (w.heap.size + 1 + 1) 1 _ (by omega)) (w.heap.size + 1 + 1) 2 _ (by omega))
  have HG6 : Hid (w.grownBy w6 (some b)) := by rw [hw6]; exact (grown_new (grown_new (grown_new HG4.out (grown_set _ ⟨w.heap.size + 1 + 1, 0, none⟩ _) (show w.heap.size ≤ w.heap.size + 1 + 1 by omega)) (grown_set _ ⟨w.heap.size + 1 + 1, 1, none⟩ _) (show w.heap.size ≤ w.heap.size + 1 + 1 by omega)) (grown_set _ ⟨w.heap.size + 1 + 1, 2, none⟩ _) (show w.heap.size ≤ w.heap.size + 1 + 1 by omega)).trans (grown_drewN _ nd _)
  clear hw6 HG4 q0 q1 q2 q3 q4 q5 HC4 HT4 HR4 hcA
  generalize hD : decide (k' = l.length) = D
  have HD := Lib.hid hD
  clear hD
  obtain ⟨q0, q1, q2, q3, q4, q5⟩ := (show Tb w6 (w.heap.size + 1 + 1) (tvl x z (k' : Nat) ⟨#[]⟩ false false) from hT6).cells
  have g5 := hT6.frz 5
  obtain ⟨r0, r1, r2, r3, r4, r5⟩ := hR6.cells
  have z0 := hR6.frz 0
  have z1 := hR6.frz 1
  have z2 := hR6.frz 2
  have z3 := hR6.frz 3
  have z4 := hR6.frz 4
  have z5 := hR6.frz 5
  have HC6 := Lib.hid hC6
  have HT6 := Lib.hid hT6
  have HR6 := Lib.hid hR6
  clear hC6 hT6 hR6
  go_wp2
  have X0 := Tb.other HR6.out (w.heap.size + 1 + 1) 5 (.bool D) (by omega)
  have X6 := (((((X0.set 0 (.int .i64 x)).set 1 (.int .i64 z)).set 2 (.int .i64 (k' : Nat))).set 3 (.string ⟨#[]⟩)).set 4 (.bool false)).set 5 (.bool D)
  refine bodyPost_ret (results_cell_row rfl _ _ (w.heap.size + 1) 37 _ (0, 0) _ rfl X6 Try.underlying37 rfl (by kernel_rfl)) rfl ?_
  refine ⟨by rw [HD.out]; rfl, ?_, ?_⟩
  · have Y0 := Rs.tb HC6.out HT6.out 5 (.bool D)
    exact (((((Y0.tb X0 0 _).tb (X0.set 0 _) 1 _).tb ((X0.set 0 _).set 1 _) 2 _).tb (((X0.set 0 _).set 1 _).set 2 _) 3 _).tb ((((X0.set 0 _).set 1 _).set 2 _).set 3 _) 4 _).tb (((((X0.set 0 _).set 1 _).set 2 _).set 3 _).set 4 _) 5 _
  · have z1 : w.heap.size ≤ w.heap.size + 1 := by omega
    have z2 : w.heap.size ≤ w.heap.size + 1 + 1 := by omega
    exact grown_new (grown_new (grown_new (grown_new (grown_new (grown_new (grown_new HG6.out (grown_set _ ⟨w.heap.size + 1 + 1, 5, none⟩ _) z2) (grown_set _ ⟨w.heap.size + 1, 0, none⟩ _) z1) (grown_set _ ⟨w.heap.size + 1, 1, none⟩ _) z1) (grown_set _ ⟨w.heap.size + 1, 2, none⟩ _) z1) (grown_set _ ⟨w.heap.size + 1, 3, none⟩ _) z1) (grown_set _ ⟨w.heap.size + 1, 4, none⟩ _) z1) (grown_set _ ⟨w.heap.size + 1, 5, none⟩ _) z1

set_option maxHeartbeats 1600000 in
theorem wants_4 (B b : Nat) (l : List Int) (k : Nat) (y : Int) (t : ByteArray) (x : Int) (o : Bool) (k' : Nat) (w : World) (h : Rs w B b l k) (hy : pk y = 4)
    (H : ∀ W, Rs W B b l k → Calls Try.prog 38 #[.pointer (some ⟨b, 0, none⟩)] W (CP W B b 43 [] l (.tuple #[.int .i64 x, .bool o]) k')) :
    Calls Try.prog 17 #[.pointer (some ⟨b, 0, none⟩), .agg #[.int .i64 y, .string t]] w (WT w B b l x 0 ⟨#[]⟩ o k') := by
  have HH := Lib.hid H
  clear H
  have HB : Hid (b < w.heap.size) := h.lt
  have HBL := Lib.hid (bl_three w (.cells #[.int .i64 y, .string t] 33) (.cells (tvl 0 0 0 ⟨#[]⟩ false false) 37) (.cells (tvl 0 0 0 ⟨#[]⟩ false false) 37))
  have HS : Hid (Rs (((w.alloc (.cells #[.int .i64 y, .string t] 33)).alloc (.cells (tvl 0 0 0 ⟨#[]⟩ false false) 37)).alloc (.cells (tvl 0 0 0 ⟨#[]⟩ false false) 37)) B b l k) := Cu.below h HBL.out
  have HP : Hid (∀ W, Calls Try.prog 14 #[.int .i64 y, .int .i64 8] W fun e w' => e = .returned (.int .i64 4) ∧ w' = W) := fun W => by
    have := pick8 y W
    rw [hy] at this; exact this
  have HT3 := Lib.hid (tb_three w (.cells #[.int .i64 y, .string t] 33) (tvl 0 0 0 ⟨#[]⟩ false false) (tvl 0 0 0 ⟨#[]⟩ false false))
  have hne : Hid (b ≠ w.heap.size + 1 + 1) := by have := HB.out; show _ ≠ _; omega
  have hne1 : Hid (b ≠ w.heap.size + 1) := by have := HB.out; show _ ≠ _; omega
  clear h hy
  go_enter Try.func17, Try.ntmps17
  go_wp2_with fail
  refine (HP.out _).mono ?_
  rintro e w' ⟨rfl, rfl⟩
  go_wp2_with fail
  refine (HH.out _ HS.out).mono ?_
  rintro e w4 ⟨rfl, hc4, hg4⟩
  have hT4 : Tb w4 (w.heap.size + 1 + 1) (tvl 0 0 0 ⟨#[]⟩ false false) := HT3.out.1.kept hg4 hne.out
  have hR4 : Tb w4 (w.heap.size + 1) (tvl 0 0 0 ⟨#[]⟩ false false) := HT3.out.2.kept hg4 hne1.out
  have HG4 : Hid (w.grownBy w4 (some b)) := (below_grown HBL.out _).trans hg4
  clear HT3 HS HBL
  obtain ⟨q0, q1, q2, q3, q4, q5⟩ := hT4.cells
  have hcA := hc4.cell1
  have hnb : ¬ b = w.heap.size + 1 + 1 := hne.out
  have hnb2 : ¬ w.heap.size + 1 + 1 = b := Ne.symm hne.out
  have f2 := hT4.frz 2
  have f0 := hT4.frz 0
  have f4 := hT4.frz 4
  have HC4 := Lib.hid hc4
  have HT4 := Lib.hid hT4
  have HR4 := Lib.hid hR4
  clear hc4 hg4 hT4 hR4
  go_wp2_with fail
  refine (done_ref B b l k' _ (Rs.tb (Rs.tb (Rs.tb HC4.out HT4.out 0 _) (Tb.set HT4.out 0 _) 4 _) (Tb.set (Tb.set HT4.out 0 _) 4 _) 2 _)).mono ?_
  rintro e w6 ⟨rfl, nd, hw6⟩
  have hC6 : Rs w6 B b l k' := by rw [hw6]; exact Cu.drewN (Rs.tb (Rs.tb (Rs.tb HC4.out HT4.out 0 _) (Tb.set HT4.out 0 _) 4 _) (Tb.set (Tb.set HT4.out 0 _) 4 _) 2 _) nd
  have hT6 : Tb w6 (w.heap.size + 1 + 1) ((tvl x 0 0 ⟨#[]⟩ o false).set! 2 (.int .i64 (k' : Nat))) := by rw [hw6]; exact (Tb.set (Tb.set (Tb.set HT4.out 0 _) 4 _) 2 _)
  have hR6 : Tb w6 (w.heap.size + 1) (tvl 0 0 0 ⟨#[]⟩ false false) := by rw [hw6]; exact (Tb.other (Tb.other (Tb.other HR4.out (w.heap.size + 1 + 1) 0 _ (by omega)) (w.heap.size + 1 + 1) 4 _ (by omega)) (w.heap.size + 1 + 1) 2 _ (by omega))
  have HG6 : Hid (w.grownBy w6 (some b)) := by rw [hw6]; exact (grown_new (grown_new (grown_new HG4.out (grown_set _ ⟨w.heap.size + 1 + 1, 0, none⟩ _) (show w.heap.size ≤ w.heap.size + 1 + 1 by omega)) (grown_set _ ⟨w.heap.size + 1 + 1, 4, none⟩ _) (show w.heap.size ≤ w.heap.size + 1 + 1 by omega)) (grown_set _ ⟨w.heap.size + 1 + 1, 2, none⟩ _) (show w.heap.size ≤ w.heap.size + 1 + 1 by omega)).trans (grown_drewN _ nd _)
  clear hw6 HG4 q0 q1 q2 q3 q4 q5 HC4 HT4 HR4 hcA
  generalize hD : decide (k' = l.length) = D
  have HD := Lib.hid hD
  clear hD
  obtain ⟨q0, q1, q2, q3, q4, q5⟩ := (show Tb w6 (w.heap.size + 1 + 1) (tvl x 0 (k' : Nat) ⟨#[]⟩ o false) from hT6).cells
  have g5 := hT6.frz 5
  obtain ⟨r0, r1, r2, r3, r4, r5⟩ := hR6.cells
  have z0 := hR6.frz 0
  have z1 := hR6.frz 1
  have z2 := hR6.frz 2
  have z3 := hR6.frz 3
  have z4 := hR6.frz 4
  have z5 := hR6.frz 5
  have HC6 := Lib.hid hC6
  have HT6 := Lib.hid hT6
  have HR6 := Lib.hid hR6
  clear hC6 hT6 hR6
  go_wp2
  have X0 := Tb.other HR6.out (w.heap.size + 1 + 1) 5 (.bool D) (by omega)
  have X6 := (((((X0.set 0 (.int .i64 x)).set 1 (.int .i64 0)).set 2 (.int .i64 (k' : Nat))).set 3 (.string ⟨#[]⟩)).set 4 (.bool o)).set 5 (.bool D)
  refine bodyPost_ret (results_cell_row rfl _ _ (w.heap.size + 1) 37 _ (0, 0) _ rfl X6 Try.underlying37 rfl (by kernel_rfl)) rfl ?_
  refine ⟨by rw [HD.out]; rfl, ?_, ?_⟩
  · have Y0 := Rs.tb HC6.out HT6.out 5 (.bool D)
    exact (((((Y0.tb X0 0 _).tb (X0.set 0 _) 1 _).tb ((X0.set 0 _).set 1 _) 2 _).tb (((X0.set 0 _).set 1 _).set 2 _) 3 _).tb ((((X0.set 0 _).set 1 _).set 2 _).set 3 _) 4 _).tb (((((X0.set 0 _).set 1 _).set 2 _).set 3 _).set 4 _) 5 _
  · have z1 : w.heap.size ≤ w.heap.size + 1 := by omega
    have z2 : w.heap.size ≤ w.heap.size + 1 + 1 := by omega
    exact grown_new (grown_new (grown_new (grown_new (grown_new (grown_new (grown_new HG6.out (grown_set _ ⟨w.heap.size + 1 + 1, 5, none⟩ _) z2) (grown_set _ ⟨w.heap.size + 1, 0, none⟩ _) z1) (grown_set _ ⟨w.heap.size + 1, 1, none⟩ _) z1) (grown_set _ ⟨w.heap.size + 1, 2, none⟩ _) z1) (grown_set _ ⟨w.heap.size + 1, 3, none⟩ _) z1) (grown_set _ ⟨w.heap.size + 1, 4, none⟩ _) z1) (grown_set _ ⟨w.heap.size + 1, 5, none⟩ _) z1

set_option maxHeartbeats 1600000 in
theorem wants_5 (B b : Nat) (l : List Int) (k : Nat) (y : Int) (t : ByteArray) (u : ByteArray) (o : Bool) (k' : Nat) (w : World) (h : Rs w B b l k) (hy : pk y = 5)
    (H : ∀ W, Rs W B b l k → Calls Try.prog 39 #[.pointer (some ⟨b, 0, none⟩)] W (CP W B b 43 [] l (.tuple #[.string u, .bool o]) k')) :
    Calls Try.prog 17 #[.pointer (some ⟨b, 0, none⟩), .agg #[.int .i64 y, .string t]] w (WT w B b l 0 0 u o k') := by
  have HH := Lib.hid H
  clear H
  have HB : Hid (b < w.heap.size) := h.lt
  have HBL := Lib.hid (bl_three w (.cells #[.int .i64 y, .string t] 33) (.cells (tvl 0 0 0 ⟨#[]⟩ false false) 37) (.cells (tvl 0 0 0 ⟨#[]⟩ false false) 37))
  have HS : Hid (Rs (((w.alloc (.cells #[.int .i64 y, .string t] 33)).alloc (.cells (tvl 0 0 0 ⟨#[]⟩ false false) 37)).alloc (.cells (tvl 0 0 0 ⟨#[]⟩ false false) 37)) B b l k) := Cu.below h HBL.out
  have HP : Hid (∀ W, Calls Try.prog 14 #[.int .i64 y, .int .i64 8] W fun e w' => e = .returned (.int .i64 5) ∧ w' = W) := fun W => by
    have := pick8 y W
    rw [hy] at this; exact this
  have HT3 := Lib.hid (tb_three w (.cells #[.int .i64 y, .string t] 33) (tvl 0 0 0 ⟨#[]⟩ false false) (tvl 0 0 0 ⟨#[]⟩ false false))
  have hne : Hid (b ≠ w.heap.size + 1 + 1) := by have := HB.out; show _ ≠ _; omega
  have hne1 : Hid (b ≠ w.heap.size + 1) := by have := HB.out; show _ ≠ _; omega
  clear h hy
  go_enter Try.func17, Try.ntmps17
  go_wp2_with fail
  refine (HP.out _).mono ?_
  rintro e w' ⟨rfl, rfl⟩
  go_wp2_with fail
  refine (HH.out _ HS.out).mono ?_
  rintro e w4 ⟨rfl, hc4, hg4⟩
  have hT4 : Tb w4 (w.heap.size + 1 + 1) (tvl 0 0 0 ⟨#[]⟩ false false) := HT3.out.1.kept hg4 hne.out
  have hR4 : Tb w4 (w.heap.size + 1) (tvl 0 0 0 ⟨#[]⟩ false false) := HT3.out.2.kept hg4 hne1.out
  have HG4 : Hid (w.grownBy w4 (some b)) := (below_grown HBL.out _).trans hg4
  clear HT3 HS HBL
  obtain ⟨q0, q1, q2, q3, q4, q5⟩ := hT4.cells
  have hcA := hc4.cell1
  have hnb : ¬ b = w.heap.size + 1 + 1 := hne.out
  have hnb2 : ¬ w.heap.size + 1 + 1 = b := Ne.symm hne.out
  have f2 := hT4.frz 2
  have f3 := hT4.frz 3
  have f4 := hT4.frz 4
  have HC4 := Lib.hid hc4
  have HT4 := Lib.hid hT4
  have HR4 := Lib.hid hR4
  clear hc4 hg4 hT4 hR4
  go_wp2_with fail
  refine (done_ref B b l k' _ (Rs.tb (Rs.tb (Rs.tb HC4.out HT4.out 3 _) (Tb.set HT4.out 3 _) 4 _) (Tb.set (Tb.set HT4.out 3 _) 4 _) 2 _)).mono ?_
  rintro e w6 ⟨rfl, nd, hw6⟩
  have hC6 : Rs w6 B b l k' := by rw [hw6]; exact Cu.drewN (Rs.tb (Rs.tb (Rs.tb HC4.out HT4.out 3 _) (Tb.set HT4.out 3 _) 4 _) (Tb.set (Tb.set HT4.out 3 _) 4 _) 2 _) nd
  have hT6 : Tb w6 (w.heap.size + 1 + 1) ((tvl 0 0 0 u o false).set! 2 (.int .i64 (k' : Nat))) := by rw [hw6]; exact (Tb.set (Tb.set (Tb.set HT4.out 3 _) 4 _) 2 _)
  have hR6 : Tb w6 (w.heap.size + 1) (tvl 0 0 0 ⟨#[]⟩ false false) := by rw [hw6]; exact (Tb.other (Tb.other (Tb.other HR4.out (w.heap.size + 1 + 1) 3 _ (by omega)) (w.heap.size + 1 + 1) 4 _ (by omega)) (w.heap.size + 1 + 1) 2 _ (by omega))
  have HG6 : Hid (w.grownBy w6 (some b)) := by rw [hw6]; exact (grown_new (grown_new (grown_new HG4.out (grown_set _ ⟨w.heap.size + 1 + 1, 3, none⟩ _) (show w.heap.size ≤ w.heap.size + 1 + 1 by omega)) (grown_set _ ⟨w.heap.size + 1 + 1, 4, none⟩ _) (show w.heap.size ≤ w.heap.size + 1 + 1 by omega)) (grown_set _ ⟨w.heap.size + 1 + 1, 2, none⟩ _) (show w.heap.size ≤ w.heap.size + 1 + 1 by omega)).trans (grown_drewN _ nd _)
  clear hw6 HG4 q0 q1 q2 q3 q4 q5 HC4 HT4 HR4 hcA
  generalize hD : decide (k' = l.length) = D
  have HD := Lib.hid hD
  clear hD
  obtain ⟨q0, q1, q2, q3, q4, q5⟩ := (show Tb w6 (w.heap.size + 1 + 1) (tvl 0 0 (k' : Nat) u o false) from hT6).cells
  have g5 := hT6.frz 5
  obtain ⟨r0, r1, r2, r3, r4, r5⟩ := hR6.cells
  have z0 := hR6.frz 0
  have z1 := hR6.frz 1
  have z2 := hR6.frz 2
  have z3 := hR6.frz 3
  have z4 := hR6.frz 4
  have z5 := hR6.frz 5
  have HC6 := Lib.hid hC6
  have HT6 := Lib.hid hT6
  have HR6 := Lib.hid hR6
  clear hC6 hT6 hR6
  go_wp2
  have X0 := Tb.other HR6.out (w.heap.size + 1 + 1) 5 (.bool D) (by omega)
  have X6 := (((((X0.set 0 (.int .i64 0)).set 1 (.int .i64 0)).set 2 (.int .i64 (k' : Nat))).set 3 (.string u)).set 4 (.bool o)).set 5 (.bool D)
  refine bodyPost_ret (results_cell_row rfl _ _ (w.heap.size + 1) 37 _ (0, 0) _ rfl X6 Try.underlying37 rfl (by kernel_rfl)) rfl ?_
  refine ⟨by rw [HD.out]; rfl, ?_, ?_⟩
  · have Y0 := Rs.tb HC6.out HT6.out 5 (.bool D)
    exact (((((Y0.tb X0 0 _).tb (X0.set 0 _) 1 _).tb ((X0.set 0 _).set 1 _) 2 _).tb (((X0.set 0 _).set 1 _).set 2 _) 3 _).tb ((((X0.set 0 _).set 1 _).set 2 _).set 3 _) 4 _).tb (((((X0.set 0 _).set 1 _).set 2 _).set 3 _).set 4 _) 5 _
  · have z1 : w.heap.size ≤ w.heap.size + 1 := by omega
    have z2 : w.heap.size ≤ w.heap.size + 1 + 1 := by omega
    exact grown_new (grown_new (grown_new (grown_new (grown_new (grown_new (grown_new HG6.out (grown_set _ ⟨w.heap.size + 1 + 1, 5, none⟩ _) z2) (grown_set _ ⟨w.heap.size + 1, 0, none⟩ _) z1) (grown_set _ ⟨w.heap.size + 1, 1, none⟩ _) z1) (grown_set _ ⟨w.heap.size + 1, 2, none⟩ _) z1) (grown_set _ ⟨w.heap.size + 1, 3, none⟩ _) z1) (grown_set _ ⟨w.heap.size + 1, 4, none⟩ _) z1) (grown_set _ ⟨w.heap.size + 1, 5, none⟩ _) z1

set_option maxHeartbeats 1600000 in
theorem wants_6 (B b : Nat) (l : List Int) (k : Nat) (y : Int) (t : ByteArray) (x : Int) (o : Bool) (k' : Nat) (w : World) (h : Rs w B b l k) (hy : pk y = 6)
    (H : ∀ W, Rs W B b l k → Calls Try.prog 40 #[.pointer (some ⟨b, 0, none⟩)] W (CP W B b 43 [] l (.tuple #[.int .i64 x, .bool o]) k')) :
    Calls Try.prog 17 #[.pointer (some ⟨b, 0, none⟩), .agg #[.int .i64 y, .string t]] w (WT w B b l x 0 ⟨#[]⟩ o k') := by
  have HH := Lib.hid H
  clear H
  have HB : Hid (b < w.heap.size) := h.lt
  have HBL := Lib.hid (bl_three w (.cells #[.int .i64 y, .string t] 33) (.cells (tvl 0 0 0 ⟨#[]⟩ false false) 37) (.cells (tvl 0 0 0 ⟨#[]⟩ false false) 37))
  have HS : Hid (Rs (((w.alloc (.cells #[.int .i64 y, .string t] 33)).alloc (.cells (tvl 0 0 0 ⟨#[]⟩ false false) 37)).alloc (.cells (tvl 0 0 0 ⟨#[]⟩ false false) 37)) B b l k) := Cu.below h HBL.out
  have HP : Hid (∀ W, Calls Try.prog 14 #[.int .i64 y, .int .i64 8] W fun e w' => e = .returned (.int .i64 6) ∧ w' = W) := fun W => by
    have := pick8 y W
    rw [hy] at this; exact this
  have HT3 := Lib.hid (tb_three w (.cells #[.int .i64 y, .string t] 33) (tvl 0 0 0 ⟨#[]⟩ false false) (tvl 0 0 0 ⟨#[]⟩ false false))
  have hne : Hid (b ≠ w.heap.size + 1 + 1) := by have := HB.out; show _ ≠ _; omega
  have hne1 : Hid (b ≠ w.heap.size + 1) := by have := HB.out; show _ ≠ _; omega
  clear h hy
  go_enter Try.func17, Try.ntmps17
  go_wp2_with fail
  refine (HP.out _).mono ?_
  rintro e w' ⟨rfl, rfl⟩
  go_wp2_with fail
  refine (HH.out _ HS.out).mono ?_
  rintro e w4 ⟨rfl, hc4, hg4⟩
  have hT4 : Tb w4 (w.heap.size + 1 + 1) (tvl 0 0 0 ⟨#[]⟩ false false) := HT3.out.1.kept hg4 hne.out
  have hR4 : Tb w4 (w.heap.size + 1) (tvl 0 0 0 ⟨#[]⟩ false false) := HT3.out.2.kept hg4 hne1.out
  have HG4 : Hid (w.grownBy w4 (some b)) := (below_grown HBL.out _).trans hg4
  clear HT3 HS HBL
  obtain ⟨q0, q1, q2, q3, q4, q5⟩ := hT4.cells
  have hcA := hc4.cell1
  have hnb : ¬ b = w.heap.size + 1 + 1 := hne.out
  have hnb2 : ¬ w.heap.size + 1 + 1 = b := Ne.symm hne.out
  have f2 := hT4.frz 2
  have f0 := hT4.frz 0
  have f4 := hT4.frz 4
  have HC4 := Lib.hid hc4
  have HT4 := Lib.hid hT4
  have HR4 := Lib.hid hR4
  clear hc4 hg4 hT4 hR4
  go_wp2_with fail
  refine (done_ref B b l k' _ (Rs.tb (Rs.tb (Rs.tb HC4.out HT4.out 0 _) (Tb.set HT4.out 0 _) 4 _) (Tb.set (Tb.set HT4.out 0 _) 4 _) 2 _)).mono ?_
  rintro e w6 ⟨rfl, nd, hw6⟩
  have hC6 : Rs w6 B b l k' := by rw [hw6]; exact Cu.drewN (Rs.tb (Rs.tb (Rs.tb HC4.out HT4.out 0 _) (Tb.set HT4.out 0 _) 4 _) (Tb.set (Tb.set HT4.out 0 _) 4 _) 2 _) nd
  have hT6 : Tb w6 (w.heap.size + 1 + 1) ((tvl x 0 0 ⟨#[]⟩ o false).set! 2 (.int .i64 (k' : Nat))) := by rw [hw6]; exact (Tb.set (Tb.set (Tb.set HT4.out 0 _) 4 _) 2 _)
  have hR6 : Tb w6 (w.heap.size + 1) (tvl 0 0 0 ⟨#[]⟩ false false) := by rw [hw6]; exact (Tb.other (Tb.other (Tb.other HR4.out (w.heap.size + 1 + 1) 0 _ (by omega)) (w.heap.size + 1 + 1) 4 _ (by omega)) (w.heap.size + 1 + 1) 2 _ (by omega))
  have HG6 : Hid (w.grownBy w6 (some b)) := by rw [hw6]; exact (grown_new (grown_new (grown_new HG4.out (grown_set _ ⟨w.heap.size + 1 + 1, 0, none⟩ _) (show w.heap.size ≤ w.heap.size + 1 + 1 by omega)) (grown_set _ ⟨w.heap.size + 1 + 1, 4, none⟩ _) (show w.heap.size ≤ w.heap.size + 1 + 1 by omega)) (grown_set _ ⟨w.heap.size + 1 + 1, 2, none⟩ _) (show w.heap.size ≤ w.heap.size + 1 + 1 by omega)).trans (grown_drewN _ nd _)
  clear hw6 HG4 q0 q1 q2 q3 q4 q5 HC4 HT4 HR4 hcA
  generalize hD : decide (k' = l.length) = D
  have HD := Lib.hid hD
  clear hD
  obtain ⟨q0, q1, q2, q3, q4, q5⟩ := (show Tb w6 (w.heap.size + 1 + 1) (tvl x 0 (k' : Nat) ⟨#[]⟩ o false) from hT6).cells
  have g5 := hT6.frz 5
  obtain ⟨r0, r1, r2, r3, r4, r5⟩ := hR6.cells
  have z0 := hR6.frz 0
  have z1 := hR6.frz 1
  have z2 := hR6.frz 2
  have z3 := hR6.frz 3
  have z4 := hR6.frz 4
  have z5 := hR6.frz 5
  have HC6 := Lib.hid hC6
  have HT6 := Lib.hid hT6
  have HR6 := Lib.hid hR6
  clear hC6 hT6 hR6
  go_wp2
  have X0 := Tb.other HR6.out (w.heap.size + 1 + 1) 5 (.bool D) (by omega)
  have X6 := (((((X0.set 0 (.int .i64 x)).set 1 (.int .i64 0)).set 2 (.int .i64 (k' : Nat))).set 3 (.string ⟨#[]⟩)).set 4 (.bool o)).set 5 (.bool D)
  refine bodyPost_ret (results_cell_row rfl _ _ (w.heap.size + 1) 37 _ (0, 0) _ rfl X6 Try.underlying37 rfl (by kernel_rfl)) rfl ?_
  refine ⟨by rw [HD.out]; rfl, ?_, ?_⟩
  · have Y0 := Rs.tb HC6.out HT6.out 5 (.bool D)
    exact (((((Y0.tb X0 0 _).tb (X0.set 0 _) 1 _).tb ((X0.set 0 _).set 1 _) 2 _).tb (((X0.set 0 _).set 1 _).set 2 _) 3 _).tb ((((X0.set 0 _).set 1 _).set 2 _).set 3 _) 4 _).tb (((((X0.set 0 _).set 1 _).set 2 _).set 3 _).set 4 _) 5 _
  · have z1 : w.heap.size ≤ w.heap.size + 1 := by omega
    have z2 : w.heap.size ≤ w.heap.size + 1 + 1 := by omega
    exact grown_new (grown_new (grown_new (grown_new (grown_new (grown_new (grown_new HG6.out (grown_set _ ⟨w.heap.size + 1 + 1, 5, none⟩ _) z2) (grown_set _ ⟨w.heap.size + 1, 0, none⟩ _) z1) (grown_set _ ⟨w.heap.size + 1, 1, none⟩ _) z1) (grown_set _ ⟨w.heap.size + 1, 2, none⟩ _) z1) (grown_set _ ⟨w.heap.size + 1, 3, none⟩ _) z1) (grown_set _ ⟨w.heap.size + 1, 4, none⟩ _) z1) (grown_set _ ⟨w.heap.size + 1, 5, none⟩ _) z1

set_option maxHeartbeats 1600000 in
theorem wants_7 (B b : Nat) (l : List Int) (k : Nat) (y : Int) (t : ByteArray)  (w : World) (h : Rs w B b l k) (hy : pk y = 7) :
    Calls Try.prog 17 #[.pointer (some ⟨b, 0, none⟩), .agg #[.int .i64 y, .string t]] w (WT w B b l 0 0 ⟨#[]⟩ false k) := by
  have HB : Hid (b < w.heap.size) := h.lt
  have HBL := Lib.hid (bl_three w (.cells #[.int .i64 y, .string t] 33) (.cells (tvl 0 0 0 ⟨#[]⟩ false false) 37) (.cells (tvl 0 0 0 ⟨#[]⟩ false false) 37))
  have HS : Hid (Rs (((w.alloc (.cells #[.int .i64 y, .string t] 33)).alloc (.cells (tvl 0 0 0 ⟨#[]⟩ false false) 37)).alloc (.cells (tvl 0 0 0 ⟨#[]⟩ false false) 37)) B b l k) := Cu.below h HBL.out
  have HP : Hid (∀ W, Calls Try.prog 14 #[.int .i64 y, .int .i64 8] W fun e w' => e = .returned (.int .i64 7) ∧ w' = W) := fun W => by
    have := pick8 y W
    rw [hy] at this; exact this
  have HT3 := Lib.hid (tb_three w (.cells #[.int .i64 y, .string t] 33) (tvl 0 0 0 ⟨#[]⟩ false false) (tvl 0 0 0 ⟨#[]⟩ false false))
  have hne : Hid (b ≠ w.heap.size + 1 + 1) := by have := HB.out; show _ ≠ _; omega
  have hne1 : Hid (b ≠ w.heap.size + 1) := by have := HB.out; show _ ≠ _; omega
  have hnb : ¬ b = w.heap.size + 1 + 1 := hne.out
  have hnb2 : ¬ w.heap.size + 1 + 1 = b := Ne.symm hne.out
  have hnb0 : ¬ b = w.heap.size := by have := HB.out; omega
  have hnb1 : ¬ b = w.heap.size + 1 := hne1.out
  have hcA0 := HS.out.cell1
  unfold tvl at hcA0
  have HBK := Lib.hid (bl_three w (.cells #[.int .i64 y, .string t] 33) (.cells (tvl 0 0 0 ⟨#[]⟩ false false) 37) (.cells (tvl 0 0 (k : Nat) ⟨#[]⟩ false false) 37))
  have HSK : Hid (Rs _ B b l k) := Cu.below h HBK.out
  have HTK := Lib.hid (tb_three w (.cells #[.int .i64 y, .string t] 33) (tvl 0 0 0 ⟨#[]⟩ false false) (tvl 0 0 (k : Nat) ⟨#[]⟩ false false))
  clear h hy
  go_enter Try.func17, Try.ntmps17
  go_wp2_with fail
  refine (HP.out _).mono ?_
  rintro e w' ⟨rfl, rfl⟩
  go_wp2_with fail
  refine (done_ref B b l k _ HSK.out).mono ?_
  rintro e w6 ⟨rfl, nd, hw6⟩
  have hC6 : Rs w6 B b l k := by rw [hw6]; exact Cu.drewN HSK.out nd
  have hT6 : Tb w6 (w.heap.size + 1 + 1) ((tvl 0 0 0 ⟨#[]⟩ false false).set! 2 (.int .i64 (k : Nat))) := by rw [hw6]; exact HTK.out.1
  have hR6 : Tb w6 (w.heap.size + 1) (tvl 0 0 0 ⟨#[]⟩ false false) := by rw [hw6]; exact HTK.out.2
  have HG6 : Hid (w.grownBy w6 (some b)) := by rw [hw6]; exact (below_grown HBK.out (some b)).trans (grown_drewN _ nd _)
  clear hw6 HT3 HS HBL hcA0
  generalize hD : decide (k = l.length) = D
  have HD := Lib.hid hD
  clear hD
  obtain ⟨q0, q1, q2, q3, q4, q5⟩ := (show Tb w6 (w.heap.size + 1 + 1) (tvl 0 0 (k : Nat) ⟨#[]⟩ false false) from hT6).cells
  have g5 := hT6.frz 5
  obtain ⟨r0, r1, r2, r3, r4, r5⟩ := hR6.cells
  have z0 := hR6.frz 0
  have z1 := hR6.frz 1
  have z2 := hR6.frz 2
  have z3 := hR6.frz 3
  have z4 := hR6.frz 4
  have z5 := hR6.frz 5
  have HC6 := Lib.hid hC6
  have HT6 := Lib.hid hT6
  have HR6 := Lib.hid hR6
  clear hC6 hT6 hR6
  go_wp2
  have X0 := Tb.other HR6.out (w.heap.size + 1 + 1) 5 (.bool D) (by omega)
  have X6 := (((((X0.set 0 (.int .i64 0)).set 1 (.int .i64 0)).set 2 (.int .i64 (k : Nat))).set 3 (.string ⟨#[]⟩)).set 4 (.bool false)).set 5 (.bool D)
  refine bodyPost_ret (results_cell_row rfl _ _ (w.heap.size + 1) 37 _ (0, 0) _ rfl X6 Try.underlying37 rfl (by kernel_rfl)) rfl ?_
  refine ⟨by rw [HD.out]; rfl, ?_, ?_⟩
  · have Y0 := Rs.tb HC6.out HT6.out 5 (.bool D)
    exact (((((Y0.tb X0 0 _).tb (X0.set 0 _) 1 _).tb ((X0.set 0 _).set 1 _) 2 _).tb (((X0.set 0 _).set 1 _).set 2 _) 3 _).tb ((((X0.set 0 _).set 1 _).set 2 _).set 3 _) 4 _).tb (((((X0.set 0 _).set 1 _).set 2 _).set 3 _).set 4 _) 5 _
  · have z1 : w.heap.size ≤ w.heap.size + 1 := by omega
    have z2 : w.heap.size ≤ w.heap.size + 1 + 1 := by omega
    exact grown_new (grown_new (grown_new (grown_new (grown_new (grown_new (grown_new HG6.out (grown_set _ ⟨w.heap.size + 1 + 1, 5, none⟩ _) z2) (grown_set _ ⟨w.heap.size + 1, 0, none⟩ _) z1) (grown_set _ ⟨w.heap.size + 1, 1, none⟩ _) z1) (grown_set _ ⟨w.heap.size + 1, 2, none⟩ _) z1) (grown_set _ ⟨w.heap.size + 1, 3, none⟩ _) z1) (grown_set _ ⟨w.heap.size + 1, 4, none⟩ _) z1) (grown_set _ ⟨w.heap.size + 1, 5, none⟩ _) z1
end Go.Proofs.Ytkpkhjflelmdjaa
