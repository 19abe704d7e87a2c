/- What an ask tells of no scan, and of one that nobody made. -/
import Derived.Test.YtkpkhjflelmdjaaYs
namespace Go.Proofs.Ytkpkhjflelmdjaa
open Go.RowKit Tnd

/-- a scan that nobody made, whatever is made besides. -/
def Off (w : World) (v : Value) : Prop := ∀ W, Below w.heap.size w W → Calls Try.prog 29 #[v] W fun e w' => e = .returned (.bool false) ∧ w' = W
theorem off_nil (w : World) : Off w (.pointer none) := fun W _ => made_nil W
theorem off_bare {w : World} {b : Nat} (hc : w.cell? ⟨b, 2, none⟩ = some (.pointer none)) : Off w (.pointer (some ⟨b, 0, none⟩)) := fun W hW => made_no b W (by rw [hW.cell (World.block_lt_of_cell? w _ hc)]; exact hc)
theorem bl_set {w W : World} {nb i : Nat} {x : Value} (h : Below w.heap.size w W) (hn : w.heap.size ≤ nb) : Below w.heap.size w (W.setCell ⟨nb, i, none⟩ x) :=
  h.grown (grown_set W ⟨nb, i, none⟩ x) h.size (fun k hk => by cases hk; exact hn)
def told0 : Array Value := tvl 0 0 0 ⟨#[]⟩ false false
/-- what an ask tells of none. -/
def OP (w : World) (e : Ending) (w' : World) : Prop := e = .returned (.agg told0) ∧ Below w.heap.size w w'

set_option maxHeartbeats 1600000 in
theorem off_0 (v : Value) (y : Int) (t : ByteArray) (w : World) (h : Off w v) (hy : pk y = 0) :
    Calls Try.prog 16 #[v, .agg #[.int .i64 y, .string t]] w (OP w) := by
  have HOF := Lib.hid h
  have HBL := Lib.hid (bl_three w (.cells #[.int .i64 y, .string t] 33) (.cells (tvl 0 0 0 ⟨#[]⟩ false false) 37) (.cells (tvl 0 0 0 ⟨#[]⟩ false false) 37))
  have HP : Hid (∀ W, Calls Try.prog 14 #[.int .i64 y, .int .i64 8] W fun e w' => e = .returned (.int .i64 0) ∧ w' = W) := fun W => by
    have := pick8 y W
    rw [hy] at this; exact this
  have HT3 := Lib.hid (tb_three w (.cells #[.int .i64 y, .string t] 33) (tvl 0 0 0 ⟨#[]⟩ false false) (tvl 0 0 0 ⟨#[]⟩ false false))
  have z1 : Hid (w.heap.size ≤ w.heap.size + 1) := by show _ ≤ _; omega
  have z2 : Hid (w.heap.size ≤ w.heap.size + 1 + 1) := by show _ ≤ _; omega
  clear h hy
  go_enter Try.func16, Try.ntmps16
  go_wp2_with fail
  refine (HP.out _).mono ?_
  rintro e w' ⟨rfl, rfl⟩
  go_wp2_with fail
  refine (Next_off v _ (HOF.out _ HBL.out)).mono ?_
  rintro e w4 ⟨rfl, hw4⟩
  have hT4 : Tb w4 (w.heap.size + 1 + 1) told0 := by rw [hw4]; exact HT3.out.1
  have hR4 : Tb w4 (w.heap.size + 1) told0 := by rw [hw4]; exact HT3.out.2
  have HG4 : Hid (Below w.heap.size w w4) := by rw [hw4]; exact HBL.out
  clear HT3 HBL hw4
  obtain ⟨q0, q1, q2, q3, q4, q5⟩ := hT4.cells
  have f0 := hT4.frz 0
  have f4 := hT4.frz 4
  have HT4 := Lib.hid hT4
  have HR4 := Lib.hid hR4
  clear hT4 hR4
  go_wp2_with fail
  refine (At_off v _ (HOF.out _ (bl_set (bl_set HG4.out z2.out) z2.out))).mono ?_
  rintro e w5 ⟨rfl, hw5⟩
  have hT5 : Tb w5 (w.heap.size + 1 + 1) told0 := by rw [hw5]; exact (Tb.set (Tb.set HT4.out 0 _) 4 _)
  have hR5 : Tb w5 (w.heap.size + 1) told0 := by rw [hw5]; exact (Tb.other (Tb.other HR4.out (w.heap.size + 1 + 1) 0 _ (by omega)) (w.heap.size + 1 + 1) 4 _ (by omega))
  have HG5 : Hid (Below w.heap.size w w5) := by rw [hw5]; exact (bl_set (bl_set HG4.out z2.out) z2.out)
  clear hw5 HG4 q0 q1 q2 q3 q4 q5 HT4 HR4
  obtain ⟨q0, q1, q2, q3, q4, q5⟩ := hT5.cells
  have g2 := hT5.frz 2
  have HT5 := Lib.hid hT5
  have HR5 := Lib.hid hR5
  clear hT5 hR5
  go_wp2_with fail
  refine (Done_off v _ (HOF.out _ (bl_set HG5.out z2.out))).mono ?_
  rintro e w6 ⟨rfl, hw6⟩
  have hT6 : Tb w6 (w.heap.size + 1 + 1) told0 := by rw [hw6]; exact Tb.set HT5.out 2 _
  have hR6 : Tb w6 (w.heap.size + 1) told0 := by rw [hw6]; exact Tb.other HR5.out (w.heap.size + 1 + 1) 2 _ (by omega)
  have HG6 : Hid (Below w.heap.size w w6) := by rw [hw6]; exact bl_set HG5.out z2.out
  clear hw6 HT5 HR5 HG5 q0 q1 q2 q3 q4 q5 g2
  obtain ⟨q0, q1, q2, q3, q4, q5⟩ := hT6.cells
  have g5 := hT6.frz 5
  obtain ⟨r0, r1, r2, r3, r4, r5⟩ := hR6.cells
  have z0 := hR6.frz 0
  have y1 := hR6.frz 1
  have y2 := hR6.frz 2
  have z3 := hR6.frz 3
  have z4 := hR6.frz 4
  have z5 := hR6.frz 5
  have HT6 := Lib.hid hT6
  have HR6 := Lib.hid hR6
  clear hT6 hR6
  go_wp2
  have X0 := Tb.other HR6.out (w.heap.size + 1 + 1) 5 (.bool false) (by omega)
  have X6 := (((((X0.set 0 (.int .i64 0)).set 1 (.int .i64 0)).set 2 (.int .i64 0)).set 3 (.string ⟨#[]⟩)).set 4 (.bool false)).set 5 (.bool false)
  refine bodyPost_ret (results_cell_row rfl _ _ (w.heap.size + 1) 37 _ (0, 0) _ rfl X6 Try.underlying37 rfl (by kernel_rfl)) rfl ?_
  exact ⟨rfl, bl_set (bl_set (bl_set (bl_set (bl_set (bl_set (bl_set HG6.out z2.out) z1.out) z1.out) z1.out) z1.out) z1.out) z1.out⟩

set_option maxHeartbeats 1600000 in
theorem off_1 (v : Value) (y : Int) (t : ByteArray) (w : World) (h : Off w v) (hy : pk y = 1) :
    Calls Try.prog 16 #[v, .agg #[.int .i64 y, .string t]] w (OP w) := by
  have HOF := Lib.hid h
  have HBL := Lib.hid (bl_three w (.cells #[.int .i64 y, .string t] 33) (.cells (tvl 0 0 0 ⟨#[]⟩ false false) 37) (.cells (tvl 0 0 0 ⟨#[]⟩ false false) 37))
  have HP : Hid (∀ W, Calls Try.prog 14 #[.int .i64 y, .int .i64 8] W fun e w' => e = .returned (.int .i64 1) ∧ w' = W) := fun W => by
    have := pick8 y W
    rw [hy] at this; exact this
  have HT3 := Lib.hid (tb_three w (.cells #[.int .i64 y, .string t] 33) (tvl 0 0 0 ⟨#[]⟩ false false) (tvl 0 0 0 ⟨#[]⟩ false false))
  have z1 : Hid (w.heap.size ≤ w.heap.size + 1) := by show _ ≤ _; omega
  have z2 : Hid (w.heap.size ≤ w.heap.size + 1 + 1) := by show _ ≤ _; omega
  clear h hy
  go_enter Try.func16, Try.ntmps16
  go_wp2_with fail
  refine (HP.out _).mono ?_
  rintro e w' ⟨rfl, rfl⟩
  go_wp2_with fail
  refine (Take_off v t _ (HOF.out _ HBL.out)).mono ?_
  rintro e w4 ⟨rfl, hw4⟩
  have hT4 : Tb w4 (w.heap.size + 1 + 1) told0 := by rw [hw4]; exact HT3.out.1
  have hR4 : Tb w4 (w.heap.size + 1) told0 := by rw [hw4]; exact HT3.out.2
  have HG4 : Hid (Below w.heap.size w w4) := by rw [hw4]; exact HBL.out
  clear HT3 HBL hw4
  obtain ⟨q0, q1, q2, q3, q4, q5⟩ := hT4.cells
  have f4 := hT4.frz 4
  have HT4 := Lib.hid hT4
  have HR4 := Lib.hid hR4
  clear hT4 hR4
  go_wp2_with fail
  refine (At_off v _ (HOF.out _ (bl_set HG4.out z2.out))).mono ?_
  rintro e w5 ⟨rfl, hw5⟩
  have hT5 : Tb w5 (w.heap.size + 1 + 1) told0 := by rw [hw5]; exact (Tb.set HT4.out 4 _)
  have hR5 : Tb w5 (w.heap.size + 1) told0 := by rw [hw5]; exact (Tb.other HR4.out (w.heap.size + 1 + 1) 4 _ (by omega))
  have HG5 : Hid (Below w.heap.size w w5) := by rw [hw5]; exact (bl_set HG4.out z2.out)
  clear hw5 HG4 q0 q1 q2 q3 q4 q5 HT4 HR4
  obtain ⟨q0, q1, q2, q3, q4, q5⟩ := hT5.cells
  have g2 := hT5.frz 2
  have HT5 := Lib.hid hT5
  have HR5 := Lib.hid hR5
  clear hT5 hR5
  go_wp2_with fail
  refine (Done_off v _ (HOF.out _ (bl_set HG5.out z2.out))).mono ?_
  rintro e w6 ⟨rfl, hw6⟩
  have hT6 : Tb w6 (w.heap.size + 1 + 1) told0 := by rw [hw6]; exact Tb.set HT5.out 2 _
  have hR6 : Tb w6 (w.heap.size + 1) told0 := by rw [hw6]; exact Tb.other HR5.out (w.heap.size + 1 + 1) 2 _ (by omega)
  have HG6 : Hid (Below w.heap.size w w6) := by rw [hw6]; exact bl_set HG5.out z2.out
  clear hw6 HT5 HR5 HG5 q0 q1 q2 q3 q4 q5 g2
  obtain ⟨q0, q1, q2, q3, q4, q5⟩ := hT6.cells
  have g5 := hT6.frz 5
  obtain ⟨r0, r1, r2, r3, r4, r5⟩ := hR6.cells
  have z0 := hR6.frz 0
  have y1 := hR6.frz 1
  have y2 := hR6.frz 2
  have z3 := hR6.frz 3
  have z4 := hR6.frz 4
  have z5 := hR6.frz 5
  have HT6 := Lib.hid hT6
  have HR6 := Lib.hid hR6
  clear hT6 hR6
  go_wp2
  have X0 := Tb.other HR6.out (w.heap.size + 1 + 1) 5 (.bool false) (by omega)
  have X6 := (((((X0.set 0 (.int .i64 0)).set 1 (.int .i64 0)).set 2 (.int .i64 0)).set 3 (.string ⟨#[]⟩)).set 4 (.bool false)).set 5 (.bool false)
  refine bodyPost_ret (results_cell_row rfl _ _ (w.heap.size + 1) 37 _ (0, 0) _ rfl X6 Try.underlying37 rfl (by kernel_rfl)) rfl ?_
  exact ⟨rfl, bl_set (bl_set (bl_set (bl_set (bl_set (bl_set (bl_set HG6.out z2.out) z1.out) z1.out) z1.out) z1.out) z1.out) z1.out⟩

set_option maxHeartbeats 1600000 in
theorem off_2 (v : Value) (y : Int) (t : ByteArray) (w : World) (h : Off w v) (hy : pk y = 2) :
    Calls Try.prog 16 #[v, .agg #[.int .i64 y, .string t]] w (OP w) := by
  have HOF := Lib.hid h
  have HBL := Lib.hid (bl_three w (.cells #[.int .i64 y, .string t] 33) (.cells (tvl 0 0 0 ⟨#[]⟩ false false) 37) (.cells (tvl 0 0 0 ⟨#[]⟩ false false) 37))
  have HP : Hid (∀ W, Calls Try.prog 14 #[.int .i64 y, .int .i64 8] W fun e w' => e = .returned (.int .i64 2) ∧ w' = W) := fun W => by
    have := pick8 y W
    rw [hy] at this; exact this
  have HT3 := Lib.hid (tb_three w (.cells #[.int .i64 y, .string t] 33) (tvl 0 0 0 ⟨#[]⟩ false false) (tvl 0 0 0 ⟨#[]⟩ false false))
  have z1 : Hid (w.heap.size ≤ w.heap.size + 1) := by show _ ≤ _; omega
  have z2 : Hid (w.heap.size ≤ w.heap.size + 1 + 1) := by show _ ≤ _; omega
  clear h hy
  go_enter Try.func16, Try.ntmps16
  go_wp2_with fail
  refine (HP.out _).mono ?_
  rintro e w' ⟨rfl, rfl⟩
  go_wp2_with fail
  refine (Any_off v t _ (HOF.out _ HBL.out)).mono ?_
  rintro e w4 ⟨rfl, hw4⟩
  have hT4 : Tb w4 (w.heap.size + 1 + 1) told0 := by rw [hw4]; exact HT3.out.1
  have hR4 : Tb w4 (w.heap.size + 1) told0 := by rw [hw4]; exact HT3.out.2
  have HG4 : Hid (Below w.heap.size w w4) := by rw [hw4]; exact HBL.out
  clear HT3 HBL hw4
  obtain ⟨q0, q1, q2, q3, q4, q5⟩ := hT4.cells
  have f0 := hT4.frz 0
  have f4 := hT4.frz 4
  have HT4 := Lib.hid hT4
  have HR4 := Lib.hid hR4
  clear hT4 hR4
  go_wp2_with fail
  refine (At_off v _ (HOF.out _ (bl_set (bl_set HG4.out z2.out) z2.out))).mono ?_
  rintro e w5 ⟨rfl, hw5⟩
  have hT5 : Tb w5 (w.heap.size + 1 + 1) told0 := by rw [hw5]; exact (Tb.set (Tb.set HT4.out 0 _) 4 _)
  have hR5 : Tb w5 (w.heap.size + 1) told0 := by rw [hw5]; exact (Tb.other (Tb.other HR4.out (w.heap.size + 1 + 1) 0 _ (by omega)) (w.heap.size + 1 + 1) 4 _ (by omega))
  have HG5 : Hid (Below w.heap.size w w5) := by rw [hw5]; exact (bl_set (bl_set HG4.out z2.out) z2.out)
  clear hw5 HG4 q0 q1 q2 q3 q4 q5 HT4 HR4
  obtain ⟨q0, q1, q2, q3, q4, q5⟩ := hT5.cells
  have g2 := hT5.frz 2
  have HT5 := Lib.hid hT5
  have HR5 := Lib.hid hR5
  clear hT5 hR5
  go_wp2_with fail
  refine (Done_off v _ (HOF.out _ (bl_set HG5.out z2.out))).mono ?_
  rintro e w6 ⟨rfl, hw6⟩
  have hT6 : Tb w6 (w.heap.size + 1 + 1) told0 := by rw [hw6]; exact Tb.set HT5.out 2 _
  have hR6 : Tb w6 (w.heap.size + 1) told0 := by rw [hw6]; exact Tb.other HR5.out (w.heap.size + 1 + 1) 2 _ (by omega)
  have HG6 : Hid (Below w.heap.size w w6) := by rw [hw6]; exact bl_set HG5.out z2.out
  clear hw6 HT5 HR5 HG5 q0 q1 q2 q3 q4 q5 g2
  obtain ⟨q0, q1, q2, q3, q4, q5⟩ := hT6.cells
  have g5 := hT6.frz 5
  obtain ⟨r0, r1, r2, r3, r4, r5⟩ := hR6.cells
  have z0 := hR6.frz 0
  have y1 := hR6.frz 1
  have y2 := hR6.frz 2
  have z3 := hR6.frz 3
  have z4 := hR6.frz 4
  have z5 := hR6.frz 5
  have HT6 := Lib.hid hT6
  have HR6 := Lib.hid hR6
  clear hT6 hR6
  go_wp2
  have X0 := Tb.other HR6.out (w.heap.size + 1 + 1) 5 (.bool false) (by omega)
  have X6 := (((((X0.set 0 (.int .i64 0)).set 1 (.int .i64 0)).set 2 (.int .i64 0)).set 3 (.string ⟨#[]⟩)).set 4 (.bool false)).set 5 (.bool false)
  refine bodyPost_ret (results_cell_row rfl _ _ (w.heap.size + 1) 37 _ (0, 0) _ rfl X6 Try.underlying37 rfl (by kernel_rfl)) rfl ?_
  exact ⟨rfl, bl_set (bl_set (bl_set (bl_set (bl_set (bl_set (bl_set HG6.out z2.out) z1.out) z1.out) z1.out) z1.out) z1.out) z1.out⟩

set_option maxHeartbeats 1600000 in
theorem off_3 (v : Value) (y : Int) (t : ByteArray) (w : World) (h : Off w v) (hy : pk y = 3) :
    Calls Try.prog 16 #[v, .agg #[.int .i64 y, .string t]] w (OP w) := by
  have HOF := Lib.hid h
  have HBL := Lib.hid (bl_three w (.cells #[.int .i64 y, .string t] 33) (.cells (tvl 0 0 0 ⟨#[]⟩ false false) 37) (.cells (tvl 0 0 0 ⟨#[]⟩ false false) 37))
  have HP : Hid (∀ W, Calls Try.prog 14 #[.int .i64 y, .int .i64 8] W fun e w' => e = .returned (.int .i64 3) ∧ w' = W) := fun W => by
    have := pick8 y W
    rw [hy] at this; exact this
  have HT3 := Lib.hid (tb_three w (.cells #[.int .i64 y, .string t] 33) (tvl 0 0 0 ⟨#[]⟩ false false) (tvl 0 0 0 ⟨#[]⟩ false false))
  have z1 : Hid (w.heap.size ≤ w.heap.size + 1) := by show _ ≤ _; omega
  have z2 : Hid (w.heap.size ≤ w.heap.size + 1 + 1) := by show _ ≤ _; omega
  clear h hy
  go_enter Try.func16, Try.ntmps16
  go_wp2_with fail
  refine (HP.out _).mono ?_
  rintro e w' ⟨rfl, rfl⟩
  go_wp2_with fail
  refine (Decimal_off v _ (HOF.out _ HBL.out)).mono ?_
  rintro e w4 ⟨rfl, hw4⟩
  have hT4 : Tb w4 (w.heap.size + 1 + 1) told0 := by rw [hw4]; exact HT3.out.1
  have hR4 : Tb w4 (w.heap.size + 1) told0 := by rw [hw4]; exact HT3.out.2
  have HG4 : Hid (Below w.heap.size w w4) := by rw [hw4]; exact HBL.out
  clear HT3 HBL hw4
  obtain ⟨q0, q1, q2, q3, q4, q5⟩ := hT4.cells
  have f0 := hT4.frz 0
  have f1 := hT4.frz 1
  have HT4 := Lib.hid hT4
  have HR4 := Lib.hid hR4
  clear hT4 hR4
  go_wp2_with fail
  refine (At_off v _ (HOF.out _ (bl_set (bl_set HG4.out z2.out) z2.out))).mono ?_
  rintro e w5 ⟨rfl, hw5⟩
  have hT5 : Tb w5 (w.heap.size + 1 + 1) told0 := by rw [hw5]; exact (Tb.set (Tb.set HT4.out 0 _) 1 _)
  have hR5 : Tb w5 (w.heap.size + 1) told0 := by rw [hw5]; exact (Tb.other (Tb.other HR4.out (w.heap.size + 1 + 1) 0 _ (by omega)) (w.heap.size + 1 + 1) 1 _ (by omega))
  have HG5 : Hid (Below w.heap.size w w5) := by rw [hw5]; exact (bl_set (bl_set HG4.out z2.out) z2.out)
  clear hw5 HG4 q0 q1 q2 q3 q4 q5 HT4 HR4
  obtain ⟨q0, q1, q2, q3, q4, q5⟩ := hT5.cells
  have g2 := hT5.frz 2
  have HT5 := Lib.hid hT5
  have HR5 := Lib.hid hR5
  clear hT5 hR5
  go_wp2_with fail
  refine (Done_off v _ (HOF.out _ (bl_set HG5.out z2.out))).mono ?_
  rintro e w6 ⟨rfl, hw6⟩
  have hT6 : Tb w6 (w.heap.size + 1 + 1) told0 := by rw [hw6]; exact Tb.set HT5.out 2 _
  have hR6 : Tb w6 (w.heap.size + 1) told0 := by rw [hw6]; exact Tb.other HR5.out (w.heap.size + 1 + 1) 2 _ (by omega)
  have HG6 : Hid (Below w.heap.size w w6) := by rw [hw6]; exact bl_set HG5.out z2.out
  clear hw6 HT5 HR5 HG5 q0 q1 q2 q3 q4 q5 g2
  obtain ⟨q0, q1, q2, q3, q4, q5⟩ := hT6.cells
  have g5 := hT6.frz 5
  obtain ⟨r0, r1, r2, r3, r4, r5⟩ := hR6.cells
  have z0 := hR6.frz 0
  have y1 := hR6.frz 1
  have y2 := hR6.frz 2
  have z3 := hR6.frz 3
  have z4 := hR6.frz 4
  have z5 := hR6.frz 5
  have HT6 := Lib.hid hT6
  have HR6 := Lib.hid hR6
  clear hT6 hR6
  go_wp2
  have X0 := Tb.other HR6.out (w.heap.size + 1 + 1) 5 (.bool false) (by omega)
  have X6 := (((((X0.set 0 (.int .i64 0)).set 1 (.int .i64 0)).set 2 (.int .i64 0)).set 3 (.string ⟨#[]⟩)).set 4 (.bool false)).set 5 (.bool false)
  refine bodyPost_ret (results_cell_row rfl _ _ (w.heap.size + 1) 37 _ (0, 0) _ rfl X6 Try.underlying37 rfl (by kernel_rfl)) rfl ?_
  exact ⟨rfl, bl_set (bl_set (bl_set (bl_set (bl_set (bl_set (bl_set HG6.out z2.out) z1.out) z1.out) z1.out) z1.out) z1.out) z1.out⟩

set_option maxHeartbeats 1600000 in
theorem off_4 (v : Value) (y : Int) (t : ByteArray) (w : World) (h : Off w v) (hy : pk y = 4) :
    Calls Try.prog 16 #[v, .agg #[.int .i64 y, .string t]] w (OP w) := by
  have HOF := Lib.hid h
  have HBL := Lib.hid (bl_three w (.cells #[.int .i64 y, .string t] 33) (.cells (tvl 0 0 0 ⟨#[]⟩ false false) 37) (.cells (tvl 0 0 0 ⟨#[]⟩ false false) 37))
  have HP : Hid (∀ W, Calls Try.prog 14 #[.int .i64 y, .int .i64 8] W fun e w' => e = .returned (.int .i64 4) ∧ w' = W) := fun W => by
    have := pick8 y W
    rw [hy] at this; exact this
  have HT3 := Lib.hid (tb_three w (.cells #[.int .i64 y, .string t] 33) (tvl 0 0 0 ⟨#[]⟩ false false) (tvl 0 0 0 ⟨#[]⟩ false false))
  have z1 : Hid (w.heap.size ≤ w.heap.size + 1) := by show _ ≤ _; omega
  have z2 : Hid (w.heap.size ≤ w.heap.size + 1 + 1) := by show _ ≤ _; omega
  clear h hy
  go_enter Try.func16, Try.ntmps16
  go_wp2_with fail
  refine (HP.out _).mono ?_
  rintro e w' ⟨rfl, rfl⟩
  go_wp2_with fail
  refine (Escape_off v _ (HOF.out _ HBL.out)).mono ?_
  rintro e w4 ⟨rfl, hw4⟩
  have hT4 : Tb w4 (w.heap.size + 1 + 1) told0 := by rw [hw4]; exact HT3.out.1
  have hR4 : Tb w4 (w.heap.size + 1) told0 := by rw [hw4]; exact HT3.out.2
  have HG4 : Hid (Below w.heap.size w w4) := by rw [hw4]; exact HBL.out
  clear HT3 HBL hw4
  obtain ⟨q0, q1, q2, q3, q4, q5⟩ := hT4.cells
  have f0 := hT4.frz 0
  have f4 := hT4.frz 4
  have HT4 := Lib.hid hT4
  have HR4 := Lib.hid hR4
  clear hT4 hR4
  go_wp2_with fail
  refine (At_off v _ (HOF.out _ (bl_set (bl_set HG4.out z2.out) z2.out))).mono ?_
  rintro e w5 ⟨rfl, hw5⟩
  have hT5 : Tb w5 (w.heap.size + 1 + 1) told0 := by rw [hw5]; exact (Tb.set (Tb.set HT4.out 0 _) 4 _)
  have hR5 : Tb w5 (w.heap.size + 1) told0 := by rw [hw5]; exact (Tb.other (Tb.other HR4.out (w.heap.size + 1 + 1) 0 _ (by omega)) (w.heap.size + 1 + 1) 4 _ (by omega))
  have HG5 : Hid (Below w.heap.size w w5) := by rw [hw5]; exact (bl_set (bl_set HG4.out z2.out) z2.out)
  clear hw5 HG4 q0 q1 q2 q3 q4 q5 HT4 HR4
  obtain ⟨q0, q1, q2, q3, q4, q5⟩ := hT5.cells
  have g2 := hT5.frz 2
  have HT5 := Lib.hid hT5
  have HR5 := Lib.hid hR5
  clear hT5 hR5
  go_wp2_with fail
  refine (Done_off v _ (HOF.out _ (bl_set HG5.out z2.out))).mono ?_
  rintro e w6 ⟨rfl, hw6⟩
  have hT6 : Tb w6 (w.heap.size + 1 + 1) told0 := by rw [hw6]; exact Tb.set HT5.out 2 _
  have hR6 : Tb w6 (w.heap.size + 1) told0 := by rw [hw6]; exact Tb.other HR5.out (w.heap.size + 1 + 1) 2 _ (by omega)
  have HG6 : Hid (Below w.heap.size w w6) := by rw [hw6]; exact bl_set HG5.out z2.out
  clear hw6 HT5 HR5 HG5 q0 q1 q2 q3 q4 q5 g2
  obtain ⟨q0, q1, q2, q3, q4, q5⟩ := hT6.cells
  have g5 := hT6.frz 5
  obtain ⟨r0, r1, r2, r3, r4, r5⟩ := hR6.cells
  have z0 := hR6.frz 0
  have y1 := hR6.frz 1
  have y2 := hR6.frz 2
  have z3 := hR6.frz 3
  have z4 := hR6.frz 4
  have z5 := hR6.frz 5
  have HT6 := Lib.hid hT6
  have HR6 := Lib.hid hR6
  clear hT6 hR6
  go_wp2
  have X0 := Tb.other HR6.out (w.heap.size + 1 + 1) 5 (.bool false) (by omega)
  have X6 := (((((X0.set 0 (.int .i64 0)).set 1 (.int .i64 0)).set 2 (.int .i64 0)).set 3 (.string ⟨#[]⟩)).set 4 (.bool false)).set 5 (.bool false)
  refine bodyPost_ret (results_cell_row rfl _ _ (w.heap.size + 1) 37 _ (0, 0) _ rfl X6 Try.underlying37 rfl (by kernel_rfl)) rfl ?_
  exact ⟨rfl, bl_set (bl_set (bl_set (bl_set (bl_set (bl_set (bl_set HG6.out z2.out) z1.out) z1.out) z1.out) z1.out) z1.out) z1.out⟩

set_option maxHeartbeats 1600000 in
theorem off_5 (v : Value) (y : Int) (t : ByteArray) (w : World) (h : Off w v) (hy : pk y = 5) :
    Calls Try.prog 16 #[v, .agg #[.int .i64 y, .string t]] w (OP w) := by
  have HOF := Lib.hid h
  have HBL := Lib.hid (bl_three w (.cells #[.int .i64 y, .string t] 33) (.cells (tvl 0 0 0 ⟨#[]⟩ false false) 37) (.cells (tvl 0 0 0 ⟨#[]⟩ false false) 37))
  have HP : Hid (∀ W, Calls Try.prog 14 #[.int .i64 y, .int .i64 8] W fun e w' => e = .returned (.int .i64 5) ∧ w' = W) := fun W => by
    have := pick8 y W
    rw [hy] at this; exact this
  have HT3 := Lib.hid (tb_three w (.cells #[.int .i64 y, .string t] 33) (tvl 0 0 0 ⟨#[]⟩ false false) (tvl 0 0 0 ⟨#[]⟩ false false))
  have z1 : Hid (w.heap.size ≤ w.heap.size + 1) := by show _ ≤ _; omega
  have z2 : Hid (w.heap.size ≤ w.heap.size + 1 + 1) := by show _ ≤ _; omega
  clear h hy
  go_enter Try.func16, Try.ntmps16
  go_wp2_with fail
  refine (HP.out _).mono ?_
  rintro e w' ⟨rfl, rfl⟩
  go_wp2_with fail
  refine (Name_off v _ (HOF.out _ HBL.out)).mono ?_
  rintro e w4 ⟨rfl, hw4⟩
  have hT4 : Tb w4 (w.heap.size + 1 + 1) told0 := by rw [hw4]; exact HT3.out.1
  have hR4 : Tb w4 (w.heap.size + 1) told0 := by rw [hw4]; exact HT3.out.2
  have HG4 : Hid (Below w.heap.size w w4) := by rw [hw4]; exact HBL.out
  clear HT3 HBL hw4
  obtain ⟨q0, q1, q2, q3, q4, q5⟩ := hT4.cells
  have f3 := hT4.frz 3
  have f4 := hT4.frz 4
  have HT4 := Lib.hid hT4
  have HR4 := Lib.hid hR4
  clear hT4 hR4
  go_wp2_with fail
  refine (At_off v _ (HOF.out _ (bl_set (bl_set HG4.out z2.out) z2.out))).mono ?_
  rintro e w5 ⟨rfl, hw5⟩
  have hT5 : Tb w5 (w.heap.size + 1 + 1) told0 := by rw [hw5]; exact (Tb.set (Tb.set HT4.out 3 _) 4 _)
  have hR5 : Tb w5 (w.heap.size + 1) told0 := by rw [hw5]; exact (Tb.other (Tb.other HR4.out (w.heap.size + 1 + 1) 3 _ (by omega)) (w.heap.size + 1 + 1) 4 _ (by omega))
  have HG5 : Hid (Below w.heap.size w w5) := by rw [hw5]; exact (bl_set (bl_set HG4.out z2.out) z2.out)
  clear hw5 HG4 q0 q1 q2 q3 q4 q5 HT4 HR4
  obtain ⟨q0, q1, q2, q3, q4, q5⟩ := hT5.cells
  have g2 := hT5.frz 2
  have HT5 := Lib.hid hT5
  have HR5 := Lib.hid hR5
  clear hT5 hR5
  go_wp2_with fail
  refine (Done_off v _ (HOF.out _ (bl_set HG5.out z2.out))).mono ?_
  rintro e w6 ⟨rfl, hw6⟩
  have hT6 : Tb w6 (w.heap.size + 1 + 1) told0 := by rw [hw6]; exact Tb.set HT5.out 2 _
  have hR6 : Tb w6 (w.heap.size + 1) told0 := by rw [hw6]; exact Tb.other HR5.out (w.heap.size + 1 + 1) 2 _ (by omega)
  have HG6 : Hid (Below w.heap.size w w6) := by rw [hw6]; exact bl_set HG5.out z2.out
  clear hw6 HT5 HR5 HG5 q0 q1 q2 q3 q4 q5 g2
  obtain ⟨q0, q1, q2, q3, q4, q5⟩ := hT6.cells
  have g5 := hT6.frz 5
  obtain ⟨r0, r1, r2, r3, r4, r5⟩ := hR6.cells
  have z0 := hR6.frz 0
  have y1 := hR6.frz 1
  have y2 := hR6.frz 2
  have z3 := hR6.frz 3
  have z4 := hR6.frz 4
  have z5 := hR6.frz 5
  have HT6 := Lib.hid hT6
  have HR6 := Lib.hid hR6
  clear hT6 hR6
  go_wp2
  have X0 := Tb.other HR6.out (w.heap.size + 1 + 1) 5 (.bool false) (by omega)
  have X6 := (((((X0.set 0 (.int .i64 0)).set 1 (.int .i64 0)).set 2 (.int .i64 0)).set 3 (.string ⟨#[]⟩)).set 4 (.bool false)).set 5 (.bool false)
  refine bodyPost_ret (results_cell_row rfl _ _ (w.heap.size + 1) 37 _ (0, 0) _ rfl X6 Try.underlying37 rfl (by kernel_rfl)) rfl ?_
  exact ⟨rfl, bl_set (bl_set (bl_set (bl_set (bl_set (bl_set (bl_set HG6.out z2.out) z1.out) z1.out) z1.out) z1.out) z1.out) z1.out⟩

set_option maxHeartbeats 1600000 in
theorem off_6 (v : Value) (y : Int) (t : ByteArray) (w : World) (h : Off w v) (hy : pk y = 6) :
    Calls Try.prog 16 #[v, .agg #[.int .i64 y, .string t]] w (OP w) := by
  have HOF := Lib.hid h
  have HBL := Lib.hid (bl_three w (.cells #[.int .i64 y, .string t] 33) (.cells (tvl 0 0 0 ⟨#[]⟩ false false) 37) (.cells (tvl 0 0 0 ⟨#[]⟩ false false) 37))
  have HP : Hid (∀ W, Calls Try.prog 14 #[.int .i64 y, .int .i64 8] W fun e w' => e = .returned (.int .i64 6) ∧ w' = W) := fun W => by
    have := pick8 y W
    rw [hy] at this; exact this
  have HT3 := Lib.hid (tb_three w (.cells #[.int .i64 y, .string t] 33) (tvl 0 0 0 ⟨#[]⟩ false false) (tvl 0 0 0 ⟨#[]⟩ false false))
  have z1 : Hid (w.heap.size ≤ w.heap.size + 1) := by show _ ≤ _; omega
  have z2 : Hid (w.heap.size ≤ w.heap.size + 1 + 1) := by show _ ≤ _; omega
  clear h hy
  go_enter Try.func16, Try.ntmps16
  go_wp2_with fail
  refine (HP.out _).mono ?_
  rintro e w' ⟨rfl, rfl⟩
  go_wp2_with fail
  refine (Peek_off v _ (HOF.out _ HBL.out)).mono ?_
  rintro e w4 ⟨rfl, hw4⟩
  have hT4 : Tb w4 (w.heap.size + 1 + 1) told0 := by rw [hw4]; exact HT3.out.1
  have hR4 : Tb w4 (w.heap.size + 1) told0 := by rw [hw4]; exact HT3.out.2
  have HG4 : Hid (Below w.heap.size w w4) := by rw [hw4]; exact HBL.out
  clear HT3 HBL hw4
  obtain ⟨q0, q1, q2, q3, q4, q5⟩ := hT4.cells
  have f0 := hT4.frz 0
  have f4 := hT4.frz 4
  have HT4 := Lib.hid hT4
  have HR4 := Lib.hid hR4
  clear hT4 hR4
  go_wp2_with fail
  refine (At_off v _ (HOF.out _ (bl_set (bl_set HG4.out z2.out) z2.out))).mono ?_
  rintro e w5 ⟨rfl, hw5⟩
  have hT5 : Tb w5 (w.heap.size + 1 + 1) told0 := by rw [hw5]; exact (Tb.set (Tb.set HT4.out 0 _) 4 _)
  have hR5 : Tb w5 (w.heap.size + 1) told0 := by rw [hw5]; exact (Tb.other (Tb.other HR4.out (w.heap.size + 1 + 1) 0 _ (by omega)) (w.heap.size + 1 + 1) 4 _ (by omega))
  have HG5 : Hid (Below w.heap.size w w5) := by rw [hw5]; exact (bl_set (bl_set HG4.out z2.out) z2.out)
  clear hw5 HG4 q0 q1 q2 q3 q4 q5 HT4 HR4
  obtain ⟨q0, q1, q2, q3, q4, q5⟩ := hT5.cells
  have g2 := hT5.frz 2
  have HT5 := Lib.hid hT5
  have HR5 := Lib.hid hR5
  clear hT5 hR5
  go_wp2_with fail
  refine (Done_off v _ (HOF.out _ (bl_set HG5.out z2.out))).mono ?_
  rintro e w6 ⟨rfl, hw6⟩
  have hT6 : Tb w6 (w.heap.size + 1 + 1) told0 := by rw [hw6]; exact Tb.set HT5.out 2 _
  have hR6 : Tb w6 (w.heap.size + 1) told0 := by rw [hw6]; exact Tb.other HR5.out (w.heap.size + 1 + 1) 2 _ (by omega)
  have HG6 : Hid (Below w.heap.size w w6) := by rw [hw6]; exact bl_set HG5.out z2.out
  clear hw6 HT5 HR5 HG5 q0 q1 q2 q3 q4 q5 g2
  obtain ⟨q0, q1, q2, q3, q4, q5⟩ := hT6.cells
  have g5 := hT6.frz 5
  obtain ⟨r0, r1, r2, r3, r4, r5⟩ := hR6.cells
  have z0 := hR6.frz 0
  have y1 := hR6.frz 1
  have y2 := hR6.frz 2
  have z3 := hR6.frz 3
  have z4 := hR6.frz 4
  have z5 := hR6.frz 5
  have HT6 := Lib.hid hT6
  have HR6 := Lib.hid hR6
  clear hT6 hR6
  go_wp2
  have X0 := Tb.other HR6.out (w.heap.size + 1 + 1) 5 (.bool false) (by omega)
  have X6 := (((((X0.set 0 (.int .i64 0)).set 1 (.int .i64 0)).set 2 (.int .i64 0)).set 3 (.string ⟨#[]⟩)).set 4 (.bool false)).set 5 (.bool false)
  refine bodyPost_ret (results_cell_row rfl _ _ (w.heap.size + 1) 37 _ (0, 0) _ rfl X6 Try.underlying37 rfl (by kernel_rfl)) rfl ?_
  exact ⟨rfl, bl_set (bl_set (bl_set (bl_set (bl_set (bl_set (bl_set HG6.out z2.out) z1.out) z1.out) z1.out) z1.out) z1.out) z1.out⟩

set_option maxHeartbeats 1600000 in
theorem off_7 (v : Value) (y : Int) (t : ByteArray) (w : World) (h : Off w v) (hy : pk y = 7) :
    Calls Try.prog 16 #[v, .agg #[.int .i64 y, .string t]] w (OP w) := by
  have HOF := Lib.hid h
  have HBL := Lib.hid (bl_three w (.cells #[.int .i64 y, .string t] 33) (.cells (tvl 0 0 0 ⟨#[]⟩ false false) 37) (.cells (tvl 0 0 0 ⟨#[]⟩ false false) 37))
  have HP : Hid (∀ W, Calls Try.prog 14 #[.int .i64 y, .int .i64 8] W fun e w' => e = .returned (.int .i64 7) ∧ w' = W) := fun W => by
    have := pick8 y W
    rw [hy] at this; exact this
  have HT3 := Lib.hid (tb_three w (.cells #[.int .i64 y, .string t] 33) (tvl 0 0 0 ⟨#[]⟩ false false) (tvl 0 0 0 ⟨#[]⟩ false false))
  have z1 : Hid (w.heap.size ≤ w.heap.size + 1) := by show _ ≤ _; omega
  have z2 : Hid (w.heap.size ≤ w.heap.size + 1 + 1) := by show _ ≤ _; omega
  clear h hy
  go_enter Try.func16, Try.ntmps16
  go_wp2_with fail
  refine (HP.out _).mono ?_
  rintro e w' ⟨rfl, rfl⟩
  go_wp2_with fail
  refine (At_off v _ (HOF.out _ HBL.out)).mono ?_
  rintro e w5 ⟨rfl, hw5⟩
  have hT5 : Tb w5 (w.heap.size + 1 + 1) told0 := by rw [hw5]; exact HT3.out.1
  have hR5 : Tb w5 (w.heap.size + 1) told0 := by rw [hw5]; exact HT3.out.2
  have HG5 : Hid (Below w.heap.size w w5) := by rw [hw5]; exact HBL.out
  clear hw5 HT3 HBL
  obtain ⟨q0, q1, q2, q3, q4, q5⟩ := hT5.cells
  have g2 := hT5.frz 2
  have HT5 := Lib.hid hT5
  have HR5 := Lib.hid hR5
  clear hT5 hR5
  go_wp2_with fail
  refine (Done_off v _ (HOF.out _ (bl_set HG5.out z2.out))).mono ?_
  rintro e w6 ⟨rfl, hw6⟩
  have hT6 : Tb w6 (w.heap.size + 1 + 1) told0 := by rw [hw6]; exact Tb.set HT5.out 2 _
  have hR6 : Tb w6 (w.heap.size + 1) told0 := by rw [hw6]; exact Tb.other HR5.out (w.heap.size + 1 + 1) 2 _ (by omega)
  have HG6 : Hid (Below w.heap.size w w6) := by rw [hw6]; exact bl_set HG5.out z2.out
  clear hw6 HT5 HR5 HG5 q0 q1 q2 q3 q4 q5 g2
  obtain ⟨q0, q1, q2, q3, q4, q5⟩ := hT6.cells
  have g5 := hT6.frz 5
  obtain ⟨r0, r1, r2, r3, r4, r5⟩ := hR6.cells
  have z0 := hR6.frz 0
  have y1 := hR6.frz 1
  have y2 := hR6.frz 2
  have z3 := hR6.frz 3
  have z4 := hR6.frz 4
  have z5 := hR6.frz 5
  have HT6 := Lib.hid hT6
  have HR6 := Lib.hid hR6
  clear hT6 hR6
  go_wp2
  have X0 := Tb.other HR6.out (w.heap.size + 1 + 1) 5 (.bool false) (by omega)
  have X6 := (((((X0.set 0 (.int .i64 0)).set 1 (.int .i64 0)).set 2 (.int .i64 0)).set 3 (.string ⟨#[]⟩)).set 4 (.bool false)).set 5 (.bool false)
  refine bodyPost_ret (results_cell_row rfl _ _ (w.heap.size + 1) 37 _ (0, 0) _ rfl X6 Try.underlying37 rfl (by kernel_rfl)) rfl ?_
  exact ⟨rfl, bl_set (bl_set (bl_set (bl_set (bl_set (bl_set (bl_set HG6.out z2.out) z1.out) z1.out) z1.out) z1.out) z1.out) z1.out⟩

theorem off_any (v : Value) (y : Int) (t : ByteArray) (w : World) (h : Off w v) : Calls Try.prog 16 #[v, .agg #[.int .i64 y, .string t]] w (OP w) := by
  have hl := pk_lt y
  have hc : pk y = 0 ∨ pk y = 1 ∨ pk y = 2 ∨ pk y = 3 ∨ pk y = 4 ∨ pk y = 5 ∨ pk y = 6 ∨ pk y = 7 := by omega
  rcases hc with e | e | e | e | e | e | e | e
  · exact off_0 v y t w h e
  · exact off_1 v y t w h e
  · exact off_2 v y t w h e
  · exact off_3 v y t w h e
  · exact off_4 v y t w h e
  · exact off_5 v y t w h e
  · exact off_6 v y t w h e
  · exact off_7 v y t w h e
end Go.Proofs.Ytkpkhjflelmdjaa
