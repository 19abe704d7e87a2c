/- What an ask tells, of a scan: the walk of tells. -/
import Derived.Test.YtkpkhjflelmdjaaYo
namespace Go.Proofs.Ytkpkhjflelmdjaa
open Go.RowKit Tnd

theorem tmod_range (x n : Int) (h : 0 < n) : -n < Int.tmod x n ∧ Int.tmod x n < n := by
  have h1 := Int.tmod_lt_of_pos x h
  refine ⟨?_, h1⟩
  have h2 := Int.tmod_lt_of_pos (-x) h
  rw [Int.neg_tmod] at h2
  omega
/-- what is picked of eight. -/
def pk (x : Int) : Nat := (if Int.tmod x 8 < 0 then Int.tmod x 8 + 8 else Int.tmod x 8).toNat
theorem pk_lt (x : Int) : pk x < 8 := by
  have := tmod_range x 8 (by omega)
  unfold pk
  split <;> omega
set_option maxHeartbeats 800000 in
set_option maxRecDepth 100000 in
theorem pick8 (x : Int) (w : World) :
    Calls Try.prog 14 #[.int .i64 x, .int .i64 8] w fun e w' => e = .returned (.int .i64 (pk x : Nat)) ∧ w' = w := by
  obtain ⟨h1, h2⟩ := tmod_range x 8 (by omega)
  unfold pk
  obtain ⟨y, hy⟩ : ∃ y, y = Int.tmod x 8 := ⟨_, rfl⟩
  rw [← hy] at h1 h2 ⊢
  have hw : Int.tmod x 8 = y := hy.symm
  clear hy
  by_cases h : y < 0
  · rw [if_pos h]
    have HE : Hid ((((y + 8).toNat : Nat) : Int) = y + 8) := by show _ = _; omega
    go_enter Try.func14, Try.ntmps14
    go_wp2
    go_ret
    refine ⟨?_, rfl⟩
    rw [HE.out]; rfl
  · rw [if_neg h]
    have h' : 0 ≤ y := by omega
    have HE : Hid (((y.toNat : Nat) : Int) = y) := by show _ = _; omega
    go_enter Try.func14, Try.ntmps14
    go_wp2
    go_ret
    exact ⟨ret_int (by omega), rfl⟩

/-- what was told, as a value. -/
def tvl (n m a : Int) (s : ByteArray) (o d : Bool) : Array Value := #[.int .i64 n, .int .i64 m, .int .i64 a, .string s, .bool o, .bool d]
/-- a block that holds what was told. -/
def Tb (w : World) (nb : Nat) (cs : Array Value) : Prop := w.heap[nb]? = some (.cells cs 37 (0, 0))
theorem Tb.cells {w : World} {nb : Nat} {n m a : Int} {s : ByteArray} {o d : Bool} (h : Tb w nb (tvl n m a s o d)) :
    w.cell? ⟨nb, 0, none⟩ = some (.int .i64 n) ∧ w.cell? ⟨nb, 1, none⟩ = some (.int .i64 m) ∧ w.cell? ⟨nb, 2, none⟩ = some (.int .i64 a) ∧ w.cell? ⟨nb, 3, none⟩ = some (.string s) ∧ w.cell? ⟨nb, 4, none⟩ = some (.bool o) ∧ w.cell? ⟨nb, 5, none⟩ = some (.bool d) := by
  unfold Tb tvl at h
  refine ⟨?_, ?_, ?_, ?_, ?_, ?_⟩ <;> simp [World.cell?, h]
theorem Tb.frz {w : World} {nb : Nat} {cs : Array Value} (h : Tb w nb cs) (i : Nat) : w.frozen? ⟨nb, i, none⟩ = false := by
  unfold Tb at h; simp [World.frozen?, h]
theorem Tb.set {w : World} {nb : Nat} {cs : Array Value} (h : Tb w nb cs) (i : Nat) (x : Value) : Tb (w.setCell ⟨nb, i, none⟩ x) nb (cs.set! i x) := heap_setCell_at h i x
theorem Tb.other {w : World} {nb : Nat} {cs : Array Value} (h : Tb w nb cs) (b2 i : Nat) (x : Value) (hne : b2 ≠ nb) : Tb (w.setCell ⟨b2, i, none⟩ x) nb cs := by
  have := (grown_set w ⟨b2, i, none⟩ x).block nb (lt_of_block h) (fun e => hne (by cases e; rfl))
  show _ = _
  rw [this]; exact h
theorem Tb.kept {w w' : World} {nb b : Nat} {cs : Array Value} (h : Tb w nb cs) (hg : w.grownBy w' (some b)) (hne : b ≠ nb) : Tb w' nb cs := by
  show _ = _
  rw [hg.block nb (lt_of_block h) (fun e => hne (by cases e; rfl))]; exact h
/-- a scan is not what is written. -/
theorem Sc.tb {w : World} {B b nb : Nat} {l : List Int} {k : Nat} {cs : Array Value} (h : Sc w B b l k) (ht : Tb w nb cs) (i : Nat) (x : Value) : Sc (w.setCell ⟨nb, i, none⟩ x) B b l k := by
  refine Cu.kept h (grown_set w ⟨nb, i, none⟩ x) (fun b2 e => ?_)
  cases e
  refine ⟨?_, fun _ => ⟨_, _, _, ht, by decide⟩⟩
  rintro rfl
  obtain ⟨p, c, h1, _⟩ := h
  unfold Tb at ht
  rw [h1] at ht
  simp only [Option.some.injEq, Obj.cells.injEq] at ht
  exact absurd ht.2.1 (by decide)

theorem bl_three (w : World) (x y z : Obj) : Below w.heap.size w (((w.alloc x).alloc y).alloc z) := bl_trans (bl_trans (bl_alloc w x) (bl_alloc _ y)) (bl_alloc _ z)
theorem tb_three (w : World) (x : Obj) (cs ds : Array Value) : Tb (((w.alloc x).alloc (.cells cs 37)).alloc (.cells ds 37)) (w.heap.size + 1 + 1) ds ∧ Tb (((w.alloc x).alloc (.cells cs 37)).alloc (.cells ds 37)) (w.heap.size + 1) cs := by
  constructor
  · show _ = _
    have := heap_alloc_new ((w.alloc x).alloc (.cells cs 37)) (.cells ds 37)
    simpa using this
  · show _ = _
    rw [heap_alloc_old _ _ (by simp)]
    have := heap_alloc_new (w.alloc x) (.cells cs 37)
    simpa using this
/-- what an ask leaves: what it tells, the scan at its place. -/
def TP (w : World) (B b : Nat) (l : List Int) (n m : Int) (s : ByteArray) (o : Bool) (k' : Nat) (e : Ending) (w' : World) : Prop :=
  e = .returned (.agg (tvl n m (k' : Nat) s o (decide (k' = l.length)))) ∧ Sc w' B b l k' ∧ w.grownBy w' (some b)


set_option maxHeartbeats 1600000 in
theorem tells_0 (B b : Nat) (l : List Int) (k : Nat) (y : Int) (t : ByteArray) (x : Int) (o : Bool) (k' : Nat) (w : World) (h : Sc w B b l k) (hy : pk y = 0)
    (H : ∀ W, Sc W B b l k → Calls Try.prog 22 #[.pointer (some ⟨b, 0, none⟩)] W (CP W B b 48 [.pointer (some ⟨b, 0, none⟩)] l (.tuple #[.int .i64 x, .bool o]) k')) :
    Calls Try.prog 16 #[.pointer (some ⟨b, 0, none⟩), .agg #[.int .i64 y, .string t]] w (TP w B b l x 0 ⟨#[]⟩ o k') := by
  have HH := Lib.hid H
  clear H
  have HB : Hid (b < w.heap.size) := h.lt
  have HBL := Lib.hid (bl_three w (.cells #[.int .i64 y, .string t] 33) (.cells (tvl 0 0 0 ⟨#[]⟩ false false) 37) (.cells (tvl 0 0 0 ⟨#[]⟩ false false) 37))
  have HS : Hid (Sc (((w.alloc (.cells #[.int .i64 y, .string t] 33)).alloc (.cells (tvl 0 0 0 ⟨#[]⟩ false false) 37)).alloc (.cells (tvl 0 0 0 ⟨#[]⟩ false false) 37)) B b l k) := Cu.below h HBL.out
  have HP : Hid (∀ W, Calls Try.prog 14 #[.int .i64 y, .int .i64 8] W fun e w' => e = .returned (.int .i64 0) ∧ w' = W) := fun W => by
    have := pick8 y W
    rw [hy] at this; exact this
  have HT3 := Lib.hid (tb_three w (.cells #[.int .i64 y, .string t] 33) (tvl 0 0 0 ⟨#[]⟩ false false) (tvl 0 0 0 ⟨#[]⟩ false false))
  have hne : Hid (b ≠ w.heap.size + 1 + 1) := by have := HB.out; show _ ≠ _; omega
  have hne1 : Hid (b ≠ w.heap.size + 1) := by have := HB.out; show _ ≠ _; omega
  clear h hy
  go_enter Try.func16, Try.ntmps16
  go_wp2_with fail
  refine (HP.out _).mono ?_
  rintro e w' ⟨rfl, rfl⟩
  go_wp2_with fail
  refine (HH.out _ HS.out).mono ?_
  rintro e w4 ⟨rfl, hc4, hg4⟩
  have hT4 : Tb w4 (w.heap.size + 1 + 1) (tvl 0 0 0 ⟨#[]⟩ false false) := HT3.out.1.kept hg4 hne.out
  have hR4 : Tb w4 (w.heap.size + 1) (tvl 0 0 0 ⟨#[]⟩ false false) := HT3.out.2.kept hg4 hne1.out
  have HG4 : Hid (w.grownBy w4 (some b)) := (below_grown HBL.out _).trans hg4
  clear HT3 HS HBL
  obtain ⟨q0, q1, q2, q3, q4, q5⟩ := hT4.cells
  have f0 := hT4.frz 0
  have f4 := hT4.frz 4
  have HC4 := Lib.hid hc4
  have HT4 := Lib.hid hT4
  have HR4 := Lib.hid hR4
  clear hc4 hg4 hT4 hR4
  go_wp2_with fail
  refine (At_scan B b l k' _ (Sc.tb (Sc.tb HC4.out HT4.out 0 _) (Tb.set HT4.out 0 _) 4 _)).mono ?_
  rintro e w5 ⟨rfl, hw5⟩
  have hC5 : Sc w5 B b l k' := by rw [hw5]; exact (Sc.tb (Sc.tb HC4.out HT4.out 0 _) (Tb.set HT4.out 0 _) 4 _)
  have hT5 : Tb w5 (w.heap.size + 1 + 1) (tvl x 0 0 ⟨#[]⟩ o false) := by rw [hw5]; exact (Tb.set (Tb.set HT4.out 0 _) 4 _)
  have hR5 : Tb w5 (w.heap.size + 1) (tvl 0 0 0 ⟨#[]⟩ false false) := by rw [hw5]; exact (Tb.other (Tb.other HR4.out (w.heap.size + 1 + 1) 0 _ (by omega)) (w.heap.size + 1 + 1) 4 _ (by omega))
  have HG5 : Hid (w.grownBy w5 (some b)) := by rw [hw5]; exact (grown_new (grown_new HG4.out (grown_set _ ⟨w.heap.size + 1 + 1, 0, none⟩ _) (show w.heap.size ≤ w.heap.size + 1 + 1 by omega)) (grown_set _ ⟨w.heap.size + 1 + 1, 4, none⟩ _) (show w.heap.size ≤ w.heap.size + 1 + 1 by omega))
  clear hw5 HG4 q0 q1 q2 q3 q4 q5 HC4 HT4 HR4
  obtain ⟨q0, q1, q2, q3, q4, q5⟩ := hT5.cells
  have g2 := hT5.frz 2
  have HC5 := Lib.hid hC5
  have HT5 := Lib.hid hT5
  have HR5 := Lib.hid hR5
  clear hC5 hT5 hR5
  go_wp2_with fail
  refine (Done_scan B b l k' (decide (k' = l.length)) k' _ (Sc.tb HC5.out HT5.out 2 _) ((done_any B b _ _ l k' _ (Sc.tb HC5.out HT5.out 2 _)).mono ?_)).mono ?_
  · rintro e w6 ⟨rfl, n, rfl⟩
    exact ⟨rfl, (Sc.tb HC5.out HT5.out 2 _).drewN n, grown_drewN _ n _⟩
  rintro e w6 ⟨rfl, hC6, hg6⟩
  have hT6 : Tb w6 (w.heap.size + 1 + 1) ((tvl x 0 0 ⟨#[]⟩ o false).set! 2 (.int .i64 (k' : Nat))) := (Tb.set HT5.out 2 _).kept hg6 hne.out
  have hR6 : Tb w6 (w.heap.size + 1) (tvl 0 0 0 ⟨#[]⟩ false false) := (Tb.other HR5.out (w.heap.size + 1 + 1) 2 _ (by omega)).kept hg6 hne1.out
  have HG6 : Hid (w.grownBy w6 (some b)) := (grown_new HG5.out (grown_set _ ⟨w.heap.size + 1 + 1, 2, none⟩ _) (show w.heap.size ≤ w.heap.size + 1 + 1 by omega)).trans hg6
  clear hg6 HC5 HT5 HR5 HG5 q0 q1 q2 q3 q4 q5 g2
  generalize hD : decide (k' = l.length) = D
  have HD := Lib.hid hD
  clear hD
  obtain ⟨q0, q1, q2, q3, q4, q5⟩ := (show Tb w6 (w.heap.size + 1 + 1) (tvl x 0 (k' : Nat) ⟨#[]⟩ o false) from hT6).cells
  have g5 := hT6.frz 5
  obtain ⟨r0, r1, r2, r3, r4, r5⟩ := hR6.cells
  have z0 := hR6.frz 0
  have z1 := hR6.frz 1
  have z2 := hR6.frz 2
  have z3 := hR6.frz 3
  have z4 := hR6.frz 4
  have z5 := hR6.frz 5
  have HC6 := Lib.hid hC6
  have HT6 := Lib.hid hT6
  have HR6 := Lib.hid hR6
  clear hC6 hT6 hR6
  go_wp2
  have X0 := Tb.other HR6.out (w.heap.size + 1 + 1) 5 (.bool D) (by omega)
  have X6 := (((((X0.set 0 (.int .i64 x)).set 1 (.int .i64 0)).set 2 (.int .i64 (k' : Nat))).set 3 (.string ⟨#[]⟩)).set 4 (.bool o)).set 5 (.bool D)
  refine bodyPost_ret (results_cell_row rfl _ _ (w.heap.size + 1) 37 _ (0, 0) _ rfl X6 Try.underlying37 rfl (by kernel_rfl)) rfl ?_
  refine ⟨by rw [HD.out]; rfl, ?_, ?_⟩
  · have Y0 := Sc.tb HC6.out HT6.out 5 (.bool D)
    exact (((((Y0.tb X0 0 _).tb (X0.set 0 _) 1 _).tb ((X0.set 0 _).set 1 _) 2 _).tb (((X0.set 0 _).set 1 _).set 2 _) 3 _).tb ((((X0.set 0 _).set 1 _).set 2 _).set 3 _) 4 _).tb (((((X0.set 0 _).set 1 _).set 2 _).set 3 _).set 4 _) 5 _
  · have z1 : w.heap.size ≤ w.heap.size + 1 := by omega
    have z2 : w.heap.size ≤ w.heap.size + 1 + 1 := by omega
    exact grown_new (grown_new (grown_new (grown_new (grown_new (grown_new (grown_new HG6.out (grown_set _ ⟨w.heap.size + 1 + 1, 5, none⟩ _) z2) (grown_set _ ⟨w.heap.size + 1, 0, none⟩ _) z1) (grown_set _ ⟨w.heap.size + 1, 1, none⟩ _) z1) (grown_set _ ⟨w.heap.size + 1, 2, none⟩ _) z1) (grown_set _ ⟨w.heap.size + 1, 3, none⟩ _) z1) (grown_set _ ⟨w.heap.size + 1, 4, none⟩ _) z1) (grown_set _ ⟨w.heap.size + 1, 5, none⟩ _) z1

set_option maxHeartbeats 1600000 in
theorem tells_1 (B b : Nat) (l : List Int) (k : Nat) (y : Int) (t : ByteArray) (o : Bool) (k' : Nat) (w : World) (h : Sc w B b l k) (hy : pk y = 1)
    (H : ∀ W, Sc W B b l k → Calls Try.prog 30 #[.pointer (some ⟨b, 0, none⟩), .string t] W (CP W B b 48 [.pointer (some ⟨b, 0, none⟩)] l (.bool o) k')) :
    Calls Try.prog 16 #[.pointer (some ⟨b, 0, none⟩), .agg #[.int .i64 y, .string t]] w (TP w B b l 0 0 ⟨#[]⟩ o k') := by
  have HH := Lib.hid H
  clear H
  have HB : Hid (b < w.heap.size) := h.lt
  have HBL := Lib.hid (bl_three w (.cells #[.int .i64 y, .string t] 33) (.cells (tvl 0 0 0 ⟨#[]⟩ false false) 37) (.cells (tvl 0 0 0 ⟨#[]⟩ false false) 37))
  have HS : Hid (Sc (((w.alloc (.cells #[.int .i64 y, .string t] 33)).alloc (.cells (tvl 0 0 0 ⟨#[]⟩ false false) 37)).alloc (.cells (tvl 0 0 0 ⟨#[]⟩ false false) 37)) B b l k) := Cu.below h HBL.out
  have HP : Hid (∀ W, Calls Try.prog 14 #[.int .i64 y, .int .i64 8] W fun e w' => e = .returned (.int .i64 1) ∧ w' = W) := fun W => by
    have := pick8 y W
    rw [hy] at this; exact this
  have HT3 := Lib.hid (tb_three w (.cells #[.int .i64 y, .string t] 33) (tvl 0 0 0 ⟨#[]⟩ false false) (tvl 0 0 0 ⟨#[]⟩ false false))
  have hne : Hid (b ≠ w.heap.size + 1 + 1) := by have := HB.out; show _ ≠ _; omega
  have hne1 : Hid (b ≠ w.heap.size + 1) := by have := HB.out; show _ ≠ _; omega
  clear h hy
  go_enter Try.func16, Try.ntmps16
  go_wp2_with fail
  refine (HP.out _).mono ?_
  rintro e w' ⟨rfl, rfl⟩
  go_wp2_with fail
  refine (HH.out _ HS.out).mono ?_
  rintro e w4 ⟨rfl, hc4, hg4⟩
  have hT4 : Tb w4 (w.heap.size + 1 + 1) (tvl 0 0 0 ⟨#[]⟩ false false) := HT3.out.1.kept hg4 hne.out
  have hR4 : Tb w4 (w.heap.size + 1) (tvl 0 0 0 ⟨#[]⟩ false false) := HT3.out.2.kept hg4 hne1.out
  have HG4 : Hid (w.grownBy w4 (some b)) := (below_grown HBL.out _).trans hg4
  clear HT3 HS HBL
  obtain ⟨q0, q1, q2, q3, q4, q5⟩ := hT4.cells
  have f4 := hT4.frz 4
  have HC4 := Lib.hid hc4
  have HT4 := Lib.hid hT4
  have HR4 := Lib.hid hR4
  clear hc4 hg4 hT4 hR4
  go_wp2_with fail
  refine (At_scan B b l k' _ (Sc.tb HC4.out HT4.out 4 _)).mono ?_
  rintro e w5 ⟨rfl, hw5⟩
  have hC5 : Sc w5 B b l k' := by rw [hw5]; exact (Sc.tb HC4.out HT4.out 4 _)
  have hT5 : Tb w5 (w.heap.size + 1 + 1) (tvl 0 0 0 ⟨#[]⟩ o false) := by rw [hw5]; exact (Tb.set HT4.out 4 _)
  have hR5 : Tb w5 (w.heap.size + 1) (tvl 0 0 0 ⟨#[]⟩ false false) := by rw [hw5]; exact (Tb.other HR4.out (w.heap.size + 1 + 1) 4 _ (by omega))
  have HG5 : Hid (w.grownBy w5 (some b)) := by rw [hw5]; exact (grown_new HG4.out (grown_set _ ⟨w.heap.size + 1 + 1, 4, none⟩ _) (show w.heap.size ≤ w.heap.size + 1 + 1 by omega))
  clear hw5 HG4 q0 q1 q2 q3 q4 q5 HC4 HT4 HR4
  obtain ⟨q0, q1, q2, q3, q4, q5⟩ := hT5.cells
  have g2 := hT5.frz 2
  have HC5 := Lib.hid hC5
  have HT5 := Lib.hid hT5
  have HR5 := Lib.hid hR5
  clear hC5 hT5 hR5
  go_wp2_with fail
  refine (Done_scan B b l k' (decide (k' = l.length)) k' _ (Sc.tb HC5.out HT5.out 2 _) ((done_any B b _ _ l k' _ (Sc.tb HC5.out HT5.out 2 _)).mono ?_)).mono ?_
  · rintro e w6 ⟨rfl, n, rfl⟩
    exact ⟨rfl, (Sc.tb HC5.out HT5.out 2 _).drewN n, grown_drewN _ n _⟩
  rintro e w6 ⟨rfl, hC6, hg6⟩
  have hT6 : Tb w6 (w.heap.size + 1 + 1) ((tvl 0 0 0 ⟨#[]⟩ o false).set! 2 (.int .i64 (k' : Nat))) := (Tb.set HT5.out 2 _).kept hg6 hne.out
  have hR6 : Tb w6 (w.heap.size + 1) (tvl 0 0 0 ⟨#[]⟩ false false) := (Tb.other HR5.out (w.heap.size + 1 + 1) 2 _ (by omega)).kept hg6 hne1.out
  have HG6 : Hid (w.grownBy w6 (some b)) := (grown_new HG5.out (grown_set _ ⟨w.heap.size + 1 + 1, 2, none⟩ _) (show w.heap.size ≤ w.heap.size + 1 + 1 by omega)).trans hg6
  clear hg6 HC5 HT5 HR5 HG5 q0 q1 q2 q3 q4 q5 g2
  generalize hD : decide (k' = l.length) = D
  have HD := Lib.hid hD
  clear hD
  obtain ⟨q0, q1, q2, q3, q4, q5⟩ := (show Tb w6 (w.heap.size + 1 + 1) (tvl 0 0 (k' : Nat) ⟨#[]⟩ o false) from hT6).cells
  have g5 := hT6.frz 5
  obtain ⟨r0, r1, r2, r3, r4, r5⟩ := hR6.cells
  have z0 := hR6.frz 0
  have z1 := hR6.frz 1
  have z2 := hR6.frz 2
  have z3 := hR6.frz 3
  have z4 := hR6.frz 4
  have z5 := hR6.frz 5
  have HC6 := Lib.hid hC6
  have HT6 := Lib.hid hT6
  have HR6 := Lib.hid hR6
  clear hC6 hT6 hR6
  go_wp2
  have X0 := Tb.other HR6.out (w.heap.size + 1 + 1) 5 (.bool D) (by omega)
  have X6 := (((((X0.set 0 (.int .i64 0)).set 1 (.int .i64 0)).set 2 (.int .i64 (k' : Nat))).set 3 (.string ⟨#[]⟩)).set 4 (.bool o)).set 5 (.bool D)
  refine bodyPost_ret (results_cell_row rfl _ _ (w.heap.size + 1) 37 _ (0, 0) _ rfl X6 Try.underlying37 rfl (by kernel_rfl)) rfl ?_
  refine ⟨by rw [HD.out]; rfl, ?_, ?_⟩
  · have Y0 := Sc.tb HC6.out HT6.out 5 (.bool D)
    exact (((((Y0.tb X0 0 _).tb (X0.set 0 _) 1 _).tb ((X0.set 0 _).set 1 _) 2 _).tb (((X0.set 0 _).set 1 _).set 2 _) 3 _).tb ((((X0.set 0 _).set 1 _).set 2 _).set 3 _) 4 _).tb (((((X0.set 0 _).set 1 _).set 2 _).set 3 _).set 4 _) 5 _
  · have z1 : w.heap.size ≤ w.heap.size + 1 := by omega
    have z2 : w.heap.size ≤ w.heap.size + 1 + 1 := by omega
    exact grown_new (grown_new (grown_new (grown_new (grown_new (grown_new (grown_new HG6.out (grown_set _ ⟨w.heap.size + 1 + 1, 5, none⟩ _) z2) (grown_set _ ⟨w.heap.size + 1, 0, none⟩ _) z1) (grown_set _ ⟨w.heap.size + 1, 1, none⟩ _) z1) (grown_set _ ⟨w.heap.size + 1, 2, none⟩ _) z1) (grown_set _ ⟨w.heap.size + 1, 3, none⟩ _) z1) (grown_set _ ⟨w.heap.size + 1, 4, none⟩ _) z1) (grown_set _ ⟨w.heap.size + 1, 5, none⟩ _) z1

set_option maxHeartbeats 1600000 in
theorem tells_2 (B b : Nat) (l : List Int) (k : Nat) (y : Int) (t : ByteArray) (x : Int) (o : Bool) (k' : Nat) (w : World) (h : Sc w B b l k) (hy : pk y = 2)
    (H : ∀ W, Sc W B b l k → Calls Try.prog 31 #[.pointer (some ⟨b, 0, none⟩), .string t] W (CP W B b 48 [.pointer (some ⟨b, 0, none⟩)] l (.tuple #[.int .i64 x, .bool o]) k')) :
    Calls Try.prog 16 #[.pointer (some ⟨b, 0, none⟩), .agg #[.int .i64 y, .string t]] w (TP w B b l x 0 ⟨#[]⟩ o k') := by
  have HH := Lib.hid H
  clear H
  have HB : Hid (b < w.heap.size) := h.lt
  have HBL := Lib.hid (bl_three w (.cells #[.int .i64 y, .string t] 33) (.cells (tvl 0 0 0 ⟨#[]⟩ false false) 37) (.cells (tvl 0 0 0 ⟨#[]⟩ false false) 37))
  have HS : Hid (Sc (((w.alloc (.cells #[.int .i64 y, .string t] 33)).alloc (.cells (tvl 0 0 0 ⟨#[]⟩ false false) 37)).alloc (.cells (tvl 0 0 0 ⟨#[]⟩ false false) 37)) B b l k) := Cu.below h HBL.out
  have HP : Hid (∀ W, Calls Try.prog 14 #[.int .i64 y, .int .i64 8] W fun e w' => e = .returned (.int .i64 2) ∧ w' = W) := fun W => by
    have := pick8 y W
    rw [hy] at this; exact this
  have HT3 := Lib.hid (tb_three w (.cells #[.int .i64 y, .string t] 33) (tvl 0 0 0 ⟨#[]⟩ false false) (tvl 0 0 0 ⟨#[]⟩ false false))
  have hne : Hid (b ≠ w.heap.size + 1 + 1) := by have := HB.out; show _ ≠ _; omega
  have hne1 : Hid (b ≠ w.heap.size + 1) := by have := HB.out; show _ ≠ _; omega
  clear h hy
  go_enter Try.func16, Try.ntmps16
  go_wp2_with fail
  refine (HP.out _).mono ?_
  rintro e w' ⟨rfl, rfl⟩
  go_wp2_with fail
  refine (HH.out _ HS.out).mono ?_
  rintro e w4 ⟨rfl, hc4, hg4⟩
  have hT4 : Tb w4 (w.heap.size + 1 + 1) (tvl 0 0 0 ⟨#[]⟩ false false) := HT3.out.1.kept hg4 hne.out
  have hR4 : Tb w4 (w.heap.size + 1) (tvl 0 0 0 ⟨#[]⟩ false false) := HT3.out.2.kept hg4 hne1.out
  have HG4 : Hid (w.grownBy w4 (some b)) := (below_grown HBL.out _).trans hg4
  clear HT3 HS HBL
  obtain ⟨q0, q1, q2, q3, q4, q5⟩ := hT4.cells
  have f0 := hT4.frz 0
  have f4 := hT4.frz 4
  have HC4 := Lib.hid hc4
  have HT4 := Lib.hid hT4
  have HR4 := Lib.hid hR4
  clear hc4 hg4 hT4 hR4
  go_wp2_with fail
  refine (At_scan B b l k' _ (Sc.tb (Sc.tb HC4.out HT4.out 0 _) (Tb.set HT4.out 0 _) 4 _)).mono ?_
  rintro e w5 ⟨rfl, hw5⟩
  have hC5 : Sc w5 B b l k' := by rw [hw5]; exact (Sc.tb (Sc.tb HC4.out HT4.out 0 _) (Tb.set HT4.out 0 _) 4 _)
  have hT5 : Tb w5 (w.heap.size + 1 + 1) (tvl x 0 0 ⟨#[]⟩ o false) := by rw [hw5]; exact (Tb.set (Tb.set HT4.out 0 _) 4 _)
  have hR5 : Tb w5 (w.heap.size + 1) (tvl 0 0 0 ⟨#[]⟩ false false) := by rw [hw5]; exact (Tb.other (Tb.other HR4.out (w.heap.size + 1 + 1) 0 _ (by omega)) (w.heap.size + 1 + 1) 4 _ (by omega))
  have HG5 : Hid (w.grownBy w5 (some b)) := by rw [hw5]; exact (grown_new (grown_new HG4.out (grown_set _ ⟨w.heap.size + 1 + 1, 0, none⟩ _) (show w.heap.size ≤ w.heap.size + 1 + 1 by omega)) (grown_set _ ⟨w.heap.size + 1 + 1, 4, none⟩ _) (show w.heap.size ≤ w.heap.size + 1 + 1 by omega))
  clear hw5 HG4 q0 q1 q2 q3 q4 q5 HC4 HT4 HR4
  obtain ⟨q0, q1, q2, q3, q4, q5⟩ := hT5.cells
  have g2 := hT5.frz 2
  have HC5 := Lib.hid hC5
  have HT5 := Lib.hid hT5
  have HR5 := Lib.hid hR5
  clear hC5 hT5 hR5
  go_wp2_with fail
  refine (Done_scan B b l k' (decide (k' = l.length)) k' _ (Sc.tb HC5.out HT5.out 2 _) ((done_any B b _ _ l k' _ (Sc.tb HC5.out HT5.out 2 _)).mono ?_)).mono ?_
  · rintro e w6 ⟨rfl, n, rfl⟩
    exact ⟨rfl, (Sc.tb HC5.out HT5.out 2 _).drewN n, grown_drewN _ n _⟩
  rintro e w6 ⟨rfl, hC6, hg6⟩
  have hT6 : Tb w6 (w.heap.size + 1 + 1) ((tvl x 0 0 ⟨#[]⟩ o false).set! 2 (.int .i64 (k' : Nat))) := (Tb.set HT5.out 2 _).kept hg6 hne.out
  have hR6 : Tb w6 (w.heap.size + 1) (tvl 0 0 0 ⟨#[]⟩ false false) := (Tb.other HR5.out (w.heap.size + 1 + 1) 2 _ (by omega)).kept hg6 hne1.out
  have HG6 : Hid (w.grownBy w6 (some b)) := (grown_new HG5.out (grown_set _ ⟨w.heap.size + 1 + 1, 2, none⟩ _) (show w.heap.size ≤ w.heap.size + 1 + 1 by omega)).trans hg6
  clear hg6 HC5 HT5 HR5 HG5 q0 q1 q2 q3 q4 q5 g2
  generalize hD : decide (k' = l.length) = D
  have HD := Lib.hid hD
  clear hD
  obtain ⟨q0, q1, q2, q3, q4, q5⟩ := (show Tb w6 (w.heap.size + 1 + 1) (tvl x 0 (k' : Nat) ⟨#[]⟩ o false) from hT6).cells
  have g5 := hT6.frz 5
  obtain ⟨r0, r1, r2, r3, r4, r5⟩ := hR6.cells
  have z0 := hR6.frz 0
  have z1 := hR6.frz 1
  have z2 := hR6.frz 2
  have z3 := hR6.frz 3
  have z4 := hR6.frz 4
  have z5 := hR6.frz 5
  have HC6 := Lib.hid hC6
  have HT6 := Lib.hid hT6
  have HR6 := Lib.hid hR6
  clear hC6 hT6 hR6
  go_wp2
  have X0 := Tb.other HR6.out (w.heap.size + 1 + 1) 5 (.bool D) (by omega)
  have X6 := (((((X0.set 0 (.int .i64 x)).set 1 (.int .i64 0)).set 2 (.int .i64 (k' : Nat))).set 3 (.string ⟨#[]⟩)).set 4 (.bool o)).set 5 (.bool D)
  refine bodyPost_ret (results_cell_row rfl _ _ (w.heap.size + 1) 37 _ (0, 0) _ rfl X6 Try.underlying37 rfl (by kernel_rfl)) rfl ?_
  refine ⟨by rw [HD.out]; rfl, ?_, ?_⟩
  · have Y0 := Sc.tb HC6.out HT6.out 5 (.bool D)
    exact (((((Y0.tb X0 0 _).tb (X0.set 0 _) 1 _).tb ((X0.set 0 _).set 1 _) 2 _).tb (((X0.set 0 _).set 1 _).set 2 _) 3 _).tb ((((X0.set 0 _).set 1 _).set 2 _).set 3 _) 4 _).tb (((((X0.set 0 _).set 1 _).set 2 _).set 3 _).set 4 _) 5 _
  · have z1 : w.heap.size ≤ w.heap.size + 1 := by omega
    have z2 : w.heap.size ≤ w.heap.size + 1 + 1 := by omega
    exact grown_new (grown_new (grown_new (grown_new (grown_new (grown_new (grown_new HG6.out (grown_set _ ⟨w.heap.size + 1 + 1, 5, none⟩ _) z2) (grown_set _ ⟨w.heap.size + 1, 0, none⟩ _) z1) (grown_set _ ⟨w.heap.size + 1, 1, none⟩ _) z1) (grown_set _ ⟨w.heap.size + 1, 2, none⟩ _) z1) (grown_set _ ⟨w.heap.size + 1, 3, none⟩ _) z1) (grown_set _ ⟨w.heap.size + 1, 4, none⟩ _) z1) (grown_set _ ⟨w.heap.size + 1, 5, none⟩ _) z1

set_option maxHeartbeats 1600000 in
theorem tells_3 (B b : Nat) (l : List Int) (k : Nat) (y : Int) (t : ByteArray) (x z : Int) (k' : Nat) (w : World) (h : Sc w B b l k) (hy : pk y = 3)
    (H : ∀ W, Sc W B b l k → Calls Try.prog 26 #[.pointer (some ⟨b, 0, none⟩)] W (CP W B b 48 [.pointer (some ⟨b, 0, none⟩)] l (.tuple #[.int .i64 x, .int .i64 z]) k')) :
    Calls Try.prog 16 #[.pointer (some ⟨b, 0, none⟩), .agg #[.int .i64 y, .string t]] w (TP w B b l x z ⟨#[]⟩ false k') := by
  have HH := Lib.hid H
  clear H
  have HB : Hid (b < w.heap.size) := h.lt
  have HBL := Lib.hid (bl_three w (.cells #[.int .i64 y, .string t] 33) (.cells (tvl 0 0 0 ⟨#[]⟩ false false) 37) (.cells (tvl 0 0 0 ⟨#[]⟩ false false) 37))
  have HS : Hid (Sc (((w.alloc (.cells #[.int .i64 y, .string t] 33)).alloc (.cells (tvl 0 0 0 ⟨#[]⟩ false false) 37)).alloc (.cells (tvl 0 0 0 ⟨#[]⟩ false false) 37)) B b l k) := Cu.below h HBL.out
  have HP : Hid (∀ W, Calls Try.prog 14 #[.int .i64 y, .int .i64 8] W fun e w' => e = .returned (.int .i64 3) ∧ w' = W) := fun W => by
    have := pick8 y W
    rw [hy] at this; exact this
  have HT3 := Lib.hid (tb_three w (.cells #[.int .i64 y, .string t] 33) (tvl 0 0 0 ⟨#[]⟩ false false) (tvl 0 0 0 ⟨#[]⟩ false false))
  have hne : Hid (b ≠ w.heap.size + 1 + 1) := by have := HB.out; show _ ≠ _; omega
  have hne1 : Hid (b ≠ w.heap.size + 1) := by have := HB.out; show _ ≠ _; omega
  clear h hy
  go_enter Try.func16, Try.ntmps16
  go_wp2_with fail
  refine (HP.out _).mono ?_
  rintro e w' ⟨rfl, rfl⟩
  go_wp2_with fail
  refine (HH.out _ HS.out).mono ?_
  rintro e w4 ⟨rfl, hc4, hg4⟩
  have hT4 : Tb w4 (w.heap.size + 1 + 1) (tvl 0 0 0 ⟨#[]⟩ false false) := HT3.out.1.kept hg4 hne.out
  have hR4 : Tb w4 (w.heap.size + 1) (tvl 0 0 0 ⟨#[]⟩ false false) := HT3.out.2.kept hg4 hne1.out
  have HG4 : Hid (w.grownBy w4 (some b)) := (below_grown HBL.out _).trans hg4
  clear HT3 HS HBL
  obtain ⟨q0, q1, q2, q3, q4, q5⟩ := hT4.cells
  have f0 := hT4.frz 0
  have f1 := hT4.frz 1
  have HC4 := Lib.hid hc4
  have HT4 := Lib.hid hT4
  have HR4 := Lib.hid hR4
  clear hc4 hg4 hT4 hR4
  go_wp2_with fail
  refine (At_scan B b l k' _ (Sc.tb (Sc.tb HC4.out HT4.out 0 _) (Tb.set HT4.out 0 _) 1 _)).mono ?_
  rintro e w5 ⟨rfl, hw5⟩
  have hC5 : Sc w5 B b l k' := by rw [hw5]; exact (Sc.tb (Sc.tb HC4.out HT4.out 0 _) (Tb.set HT4.out 0 _) 1 _)
  have hT5 : Tb w5 (w.heap.size + 1 + 1) (tvl x z 0 ⟨#[]⟩ false false) := by rw [hw5]; exact (Tb.set (Tb.set HT4.out 0 _) 1 _)
  have hR5 : Tb w5 (w.heap.size + 1) (tvl 0 0 0 ⟨#[]⟩ false false) := by rw [hw5]; exact (Tb.other (Tb.other HR4.out (w.heap.size + 1 + 1) 0 _ (by omega)) (w.heap.size + 1 + 1) 1 _ (by omega))
  have HG5 : Hid (w.grownBy w5 (some b)) := by rw [hw5]; exact (grown_new (grown_new HG4.out (grown_set _ ⟨w.heap.size + 1 + 1, 0, none⟩ _) (show w.heap.size ≤ w.heap.size + 1 + 1 by omega)) (grown_set _ ⟨w.heap.size + 1 + 1, 1, none⟩ _) (show w.heap.size ≤ w.heap.size + 1 + 1 by omega))
  clear hw5 HG4 q0 q1 q2 q3 q4 q5 HC4 HT4 HR4
  obtain ⟨q0, q1, q2, q3, q4, q5⟩ := hT5.cells
  have g2 := hT5.frz 2
  have HC5 := Lib.hid hC5
  have HT5 := Lib.hid hT5
  have HR5 := Lib.hid hR5
  clear hC5 hT5 hR5
  go_wp2_with fail
  refine (Done_scan B b l k' (decide (k' = l.length)) k' _ (Sc.tb HC5.out HT5.out 2 _) ((done_any B b _ _ l k' _ (Sc.tb HC5.out HT5.out 2 _)).mono ?_)).mono ?_
  · rintro e w6 ⟨rfl, n, rfl⟩
    exact ⟨rfl, (Sc.tb HC5.out HT5.out 2 _).drewN n, grown_drewN _ n _⟩
  rintro e w6 ⟨rfl, hC6, hg6⟩
  have hT6 : Tb w6 (w.heap.size + 1 + 1) ((tvl x z 0 ⟨#[]⟩ false false).set! 2 (.int .i64 (k' : Nat))) := (Tb.set HT5.out 2 _).kept hg6 hne.out
  have hR6 : Tb w6 (w.heap.size + 1) (tvl 0 0 0 ⟨#[]⟩ false false) := (Tb.other HR5.out (w.heap.size + 1 + 1) 2 _ (by omega)).kept hg6 hne1.out
  have HG6 : Hid (w.grownBy w6 (some b)) := (grown_new HG5.out (grown_set _ ⟨w.heap.size + 1 + 1, 2, none⟩ _) (show w.heap.size ≤ w.heap.size + 1 + 1 by omega)).trans hg6
  clear hg6 HC5 HT5 HR5 HG5 q0 q1 q2 q3 q4 q5 g2
  generalize hD : decide (k' = l.length) = D
  have HD := Lib.hid hD
  clear hD
  obtain ⟨q0, q1, q2, q3, q4, q5⟩ := (show Tb w6 (w.heap.size + 1 + 1) (tvl x z (k' : Nat) ⟨#[]⟩ false false) from hT6).cells
  have g5 := hT6.frz 5
  obtain ⟨r0, r1, r2, r3, r4, r5⟩ := hR6.cells
  have z0 := hR6.frz 0
  have z1 := hR6.frz 1
  have z2 := hR6.frz 2
  have z3 := hR6.frz 3
  have z4 := hR6.frz 4
  have z5 := hR6.frz 5
  have HC6 := Lib.hid hC6
  have HT6 := Lib.hid hT6
  have HR6 := Lib.hid hR6
  clear hC6 hT6 hR6
  go_wp2
  have X0 := Tb.other HR6.out (w.heap.size + 1 + 1) 5 (.bool D) (by omega)
  have X6 := (((((X0.set 0 (.int .i64 x)).set 1 (.int .i64 z)).set 2 (.int .i64 (k' : Nat))).set 3 (.string ⟨#[]⟩)).set 4 (.bool false)).set 5 (.bool D)
  refine bodyPost_ret (results_cell_row rfl _ _ (w.heap.size + 1) 37 _ (0, 0) _ rfl X6 Try.underlying37 rfl (by kernel_rfl)) rfl ?_
  refine ⟨by rw [HD.out]; rfl, ?_, ?_⟩
  · have Y0 := Sc.tb HC6.out HT6.out 5 (.bool D)
    exact (((((Y0.tb X0 0 _).tb (X0.set 0 _) 1 _).tb ((X0.set 0 _).set 1 _) 2 _).tb (((X0.set 0 _).set 1 _).set 2 _) 3 _).tb ((((X0.set 0 _).set 1 _).set 2 _).set 3 _) 4 _).tb (((((X0.set 0 _).set 1 _).set 2 _).set 3 _).set 4 _) 5 _
  · have z1 : w.heap.size ≤ w.heap.size + 1 := by omega
    have z2 : w.heap.size ≤ w.heap.size + 1 + 1 := by omega
    exact grown_new (grown_new (grown_new (grown_new (grown_new (grown_new (grown_new HG6.out (grown_set _ ⟨w.heap.size + 1 + 1, 5, none⟩ _) z2) (grown_set _ ⟨w.heap.size + 1, 0, none⟩ _) z1) (grown_set _ ⟨w.heap.size + 1, 1, none⟩ _) z1) (grown_set _ ⟨w.heap.size + 1, 2, none⟩ _) z1) (grown_set _ ⟨w.heap.size + 1, 3, none⟩ _) z1) (grown_set _ ⟨w.heap.size + 1, 4, none⟩ _) z1) (grown_set _ ⟨w.heap.size + 1, 5, none⟩ _) z1

set_option maxHeartbeats 1600000 in
theorem tells_4 (B b : Nat) (l : List Int) (k : Nat) (y : Int) (t : ByteArray) (x : Int) (o : Bool) (k' : Nat) (w : World) (h : Sc w B b l k) (hy : pk y = 4)
    (H : ∀ W, Sc W B b l k → Calls Try.prog 25 #[.pointer (some ⟨b, 0, none⟩)] W (CP W B b 48 [.pointer (some ⟨b, 0, none⟩)] l (.tuple #[.int .i64 x, .bool o]) k')) :
    Calls Try.prog 16 #[.pointer (some ⟨b, 0, none⟩), .agg #[.int .i64 y, .string t]] w (TP w B b l x 0 ⟨#[]⟩ o k') := by
  have HH := Lib.hid H
  clear H
  have HB : Hid (b < w.heap.size) := h.lt
  have HBL := Lib.hid (bl_three w (.cells #[.int .i64 y, .string t] 33) (.cells (tvl 0 0 0 ⟨#[]⟩ false false) 37) (.cells (tvl 0 0 0 ⟨#[]⟩ false false) 37))
  have HS : Hid (Sc (((w.alloc (.cells #[.int .i64 y, .string t] 33)).alloc (.cells (tvl 0 0 0 ⟨#[]⟩ false false) 37)).alloc (.cells (tvl 0 0 0 ⟨#[]⟩ false false) 37)) B b l k) := Cu.below h HBL.out
  have HP : Hid (∀ W, Calls Try.prog 14 #[.int .i64 y, .int .i64 8] W fun e w' => e = .returned (.int .i64 4) ∧ w' = W) := fun W => by
    have := pick8 y W
    rw [hy] at this; exact this
  have HT3 := Lib.hid (tb_three w (.cells #[.int .i64 y, .string t] 33) (tvl 0 0 0 ⟨#[]⟩ false false) (tvl 0 0 0 ⟨#[]⟩ false false))
  have hne : Hid (b ≠ w.heap.size + 1 + 1) := by have := HB.out; show _ ≠ _; omega
  have hne1 : Hid (b ≠ w.heap.size + 1) := by have := HB.out; show _ ≠ _; omega
  clear h hy
  go_enter Try.func16, Try.ntmps16
  go_wp2_with fail
  refine (HP.out _).mono ?_
  rintro e w' ⟨rfl, rfl⟩
  go_wp2_with fail
  refine (HH.out _ HS.out).mono ?_
  rintro e w4 ⟨rfl, hc4, hg4⟩
  have hT4 : Tb w4 (w.heap.size + 1 + 1) (tvl 0 0 0 ⟨#[]⟩ false false) := HT3.out.1.kept hg4 hne.out
  have hR4 : Tb w4 (w.heap.size + 1) (tvl 0 0 0 ⟨#[]⟩ false false) := HT3.out.2.kept hg4 hne1.out
  have HG4 : Hid (w.grownBy w4 (some b)) := (below_grown HBL.out _).trans hg4
  clear HT3 HS HBL
  obtain ⟨q0, q1, q2, q3, q4, q5⟩ := hT4.cells
  have f0 := hT4.frz 0
  have f4 := hT4.frz 4
  have HC4 := Lib.hid hc4
  have HT4 := Lib.hid hT4
  have HR4 := Lib.hid hR4
  clear hc4 hg4 hT4 hR4
  go_wp2_with fail
  refine (At_scan B b l k' _ (Sc.tb (Sc.tb HC4.out HT4.out 0 _) (Tb.set HT4.out 0 _) 4 _)).mono ?_
  rintro e w5 ⟨rfl, hw5⟩
  have hC5 : Sc w5 B b l k' := by rw [hw5]; exact (Sc.tb (Sc.tb HC4.out HT4.out 0 _) (Tb.set HT4.out 0 _) 4 _)
  have hT5 : Tb w5 (w.heap.size + 1 + 1) (tvl x 0 0 ⟨#[]⟩ o false) := by rw [hw5]; exact (Tb.set (Tb.set HT4.out 0 _) 4 _)
  have hR5 : Tb w5 (w.heap.size + 1) (tvl 0 0 0 ⟨#[]⟩ false false) := by rw [hw5]; exact (Tb.other (Tb.other HR4.out (w.heap.size + 1 + 1) 0 _ (by omega)) (w.heap.size + 1 + 1) 4 _ (by omega))
  have HG5 : Hid (w.grownBy w5 (some b)) := by rw [hw5]; exact (grown_new (grown_new HG4.out (grown_set _ ⟨w.heap.size + 1 + 1, 0, none⟩ _) (show w.heap.size ≤ w.heap.size + 1 + 1 by omega)) (grown_set _ ⟨w.heap.size + 1 + 1, 4, none⟩ _) (show w.heap.size ≤ w.heap.size + 1 + 1 by omega))
  clear hw5 HG4 q0 q1 q2 q3 q4 q5 HC4 HT4 HR4
  obtain ⟨q0, q1, q2, q3, q4, q5⟩ := hT5.cells
  have g2 := hT5.frz 2
  have HC5 := Lib.hid hC5
  have HT5 := Lib.hid hT5
  have HR5 := Lib.hid hR5
  clear hC5 hT5 hR5
  go_wp2_with fail
  refine (Done_scan B b l k' (decide (k' = l.length)) k' _ (Sc.tb HC5.out HT5.out 2 _) ((done_any B b _ _ l k' _ (Sc.tb HC5.out HT5.out 2 _)).mono ?_)).mono ?_
  · rintro e w6 ⟨rfl, n, rfl⟩
    exact ⟨rfl, (Sc.tb HC5.out HT5.out 2 _).drewN n, grown_drewN _ n _⟩
  rintro e w6 ⟨rfl, hC6, hg6⟩
  have hT6 : Tb w6 (w.heap.size + 1 + 1) ((tvl x 0 0 ⟨#[]⟩ o false).set! 2 (.int .i64 (k' : Nat))) := (Tb.set HT5.out 2 _).kept hg6 hne.out
  have hR6 : Tb w6 (w.heap.size + 1) (tvl 0 0 0 ⟨#[]⟩ false false) := (Tb.other HR5.out (w.heap.size + 1 + 1) 2 _ (by omega)).kept hg6 hne1.out
  have HG6 : Hid (w.grownBy w6 (some b)) := (grown_new HG5.out (grown_set _ ⟨w.heap.size + 1 + 1, 2, none⟩ _) (show w.heap.size ≤ w.heap.size + 1 + 1 by omega)).trans hg6
  clear hg6 HC5 HT5 HR5 HG5 q0 q1 q2 q3 q4 q5 g2
  generalize hD : decide (k' = l.length) = D
  have HD := Lib.hid hD
  clear hD
  obtain ⟨q0, q1, q2, q3, q4, q5⟩ := (show Tb w6 (w.heap.size + 1 + 1) (tvl x 0 (k' : Nat) ⟨#[]⟩ o false) from hT6).cells
  have g5 := hT6.frz 5
  obtain ⟨r0, r1, r2, r3, r4, r5⟩ := hR6.cells
  have z0 := hR6.frz 0
  have z1 := hR6.frz 1
  have z2 := hR6.frz 2
  have z3 := hR6.frz 3
  have z4 := hR6.frz 4
  have z5 := hR6.frz 5
  have HC6 := Lib.hid hC6
  have HT6 := Lib.hid hT6
  have HR6 := Lib.hid hR6
  clear hC6 hT6 hR6
  go_wp2
  have X0 := Tb.other HR6.out (w.heap.size + 1 + 1) 5 (.bool D) (by omega)
  have X6 := (((((X0.set 0 (.int .i64 x)).set 1 (.int .i64 0)).set 2 (.int .i64 (k' : Nat))).set 3 (.string ⟨#[]⟩)).set 4 (.bool o)).set 5 (.bool D)
  refine bodyPost_ret (results_cell_row rfl _ _ (w.heap.size + 1) 37 _ (0, 0) _ rfl X6 Try.underlying37 rfl (by kernel_rfl)) rfl ?_
  refine ⟨by rw [HD.out]; rfl, ?_, ?_⟩
  · have Y0 := Sc.tb HC6.out HT6.out 5 (.bool D)
    exact (((((Y0.tb X0 0 _).tb (X0.set 0 _) 1 _).tb ((X0.set 0 _).set 1 _) 2 _).tb (((X0.set 0 _).set 1 _).set 2 _) 3 _).tb ((((X0.set 0 _).set 1 _).set 2 _).set 3 _) 4 _).tb (((((X0.set 0 _).set 1 _).set 2 _).set 3 _).set 4 _) 5 _
  · have z1 : w.heap.size ≤ w.heap.size + 1 := by omega
    have z2 : w.heap.size ≤ w.heap.size + 1 + 1 := by omega
    exact grown_new (grown_new (grown_new (grown_new (grown_new (grown_new (grown_new HG6.out (grown_set _ ⟨w.heap.size + 1 + 1, 5, none⟩ _) z2) (grown_set _ ⟨w.heap.size + 1, 0, none⟩ _) z1) (grown_set _ ⟨w.heap.size + 1, 1, none⟩ _) z1) (grown_set _ ⟨w.heap.size + 1, 2, none⟩ _) z1) (grown_set _ ⟨w.heap.size + 1, 3, none⟩ _) z1) (grown_set _ ⟨w.heap.size + 1, 4, none⟩ _) z1) (grown_set _ ⟨w.heap.size + 1, 5, none⟩ _) z1

set_option maxHeartbeats 1600000 in
theorem tells_5 (B b : Nat) (l : List Int) (k : Nat) (y : Int) (t : ByteArray) (u : ByteArray) (o : Bool) (k' : Nat) (w : World) (h : Sc w B b l k) (hy : pk y = 5)
    (H : ∀ W, Sc W B b l k → Calls Try.prog 32 #[.pointer (some ⟨b, 0, none⟩)] W (CP W B b 48 [.pointer (some ⟨b, 0, none⟩)] l (.tuple #[.string u, .bool o]) k')) :
    Calls Try.prog 16 #[.pointer (some ⟨b, 0, none⟩), .agg #[.int .i64 y, .string t]] w (TP w B b l 0 0 u o k') := by
  have HH := Lib.hid H
  clear H
  have HB : Hid (b < w.heap.size) := h.lt
  have HBL := Lib.hid (bl_three w (.cells #[.int .i64 y, .string t] 33) (.cells (tvl 0 0 0 ⟨#[]⟩ false false) 37) (.cells (tvl 0 0 0 ⟨#[]⟩ false false) 37))
  have HS : Hid (Sc (((w.alloc (.cells #[.int .i64 y, .string t] 33)).alloc (.cells (tvl 0 0 0 ⟨#[]⟩ false false) 37)).alloc (.cells (tvl 0 0 0 ⟨#[]⟩ false false) 37)) B b l k) := Cu.below h HBL.out
  have HP : Hid (∀ W, Calls Try.prog 14 #[.int .i64 y, .int .i64 8] W fun e w' => e = .returned (.int .i64 5) ∧ w' = W) := fun W => by
    have := pick8 y W
    rw [hy] at this; exact this
  have HT3 := Lib.hid (tb_three w (.cells #[.int .i64 y, .string t] 33) (tvl 0 0 0 ⟨#[]⟩ false false) (tvl 0 0 0 ⟨#[]⟩ false false))
  have hne : Hid (b ≠ w.heap.size + 1 + 1) := by have := HB.out; show _ ≠ _; omega
  have hne1 : Hid (b ≠ w.heap.size + 1) := by have := HB.out; show _ ≠ _; omega
  clear h hy
  go_enter Try.func16, Try.ntmps16
  go_wp2_with fail
  refine (HP.out _).mono ?_
  rintro e w' ⟨rfl, rfl⟩
  go_wp2_with fail
  refine (HH.out _ HS.out).mono ?_
  rintro e w4 ⟨rfl, hc4, hg4⟩
  have hT4 : Tb w4 (w.heap.size + 1 + 1) (tvl 0 0 0 ⟨#[]⟩ false false) := HT3.out.1.kept hg4 hne.out
  have hR4 : Tb w4 (w.heap.size + 1) (tvl 0 0 0 ⟨#[]⟩ false false) := HT3.out.2.kept hg4 hne1.out
  have HG4 : Hid (w.grownBy w4 (some b)) := (below_grown HBL.out _).trans hg4
  clear HT3 HS HBL
  obtain ⟨q0, q1, q2, q3, q4, q5⟩ := hT4.cells
  have f3 := hT4.frz 3
  have f4 := hT4.frz 4
  have HC4 := Lib.hid hc4
  have HT4 := Lib.hid hT4
  have HR4 := Lib.hid hR4
  clear hc4 hg4 hT4 hR4
  go_wp2_with fail
  refine (At_scan B b l k' _ (Sc.tb (Sc.tb HC4.out HT4.out 3 _) (Tb.set HT4.out 3 _) 4 _)).mono ?_
  rintro e w5 ⟨rfl, hw5⟩
  have hC5 : Sc w5 B b l k' := by rw [hw5]; exact (Sc.tb (Sc.tb HC4.out HT4.out 3 _) (Tb.set HT4.out 3 _) 4 _)
  have hT5 : Tb w5 (w.heap.size + 1 + 1) (tvl 0 0 0 u o false) := by rw [hw5]; exact (Tb.set (Tb.set HT4.out 3 _) 4 _)
  have hR5 : Tb w5 (w.heap.size + 1) (tvl 0 0 0 ⟨#[]⟩ false false) := by rw [hw5]; exact (Tb.other (Tb.other HR4.out (w.heap.size + 1 + 1) 3 _ (by omega)) (w.heap.size + 1 + 1) 4 _ (by omega))
  have HG5 : Hid (w.grownBy w5 (some b)) := by rw [hw5]; exact (grown_new (grown_new HG4.out (grown_set _ ⟨w.heap.size + 1 + 1, 3, none⟩ _) (show w.heap.size ≤ w.heap.size + 1 + 1 by omega)) (grown_set _ ⟨w.heap.size + 1 + 1, 4, none⟩ _) (show w.heap.size ≤ w.heap.size + 1 + 1 by omega))
  clear hw5 HG4 q0 q1 q2 q3 q4 q5 HC4 HT4 HR4
  obtain ⟨q0, q1, q2, q3, q4, q5⟩ := hT5.cells
  have g2 := hT5.frz 2
  have HC5 := Lib.hid hC5
  have HT5 := Lib.hid hT5
  have HR5 := Lib.hid hR5
  clear hC5 hT5 hR5
  go_wp2_with fail
  refine (Done_scan B b l k' (decide (k' = l.length)) k' _ (Sc.tb HC5.out HT5.out 2 _) ((done_any B b _ _ l k' _ (Sc.tb HC5.out HT5.out 2 _)).mono ?_)).mono ?_
  · rintro e w6 ⟨rfl, n, rfl⟩
    exact ⟨rfl, (Sc.tb HC5.out HT5.out 2 _).drewN n, grown_drewN _ n _⟩
  rintro e w6 ⟨rfl, hC6, hg6⟩
  have hT6 : Tb w6 (w.heap.size + 1 + 1) ((tvl 0 0 0 u o false).set! 2 (.int .i64 (k' : Nat))) := (Tb.set HT5.out 2 _).kept hg6 hne.out
  have hR6 : Tb w6 (w.heap.size + 1) (tvl 0 0 0 ⟨#[]⟩ false false) := (Tb.other HR5.out (w.heap.size + 1 + 1) 2 _ (by omega)).kept hg6 hne1.out
  have HG6 : Hid (w.grownBy w6 (some b)) := (grown_new HG5.out (grown_set _ ⟨w.heap.size + 1 + 1, 2, none⟩ _) (show w.heap.size ≤ w.heap.size + 1 + 1 by omega)).trans hg6
  clear hg6 HC5 HT5 HR5 HG5 q0 q1 q2 q3 q4 q5 g2
  generalize hD : decide (k' = l.length) = D
  have HD := Lib.hid hD
  clear hD
  obtain ⟨q0, q1, q2, q3, q4, q5⟩ := (show Tb w6 (w.heap.size + 1 + 1) (tvl 0 0 (k' : Nat) u o false) from hT6).cells
  have g5 := hT6.frz 5
  obtain ⟨r0, r1, r2, r3, r4, r5⟩ := hR6.cells
  have z0 := hR6.frz 0
  have z1 := hR6.frz 1
  have z2 := hR6.frz 2
  have z3 := hR6.frz 3
  have z4 := hR6.frz 4
  have z5 := hR6.frz 5
  have HC6 := Lib.hid hC6
  have HT6 := Lib.hid hT6
  have HR6 := Lib.hid hR6
  clear hC6 hT6 hR6
  go_wp2
  have X0 := Tb.other HR6.out (w.heap.size + 1 + 1) 5 (.bool D) (by omega)
  have X6 := (((((X0.set 0 (.int .i64 0)).set 1 (.int .i64 0)).set 2 (.int .i64 (k' : Nat))).set 3 (.string u)).set 4 (.bool o)).set 5 (.bool D)
  refine bodyPost_ret (results_cell_row rfl _ _ (w.heap.size + 1) 37 _ (0, 0) _ rfl X6 Try.underlying37 rfl (by kernel_rfl)) rfl ?_
  refine ⟨by rw [HD.out]; rfl, ?_, ?_⟩
  · have Y0 := Sc.tb HC6.out HT6.out 5 (.bool D)
    exact (((((Y0.tb X0 0 _).tb (X0.set 0 _) 1 _).tb ((X0.set 0 _).set 1 _) 2 _).tb (((X0.set 0 _).set 1 _).set 2 _) 3 _).tb ((((X0.set 0 _).set 1 _).set 2 _).set 3 _) 4 _).tb (((((X0.set 0 _).set 1 _).set 2 _).set 3 _).set 4 _) 5 _
  · have z1 : w.heap.size ≤ w.heap.size + 1 := by omega
    have z2 : w.heap.size ≤ w.heap.size + 1 + 1 := by omega
    exact grown_new (grown_new (grown_new (grown_new (grown_new (grown_new (grown_new HG6.out (grown_set _ ⟨w.heap.size + 1 + 1, 5, none⟩ _) z2) (grown_set _ ⟨w.heap.size + 1, 0, none⟩ _) z1) (grown_set _ ⟨w.heap.size + 1, 1, none⟩ _) z1) (grown_set _ ⟨w.heap.size + 1, 2, none⟩ _) z1) (grown_set _ ⟨w.heap.size + 1, 3, none⟩ _) z1) (grown_set _ ⟨w.heap.size + 1, 4, none⟩ _) z1) (grown_set _ ⟨w.heap.size + 1, 5, none⟩ _) z1

set_option maxHeartbeats 1600000 in
theorem tells_6 (B b : Nat) (l : List Int) (k : Nat) (y : Int) (t : ByteArray) (x : Int) (o : Bool) (k' : Nat) (w : World) (h : Sc w B b l k) (hy : pk y = 6)
    (H : ∀ W, Sc W B b l k → Calls Try.prog 33 #[.pointer (some ⟨b, 0, none⟩)] W (CP W B b 48 [.pointer (some ⟨b, 0, none⟩)] l (.tuple #[.int .i64 x, .bool o]) k')) :
    Calls Try.prog 16 #[.pointer (some ⟨b, 0, none⟩), .agg #[.int .i64 y, .string t]] w (TP w B b l x 0 ⟨#[]⟩ o k') := by
  have HH := Lib.hid H
  clear H
  have HB : Hid (b < w.heap.size) := h.lt
  have HBL := Lib.hid (bl_three w (.cells #[.int .i64 y, .string t] 33) (.cells (tvl 0 0 0 ⟨#[]⟩ false false) 37) (.cells (tvl 0 0 0 ⟨#[]⟩ false false) 37))
  have HS : Hid (Sc (((w.alloc (.cells #[.int .i64 y, .string t] 33)).alloc (.cells (tvl 0 0 0 ⟨#[]⟩ false false) 37)).alloc (.cells (tvl 0 0 0 ⟨#[]⟩ false false) 37)) B b l k) := Cu.below h HBL.out
  have HP : Hid (∀ W, Calls Try.prog 14 #[.int .i64 y, .int .i64 8] W fun e w' => e = .returned (.int .i64 6) ∧ w' = W) := fun W => by
    have := pick8 y W
    rw [hy] at this; exact this
  have HT3 := Lib.hid (tb_three w (.cells #[.int .i64 y, .string t] 33) (tvl 0 0 0 ⟨#[]⟩ false false) (tvl 0 0 0 ⟨#[]⟩ false false))
  have hne : Hid (b ≠ w.heap.size + 1 + 1) := by have := HB.out; show _ ≠ _; omega
  have hne1 : Hid (b ≠ w.heap.size + 1) := by have := HB.out; show _ ≠ _; omega
  clear h hy
  go_enter Try.func16, Try.ntmps16
  go_wp2_with fail
  refine (HP.out _).mono ?_
  rintro e w' ⟨rfl, rfl⟩
  go_wp2_with fail
  refine (HH.out _ HS.out).mono ?_
  rintro e w4 ⟨rfl, hc4, hg4⟩
  have hT4 : Tb w4 (w.heap.size + 1 + 1) (tvl 0 0 0 ⟨#[]⟩ false false) := HT3.out.1.kept hg4 hne.out
  have hR4 : Tb w4 (w.heap.size + 1) (tvl 0 0 0 ⟨#[]⟩ false false) := HT3.out.2.kept hg4 hne1.out
  have HG4 : Hid (w.grownBy w4 (some b)) := (below_grown HBL.out _).trans hg4
  clear HT3 HS HBL
  obtain ⟨q0, q1, q2, q3, q4, q5⟩ := hT4.cells
  have f0 := hT4.frz 0
  have f4 := hT4.frz 4
  have HC4 := Lib.hid hc4
  have HT4 := Lib.hid hT4
  have HR4 := Lib.hid hR4
  clear hc4 hg4 hT4 hR4
  go_wp2_with fail
  refine (At_scan B b l k' _ (Sc.tb (Sc.tb HC4.out HT4.out 0 _) (Tb.set HT4.out 0 _) 4 _)).mono ?_
  rintro e w5 ⟨rfl, hw5⟩
  have hC5 : Sc w5 B b l k' := by rw [hw5]; exact (Sc.tb (Sc.tb HC4.out HT4.out 0 _) (Tb.set HT4.out 0 _) 4 _)
  have hT5 : Tb w5 (w.heap.size + 1 + 1) (tvl x 0 0 ⟨#[]⟩ o false) := by rw [hw5]; exact (Tb.set (Tb.set HT4.out 0 _) 4 _)
  have hR5 : Tb w5 (w.heap.size + 1) (tvl 0 0 0 ⟨#[]⟩ false false) := by rw [hw5]; exact (Tb.other (Tb.other HR4.out (w.heap.size + 1 + 1) 0 _ (by omega)) (w.heap.size + 1 + 1) 4 _ (by omega))
  have HG5 : Hid (w.grownBy w5 (some b)) := by rw [hw5]; exact (grown_new (grown_new HG4.out (grown_set _ ⟨w.heap.size + 1 + 1, 0, none⟩ _) (show w.heap.size ≤ w.heap.size + 1 + 1 by omega)) (grown_set _ ⟨w.heap.size + 1 + 1, 4, none⟩ _) (show w.heap.size ≤ w.heap.size + 1 + 1 by omega))
  clear hw5 HG4 q0 q1 q2 q3 q4 q5 HC4 HT4 HR4
  obtain ⟨q0, q1, q2, q3, q4, q5⟩ := hT5.cells
  have g2 := hT5.frz 2
  have HC5 := Lib.hid hC5
  have HT5 := Lib.hid hT5
  have HR5 := Lib.hid hR5
  clear hC5 hT5 hR5
  go_wp2_with fail
  refine (Done_scan B b l k' (decide (k' = l.length)) k' _ (Sc.tb HC5.out HT5.out 2 _) ((done_any B b _ _ l k' _ (Sc.tb HC5.out HT5.out 2 _)).mono ?_)).mono ?_
  · rintro e w6 ⟨rfl, n, rfl⟩
    exact ⟨rfl, (Sc.tb HC5.out HT5.out 2 _).drewN n, grown_drewN _ n _⟩
  rintro e w6 ⟨rfl, hC6, hg6⟩
  have hT6 : Tb w6 (w.heap.size + 1 + 1) ((tvl x 0 0 ⟨#[]⟩ o false).set! 2 (.int .i64 (k' : Nat))) := (Tb.set HT5.out 2 _).kept hg6 hne.out
  have hR6 : Tb w6 (w.heap.size + 1) (tvl 0 0 0 ⟨#[]⟩ false false) := (Tb.other HR5.out (w.heap.size + 1 + 1) 2 _ (by omega)).kept hg6 hne1.out
  have HG6 : Hid (w.grownBy w6 (some b)) := (grown_new HG5.out (grown_set _ ⟨w.heap.size + 1 + 1, 2, none⟩ _) (show w.heap.size ≤ w.heap.size + 1 + 1 by omega)).trans hg6
  clear hg6 HC5 HT5 HR5 HG5 q0 q1 q2 q3 q4 q5 g2
  generalize hD : decide (k' = l.length) = D
  have HD := Lib.hid hD
  clear hD
  obtain ⟨q0, q1, q2, q3, q4, q5⟩ := (show Tb w6 (w.heap.size + 1 + 1) (tvl x 0 (k' : Nat) ⟨#[]⟩ o false) from hT6).cells
  have g5 := hT6.frz 5
  obtain ⟨r0, r1, r2, r3, r4, r5⟩ := hR6.cells
  have z0 := hR6.frz 0
  have z1 := hR6.frz 1
  have z2 := hR6.frz 2
  have z3 := hR6.frz 3
  have z4 := hR6.frz 4
  have z5 := hR6.frz 5
  have HC6 := Lib.hid hC6
  have HT6 := Lib.hid hT6
  have HR6 := Lib.hid hR6
  clear hC6 hT6 hR6
  go_wp2
  have X0 := Tb.other HR6.out (w.heap.size + 1 + 1) 5 (.bool D) (by omega)
  have X6 := (((((X0.set 0 (.int .i64 x)).set 1 (.int .i64 0)).set 2 (.int .i64 (k' : Nat))).set 3 (.string ⟨#[]⟩)).set 4 (.bool o)).set 5 (.bool D)
  refine bodyPost_ret (results_cell_row rfl _ _ (w.heap.size + 1) 37 _ (0, 0) _ rfl X6 Try.underlying37 rfl (by kernel_rfl)) rfl ?_
  refine ⟨by rw [HD.out]; rfl, ?_, ?_⟩
  · have Y0 := Sc.tb HC6.out HT6.out 5 (.bool D)
    exact (((((Y0.tb X0 0 _).tb (X0.set 0 _) 1 _).tb ((X0.set 0 _).set 1 _) 2 _).tb (((X0.set 0 _).set 1 _).set 2 _) 3 _).tb ((((X0.set 0 _).set 1 _).set 2 _).set 3 _) 4 _).tb (((((X0.set 0 _).set 1 _).set 2 _).set 3 _).set 4 _) 5 _
  · have z1 : w.heap.size ≤ w.heap.size + 1 := by omega
    have z2 : w.heap.size ≤ w.heap.size + 1 + 1 := by omega
    exact grown_new (grown_new (grown_new (grown_new (grown_new (grown_new (grown_new HG6.out (grown_set _ ⟨w.heap.size + 1 + 1, 5, none⟩ _) z2) (grown_set _ ⟨w.heap.size + 1, 0, none⟩ _) z1) (grown_set _ ⟨w.heap.size + 1, 1, none⟩ _) z1) (grown_set _ ⟨w.heap.size + 1, 2, none⟩ _) z1) (grown_set _ ⟨w.heap.size + 1, 3, none⟩ _) z1) (grown_set _ ⟨w.heap.size + 1, 4, none⟩ _) z1) (grown_set _ ⟨w.heap.size + 1, 5, none⟩ _) z1

set_option maxHeartbeats 1600000 in
theorem tells_7 (B b : Nat) (l : List Int) (k : Nat) (y : Int) (t : ByteArray)  (w : World) (h : Sc w B b l k) (hy : pk y = 7) :
    Calls Try.prog 16 #[.pointer (some ⟨b, 0, none⟩), .agg #[.int .i64 y, .string t]] w (TP w B b l 0 0 ⟨#[]⟩ false k) := by
  have HB : Hid (b < w.heap.size) := h.lt
  have HBL := Lib.hid (bl_three w (.cells #[.int .i64 y, .string t] 33) (.cells (tvl 0 0 0 ⟨#[]⟩ false false) 37) (.cells (tvl 0 0 0 ⟨#[]⟩ false false) 37))
  have HS : Hid (Sc (((w.alloc (.cells #[.int .i64 y, .string t] 33)).alloc (.cells (tvl 0 0 0 ⟨#[]⟩ false false) 37)).alloc (.cells (tvl 0 0 0 ⟨#[]⟩ false false) 37)) B b l k) := Cu.below h HBL.out
  have HP : Hid (∀ W, Calls Try.prog 14 #[.int .i64 y, .int .i64 8] W fun e w' => e = .returned (.int .i64 7) ∧ w' = W) := fun W => by
    have := pick8 y W
    rw [hy] at this; exact this
  have HT3 := Lib.hid (tb_three w (.cells #[.int .i64 y, .string t] 33) (tvl 0 0 0 ⟨#[]⟩ false false) (tvl 0 0 0 ⟨#[]⟩ false false))
  have hne : Hid (b ≠ w.heap.size + 1 + 1) := by have := HB.out; show _ ≠ _; omega
  have hne1 : Hid (b ≠ w.heap.size + 1) := by have := HB.out; show _ ≠ _; omega
  clear h hy
  go_enter Try.func16, Try.ntmps16
  go_wp2_with fail
  refine (HP.out _).mono ?_
  rintro e w' ⟨rfl, rfl⟩
  go_wp2_with fail
  have HG4 : Hid (w.grownBy (((w.alloc (.cells #[.int .i64 y, .string t] 33)).alloc (.cells (tvl 0 0 0 ⟨#[]⟩ false false) 37)).alloc (.cells (tvl 0 0 0 ⟨#[]⟩ false false) 37)) (some b)) := below_grown HBL.out _
  refine (At_scan B b l k _ HS.out).mono ?_
  rintro e w5 ⟨rfl, hw5⟩
  have hC5 : Sc w5 B b l k := by rw [hw5]; exact HS.out
  have hT5 : Tb w5 (w.heap.size + 1 + 1) (tvl 0 0 0 ⟨#[]⟩ false false) := by rw [hw5]; exact HT3.out.1
  have hR5 : Tb w5 (w.heap.size + 1) (tvl 0 0 0 ⟨#[]⟩ false false) := by rw [hw5]; exact HT3.out.2
  have HG5 : Hid (w.grownBy w5 (some b)) := by rw [hw5]; exact HG4.out
  clear hw5 HG4 HT3 HS HBL
  obtain ⟨q0, q1, q2, q3, q4, q5⟩ := hT5.cells
  have g2 := hT5.frz 2
  have HC5 := Lib.hid hC5
  have HT5 := Lib.hid hT5
  have HR5 := Lib.hid hR5
  clear hC5 hT5 hR5
  go_wp2_with fail
  refine (Done_scan B b l k (decide (k = l.length)) k _ (Sc.tb HC5.out HT5.out 2 _) ((done_any B b _ _ l k _ (Sc.tb HC5.out HT5.out 2 _)).mono ?_)).mono ?_
  · rintro e w6 ⟨rfl, n, rfl⟩
    exact ⟨rfl, (Sc.tb HC5.out HT5.out 2 _).drewN n, grown_drewN _ n _⟩
  rintro e w6 ⟨rfl, hC6, hg6⟩
  have hT6 : Tb w6 (w.heap.size + 1 + 1) ((tvl 0 0 0 ⟨#[]⟩ false false).set! 2 (.int .i64 (k : Nat))) := (Tb.set HT5.out 2 _).kept hg6 hne.out
  have hR6 : Tb w6 (w.heap.size + 1) (tvl 0 0 0 ⟨#[]⟩ false false) := (Tb.other HR5.out (w.heap.size + 1 + 1) 2 _ (by omega)).kept hg6 hne1.out
  have HG6 : Hid (w.grownBy w6 (some b)) := (grown_new HG5.out (grown_set _ ⟨w.heap.size + 1 + 1, 2, none⟩ _) (show w.heap.size ≤ w.heap.size + 1 + 1 by omega)).trans hg6
  clear hg6 HC5 HT5 HR5 HG5 q0 q1 q2 q3 q4 q5 g2
  generalize hD : decide (k = l.length) = D
  have HD := Lib.hid hD
  clear hD
  obtain ⟨q0, q1, q2, q3, q4, q5⟩ := (show Tb w6 (w.heap.size + 1 + 1) (tvl 0 0 (k : Nat) ⟨#[]⟩ false false) from hT6).cells
  have g5 := hT6.frz 5
  obtain ⟨r0, r1, r2, r3, r4, r5⟩ := hR6.cells
  have z0 := hR6.frz 0
  have z1 := hR6.frz 1
  have z2 := hR6.frz 2
  have z3 := hR6.frz 3
  have z4 := hR6.frz 4
  have z5 := hR6.frz 5
  have HC6 := Lib.hid hC6
  have HT6 := Lib.hid hT6
  have HR6 := Lib.hid hR6
  clear hC6 hT6 hR6
  go_wp2
  have X0 := Tb.other HR6.out (w.heap.size + 1 + 1) 5 (.bool D) (by omega)
  have X6 := (((((X0.set 0 (.int .i64 0)).set 1 (.int .i64 0)).set 2 (.int .i64 (k : Nat))).set 3 (.string ⟨#[]⟩)).set 4 (.bool false)).set 5 (.bool D)
  refine bodyPost_ret (results_cell_row rfl _ _ (w.heap.size + 1) 37 _ (0, 0) _ rfl X6 Try.underlying37 rfl (by kernel_rfl)) rfl ?_
  refine ⟨by rw [HD.out]; rfl, ?_, ?_⟩
  · have Y0 := Sc.tb HC6.out HT6.out 5 (.bool D)
    exact (((((Y0.tb X0 0 _).tb (X0.set 0 _) 1 _).tb ((X0.set 0 _).set 1 _) 2 _).tb (((X0.set 0 _).set 1 _).set 2 _) 3 _).tb ((((X0.set 0 _).set 1 _).set 2 _).set 3 _) 4 _).tb (((((X0.set 0 _).set 1 _).set 2 _).set 3 _).set 4 _) 5 _
  · have z1 : w.heap.size ≤ w.heap.size + 1 := by omega
    have z2 : w.heap.size ≤ w.heap.size + 1 + 1 := by omega
    exact grown_new (grown_new (grown_new (grown_new (grown_new (grown_new (grown_new HG6.out (grown_set _ ⟨w.heap.size + 1 + 1, 5, none⟩ _) z2) (grown_set _ ⟨w.heap.size + 1, 0, none⟩ _) z1) (grown_set _ ⟨w.heap.size + 1, 1, none⟩ _) z1) (grown_set _ ⟨w.heap.size + 1, 2, none⟩ _) z1) (grown_set _ ⟨w.heap.size + 1, 3, none⟩ _) z1) (grown_set _ ⟨w.heap.size + 1, 4, none⟩ _) z1) (grown_set _ ⟨w.heap.size + 1, 5, none⟩ _) z1
end Go.Proofs.Ytkpkhjflelmdjaa
