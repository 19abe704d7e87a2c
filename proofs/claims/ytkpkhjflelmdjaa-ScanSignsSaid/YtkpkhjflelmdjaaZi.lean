/- The document's scan: an escape, case by case. -/
import Derived.Test.YtkpkhjflelmdjaaZh
namespace Go.Proofs.Ytkpkhjflelmdjaa
open Go.RowKit Tnd

def TR (w : World) (B b : Nat) (l : List Int) (k : Nat) (x y : Int) (e : Ending) (w' : World) : Prop := CP w B b 43 [] l (.tuple #[.int .i64 x, .int .i64 y]) k e w'
theorem fresh_row {w : World} {B b : Nat} {l : List Int} {k : Nat} (h : Rs w B b l k) (o : Obj) : Rs (w.alloc o) B b l k := Cu.below h (bl_alloc w o)
theorem seen_step {c : Int} {i : Nat} {x : Nat} (h : ∀ x ∈ ownS.take i, c ≠ (x.toNat : Int)) (hx : c ≠ (x : Int)) {y : UInt8} (hy : ownS[i]? = some y := by rfl) (hyx : y.toNat = x := by rfl) : ∀ x ∈ ownS.take (i + 1), c ≠ (x.toNat : Int) := by
  intro z hz
  obtain ⟨hi, rfl⟩ := List.getElem?_eq_some_iff.1 hy
  rw [List.take_succ_eq_append_getElem hi] at hz
  rcases List.mem_append.1 hz with hz | hz
  · exact h z hz
  · rw [List.mem_singleton.1 hz, hyx]; exact hx
theorem seen_all {c : Int} (h : ∀ x ∈ ownS.take 15, c ≠ (x.toNat : Int)) : ¬ amg c ownS = true := by
  intro e
  unfold amg at e
  rw [List.any_eq_true] at e
  obtain ⟨x, hx, e2⟩ := e
  exact h x hx (by simpa using e2)

set_option maxHeartbeats 3200000 in
set_option maxRecDepth 100000 in
theorem ecs_plain0 (B b : Nat) (l : List Int) (k : Nat) (w : World) (h : Rs w B b l k) (hc : sgR (l.drop k) 0 = 102) :
    Calls Try.prog 54 #[.pointer (some ⟨b, 0, none⟩)] w (TR w B b l k 12 1) := by
  have HC := Lib.hid h
  have HS0 : Hid (Calls Try.prog 53 #[.pointer (some ⟨b, 0, none⟩), .int .i64 0] w fun e w' => e = .returned (.int .i64 (102)) ∧ ∃ n, w' = w.drewN n) := by rw [← hc]; exact sign_ref B b l k 0 w h (by omega)
  have HS1 : Hid (∀ W : World, Rs W B b l k → Calls Try.prog 53 #[.pointer (some ⟨b, 0, none⟩), .int .i64 1] W fun e w' => e = .returned (.int .i64 (sgR (l.drop k) 1)) ∧ ∃ n, w' = W.drewN n) := fun W hW => by exact sign_ref B b l k 1 W hW (by omega)
  clear h hc
  generalize sgR (l.drop k) 1 = d at HS1
  go_enter Try.func54, Try.ntmps54
  go_wp2_with fail
  refine HS0.out.mono ?_
  rintro e w1 ⟨rfl, n1, hw1⟩
  have HR1 : Hid (Rs w1 B b l k) := by rw [hw1]; exact Cu.drewN HC.out n1
  have HG1 : Hid (w.grownBy w1 (some b)) := by rw [hw1]; exact grown_drewN _ _ _
  clear hw1 HS0
  go_wp2_with fail
  refine (HS1.out _ HR1.out).mono ?_
  rintro e w2 ⟨rfl, n2, hw2⟩
  have HR2 : Hid (Rs w2 B b l k) := by rw [hw2]; exact Cu.drewN HR1.out n2
  have HG2 : Hid (w.grownBy w2 (some b)) := by rw [hw2]; exact HG1.out.trans (grown_drewN _ _ _)
  clear hw2 HS1 HR1 HG1
  have HR3 := Lib.hid (fresh_row HR2.out (.cells #[.int .i64 12, .int .i64 10, .int .i64 13, .int .i64 9, .int .i64 11] 3))
  have HG3 : Hid (w.grownBy (w2.alloc (.cells #[.int .i64 12, .int .i64 10, .int .i64 13, .int .i64 9, .int .i64 11] 3)) (some b)) := HG2.out.trans (below_grown (bl_alloc w2 _) _)
  have HH3 : Hid ((w2.alloc (.cells #[.int .i64 12, .int .i64 10, .int .i64 13, .int .i64 9, .int .i64 11] 3)).heap[w2.heap.size]? = some (.cells #[.int .i64 12, .int .i64 10, .int .i64 13, .int .i64 9, .int .i64 11] 3 (0, 0))) := (MapKept.heap_alloc w2 _).1
  go_wp2
  go_loopw [8] (fun iv wr => ∃ i : Nat, i ≤ 5 ∧ iv = .int .i64 (i : Nat) ∧ i ≤ 0 ∧ Hid (Rs wr B b l k) ∧ Hid (w.grownBy wr (some b)) ∧ Hid (wr.heap[w2.heap.size]? = some (.cells #[.int .i64 12, .int .i64 10, .int .i64 13, .int .i64 9, .int .i64 11] 3 (0, 0)))) (fun iv _ => 5 - (intOf iv).toNat)
  case atStart => exact ⟨0, by omega, rfl, by decide, HR3, HG3, HH3⟩
  case round =>
    clear HR3 HG3 HH3 HR2 HG2
    obtain ⟨i, hi, rfl, hst, HR, HG, HH⟩ := hrel
    rename World => wr
    have hcase : i = 5 ∨ i = 0 ∨ i = 1 ∨ i = 2 ∨ i = 3 ∨ i = 4 := by omega
    rcases hcase with rfl | rfl | rfl | rfl | rfl | rfl
    · exact absurd hst (by decide)
    · have hbf : (((⟨#[102, 110, 114, 116, 118]⟩ : ByteArray)[0]'(by decide)).toNat : Int) = 102 := rfl
      have hcell : wr.cell? ⟨w2.heap.size, 0, none⟩ = some (.int .i64 12) := by simp [World.cell?, HH.out]
      go_wp2
      go_ret2
      exact ⟨rfl, HR.out, HG.out⟩
    · exact absurd hst (by decide)
    · exact absurd hst (by decide)
    · exact absurd hst (by decide)
    · exact absurd hst (by decide)

set_option maxHeartbeats 3200000 in
set_option maxRecDepth 100000 in
theorem ecs_plain1 (B b : Nat) (l : List Int) (k : Nat) (w : World) (h : Rs w B b l k) (hc : sgR (l.drop k) 0 = 110) :
    Calls Try.prog 54 #[.pointer (some ⟨b, 0, none⟩)] w (TR w B b l k 10 1) := by
  have HC := Lib.hid h
  have HS0 : Hid (Calls Try.prog 53 #[.pointer (some ⟨b, 0, none⟩), .int .i64 0] w fun e w' => e = .returned (.int .i64 (110)) ∧ ∃ n, w' = w.drewN n) := by rw [← hc]; exact sign_ref B b l k 0 w h (by omega)
  have HS1 : Hid (∀ W : World, Rs W B b l k → Calls Try.prog 53 #[.pointer (some ⟨b, 0, none⟩), .int .i64 1] W fun e w' => e = .returned (.int .i64 (sgR (l.drop k) 1)) ∧ ∃ n, w' = W.drewN n) := fun W hW => by exact sign_ref B b l k 1 W hW (by omega)
  clear h hc
  generalize sgR (l.drop k) 1 = d at HS1
  go_enter Try.func54, Try.ntmps54
  go_wp2_with fail
  refine HS0.out.mono ?_
  rintro e w1 ⟨rfl, n1, hw1⟩
  have HR1 : Hid (Rs w1 B b l k) := by rw [hw1]; exact Cu.drewN HC.out n1
  have HG1 : Hid (w.grownBy w1 (some b)) := by rw [hw1]; exact grown_drewN _ _ _
  clear hw1 HS0
  go_wp2_with fail
  refine (HS1.out _ HR1.out).mono ?_
  rintro e w2 ⟨rfl, n2, hw2⟩
  have HR2 : Hid (Rs w2 B b l k) := by rw [hw2]; exact Cu.drewN HR1.out n2
  have HG2 : Hid (w.grownBy w2 (some b)) := by rw [hw2]; exact HG1.out.trans (grown_drewN _ _ _)
  clear hw2 HS1 HR1 HG1
  have HR3 := Lib.hid (fresh_row HR2.out (.cells #[.int .i64 12, .int .i64 10, .int .i64 13, .int .i64 9, .int .i64 11] 3))
  have HG3 : Hid (w.grownBy (w2.alloc (.cells #[.int .i64 12, .int .i64 10, .int .i64 13, .int .i64 9, .int .i64 11] 3)) (some b)) := HG2.out.trans (below_grown (bl_alloc w2 _) _)
  have HH3 : Hid ((w2.alloc (.cells #[.int .i64 12, .int .i64 10, .int .i64 13, .int .i64 9, .int .i64 11] 3)).heap[w2.heap.size]? = some (.cells #[.int .i64 12, .int .i64 10, .int .i64 13, .int .i64 9, .int .i64 11] 3 (0, 0))) := (MapKept.heap_alloc w2 _).1
  go_wp2
  go_loopw [8] (fun iv wr => ∃ i : Nat, i ≤ 5 ∧ iv = .int .i64 (i : Nat) ∧ i ≤ 1 ∧ Hid (Rs wr B b l k) ∧ Hid (w.grownBy wr (some b)) ∧ Hid (wr.heap[w2.heap.size]? = some (.cells #[.int .i64 12, .int .i64 10, .int .i64 13, .int .i64 9, .int .i64 11] 3 (0, 0)))) (fun iv _ => 5 - (intOf iv).toNat)
  case atStart => exact ⟨0, by omega, rfl, by decide, HR3, HG3, HH3⟩
  case round =>
    clear HR3 HG3 HH3 HR2 HG2
    obtain ⟨i, hi, rfl, hst, HR, HG, HH⟩ := hrel
    rename World => wr
    have hcase : i = 5 ∨ i = 0 ∨ i = 1 ∨ i = 2 ∨ i = 3 ∨ i = 4 := by omega
    rcases hcase with rfl | rfl | rfl | rfl | rfl | rfl
    · exact absurd hst (by decide)
    · have hbf : (((⟨#[102, 110, 114, 116, 118]⟩ : ByteArray)[0]'(by decide)).toNat : Int) = 102 := rfl
      go_wp2
      go_roundw
      case rel => exact ⟨1, by decide, by rfl, by decide, HR, HG, HH⟩
      case measure => simp [intOf]
    · have hbf : (((⟨#[102, 110, 114, 116, 118]⟩ : ByteArray)[1]'(by decide)).toNat : Int) = 110 := rfl
      have hcell : wr.cell? ⟨w2.heap.size, 1, none⟩ = some (.int .i64 10) := by simp [World.cell?, HH.out]
      go_wp2
      go_ret2
      exact ⟨rfl, HR.out, HG.out⟩
    · exact absurd hst (by decide)
    · exact absurd hst (by decide)
    · exact absurd hst (by decide)

set_option maxHeartbeats 3200000 in
set_option maxRecDepth 100000 in
theorem ecs_plain2 (B b : Nat) (l : List Int) (k : Nat) (w : World) (h : Rs w B b l k) (hc : sgR (l.drop k) 0 = 114) :
    Calls Try.prog 54 #[.pointer (some ⟨b, 0, none⟩)] w (TR w B b l k 13 1) := by
  have HC := Lib.hid h
  have HS0 : Hid (Calls Try.prog 53 #[.pointer (some ⟨b, 0, none⟩), .int .i64 0] w fun e w' => e = .returned (.int .i64 (114)) ∧ ∃ n, w' = w.drewN n) := by rw [← hc]; exact sign_ref B b l k 0 w h (by omega)
  have HS1 : Hid (∀ W : World, Rs W B b l k → Calls Try.prog 53 #[.pointer (some ⟨b, 0, none⟩), .int .i64 1] W fun e w' => e = .returned (.int .i64 (sgR (l.drop k) 1)) ∧ ∃ n, w' = W.drewN n) := fun W hW => by exact sign_ref B b l k 1 W hW (by omega)
  clear h hc
  generalize sgR (l.drop k) 1 = d at HS1
  go_enter Try.func54, Try.ntmps54
  go_wp2_with fail
  refine HS0.out.mono ?_
  rintro e w1 ⟨rfl, n1, hw1⟩
  have HR1 : Hid (Rs w1 B b l k) := by rw [hw1]; exact Cu.drewN HC.out n1
  have HG1 : Hid (w.grownBy w1 (some b)) := by rw [hw1]; exact grown_drewN _ _ _
  clear hw1 HS0
  go_wp2_with fail
  refine (HS1.out _ HR1.out).mono ?_
  rintro e w2 ⟨rfl, n2, hw2⟩
  have HR2 : Hid (Rs w2 B b l k) := by rw [hw2]; exact Cu.drewN HR1.out n2
  have HG2 : Hid (w.grownBy w2 (some b)) := by rw [hw2]; exact HG1.out.trans (grown_drewN _ _ _)
  clear hw2 HS1 HR1 HG1
  have HR3 := Lib.hid (fresh_row HR2.out (.cells #[.int .i64 12, .int .i64 10, .int .i64 13, .int .i64 9, .int .i64 11] 3))
  have HG3 : Hid (w.grownBy (w2.alloc (.cells #[.int .i64 12, .int .i64 10, .int .i64 13, .int .i64 9, .int .i64 11] 3)) (some b)) := HG2.out.trans (below_grown (bl_alloc w2 _) _)
  have HH3 : Hid ((w2.alloc (.cells #[.int .i64 12, .int .i64 10, .int .i64 13, .int .i64 9, .int .i64 11] 3)).heap[w2.heap.size]? = some (.cells #[.int .i64 12, .int .i64 10, .int .i64 13, .int .i64 9, .int .i64 11] 3 (0, 0))) := (MapKept.heap_alloc w2 _).1
  go_wp2
  go_loopw [8] (fun iv wr => ∃ i : Nat, i ≤ 5 ∧ iv = .int .i64 (i : Nat) ∧ i ≤ 2 ∧ Hid (Rs wr B b l k) ∧ Hid (w.grownBy wr (some b)) ∧ Hid (wr.heap[w2.heap.size]? = some (.cells #[.int .i64 12, .int .i64 10, .int .i64 13, .int .i64 9, .int .i64 11] 3 (0, 0)))) (fun iv _ => 5 - (intOf iv).toNat)
  case atStart => exact ⟨0, by omega, rfl, by decide, HR3, HG3, HH3⟩
  case round =>
    clear HR3 HG3 HH3 HR2 HG2
    obtain ⟨i, hi, rfl, hst, HR, HG, HH⟩ := hrel
    rename World => wr
    have hcase : i = 5 ∨ i = 0 ∨ i = 1 ∨ i = 2 ∨ i = 3 ∨ i = 4 := by omega
    rcases hcase with rfl | rfl | rfl | rfl | rfl | rfl
    · exact absurd hst (by decide)
    · have hbf : (((⟨#[102, 110, 114, 116, 118]⟩ : ByteArray)[0]'(by decide)).toNat : Int) = 102 := rfl
      go_wp2
      go_roundw
      case rel => exact ⟨1, by decide, by rfl, by decide, HR, HG, HH⟩
      case measure => simp [intOf]
    · have hbf : (((⟨#[102, 110, 114, 116, 118]⟩ : ByteArray)[1]'(by decide)).toNat : Int) = 110 := rfl
      go_wp2
      go_roundw
      case rel => exact ⟨2, by decide, by rfl, by decide, HR, HG, HH⟩
      case measure => simp [intOf]
    · have hbf : (((⟨#[102, 110, 114, 116, 118]⟩ : ByteArray)[2]'(by decide)).toNat : Int) = 114 := rfl
      have hcell : wr.cell? ⟨w2.heap.size, 2, none⟩ = some (.int .i64 13) := by simp [World.cell?, HH.out]
      go_wp2
      go_ret2
      exact ⟨rfl, HR.out, HG.out⟩
    · exact absurd hst (by decide)
    · exact absurd hst (by decide)

set_option maxHeartbeats 3200000 in
set_option maxRecDepth 100000 in
theorem ecs_plain3 (B b : Nat) (l : List Int) (k : Nat) (w : World) (h : Rs w B b l k) (hc : sgR (l.drop k) 0 = 116) :
    Calls Try.prog 54 #[.pointer (some ⟨b, 0, none⟩)] w (TR w B b l k 9 1) := by
  have HC := Lib.hid h
  have HS0 : Hid (Calls Try.prog 53 #[.pointer (some ⟨b, 0, none⟩), .int .i64 0] w fun e w' => e = .returned (.int .i64 (116)) ∧ ∃ n, w' = w.drewN n) := by rw [← hc]; exact sign_ref B b l k 0 w h (by omega)
  have HS1 : Hid (∀ W : World, Rs W B b l k → Calls Try.prog 53 #[.pointer (some ⟨b, 0, none⟩), .int .i64 1] W fun e w' => e = .returned (.int .i64 (sgR (l.drop k) 1)) ∧ ∃ n, w' = W.drewN n) := fun W hW => by exact sign_ref B b l k 1 W hW (by omega)
  clear h hc
  generalize sgR (l.drop k) 1 = d at HS1
  go_enter Try.func54, Try.ntmps54
  go_wp2_with fail
  refine HS0.out.mono ?_
  rintro e w1 ⟨rfl, n1, hw1⟩
  have HR1 : Hid (Rs w1 B b l k) := by rw [hw1]; exact Cu.drewN HC.out n1
  have HG1 : Hid (w.grownBy w1 (some b)) := by rw [hw1]; exact grown_drewN _ _ _
  clear hw1 HS0
  go_wp2_with fail
  refine (HS1.out _ HR1.out).mono ?_
  rintro e w2 ⟨rfl, n2, hw2⟩
  have HR2 : Hid (Rs w2 B b l k) := by rw [hw2]; exact Cu.drewN HR1.out n2
  have HG2 : Hid (w.grownBy w2 (some b)) := by rw [hw2]; exact HG1.out.trans (grown_drewN _ _ _)
  clear hw2 HS1 HR1 HG1
  have HR3 := Lib.hid (fresh_row HR2.out (.cells #[.int .i64 12, .int .i64 10, .int .i64 13, .int .i64 9, .int .i64 11] 3))
  have HG3 : Hid (w.grownBy (w2.alloc (.cells #[.int .i64 12, .int .i64 10, .int .i64 13, .int .i64 9, .int .i64 11] 3)) (some b)) := HG2.out.trans (below_grown (bl_alloc w2 _) _)
  have HH3 : Hid ((w2.alloc (.cells #[.int .i64 12, .int .i64 10, .int .i64 13, .int .i64 9, .int .i64 11] 3)).heap[w2.heap.size]? = some (.cells #[.int .i64 12, .int .i64 10, .int .i64 13, .int .i64 9, .int .i64 11] 3 (0, 0))) := (MapKept.heap_alloc w2 _).1
  go_wp2
  go_loopw [8] (fun iv wr => ∃ i : Nat, i ≤ 5 ∧ iv = .int .i64 (i : Nat) ∧ i ≤ 3 ∧ Hid (Rs wr B b l k) ∧ Hid (w.grownBy wr (some b)) ∧ Hid (wr.heap[w2.heap.size]? = some (.cells #[.int .i64 12, .int .i64 10, .int .i64 13, .int .i64 9, .int .i64 11] 3 (0, 0)))) (fun iv _ => 5 - (intOf iv).toNat)
  case atStart => exact ⟨0, by omega, rfl, by decide, HR3, HG3, HH3⟩
  case round =>
    clear HR3 HG3 HH3 HR2 HG2
    obtain ⟨i, hi, rfl, hst, HR, HG, HH⟩ := hrel
    rename World => wr
    have hcase : i = 5 ∨ i = 0 ∨ i = 1 ∨ i = 2 ∨ i = 3 ∨ i = 4 := by omega
    rcases hcase with rfl | rfl | rfl | rfl | rfl | rfl
    · exact absurd hst (by decide)
    · have hbf : (((⟨#[102, 110, 114, 116, 118]⟩ : ByteArray)[0]'(by decide)).toNat : Int) = 102 := rfl
      go_wp2
      go_roundw
      case rel => exact ⟨1, by decide, by rfl, by decide, HR, HG, HH⟩
      case measure => simp [intOf]
    · have hbf : (((⟨#[102, 110, 114, 116, 118]⟩ : ByteArray)[1]'(by decide)).toNat : Int) = 110 := rfl
      go_wp2
      go_roundw
      case rel => exact ⟨2, by decide, by rfl, by decide, HR, HG, HH⟩
      case measure => simp [intOf]
    · have hbf : (((⟨#[102, 110, 114, 116, 118]⟩ : ByteArray)[2]'(by decide)).toNat : Int) = 114 := rfl
      go_wp2
      go_roundw
      case rel => exact ⟨3, by decide, by rfl, by decide, HR, HG, HH⟩
      case measure => simp [intOf]
    · have hbf : (((⟨#[102, 110, 114, 116, 118]⟩ : ByteArray)[3]'(by decide)).toNat : Int) = 116 := rfl
      have hcell : wr.cell? ⟨w2.heap.size, 3, none⟩ = some (.int .i64 9) := by simp [World.cell?, HH.out]
      go_wp2
      go_ret2
      exact ⟨rfl, HR.out, HG.out⟩
    · exact absurd hst (by decide)

set_option maxHeartbeats 3200000 in
set_option maxRecDepth 100000 in
theorem ecs_plain4 (B b : Nat) (l : List Int) (k : Nat) (w : World) (h : Rs w B b l k) (hc : sgR (l.drop k) 0 = 118) :
    Calls Try.prog 54 #[.pointer (some ⟨b, 0, none⟩)] w (TR w B b l k 11 1) := by
  have HC := Lib.hid h
  have HS0 : Hid (Calls Try.prog 53 #[.pointer (some ⟨b, 0, none⟩), .int .i64 0] w fun e w' => e = .returned (.int .i64 (118)) ∧ ∃ n, w' = w.drewN n) := by rw [← hc]; exact sign_ref B b l k 0 w h (by omega)
  have HS1 : Hid (∀ W : World, Rs W B b l k → Calls Try.prog 53 #[.pointer (some ⟨b, 0, none⟩), .int .i64 1] W fun e w' => e = .returned (.int .i64 (sgR (l.drop k) 1)) ∧ ∃ n, w' = W.drewN n) := fun W hW => by exact sign_ref B b l k 1 W hW (by omega)
  clear h hc
  generalize sgR (l.drop k) 1 = d at HS1
  go_enter Try.func54, Try.ntmps54
  go_wp2_with fail
  refine HS0.out.mono ?_
  rintro e w1 ⟨rfl, n1, hw1⟩
  have HR1 : Hid (Rs w1 B b l k) := by rw [hw1]; exact Cu.drewN HC.out n1
  have HG1 : Hid (w.grownBy w1 (some b)) := by rw [hw1]; exact grown_drewN _ _ _
  clear hw1 HS0
  go_wp2_with fail
  refine (HS1.out _ HR1.out).mono ?_
  rintro e w2 ⟨rfl, n2, hw2⟩
  have HR2 : Hid (Rs w2 B b l k) := by rw [hw2]; exact Cu.drewN HR1.out n2
  have HG2 : Hid (w.grownBy w2 (some b)) := by rw [hw2]; exact HG1.out.trans (grown_drewN _ _ _)
  clear hw2 HS1 HR1 HG1
  have HR3 := Lib.hid (fresh_row HR2.out (.cells #[.int .i64 12, .int .i64 10, .int .i64 13, .int .i64 9, .int .i64 11] 3))
  have HG3 : Hid (w.grownBy (w2.alloc (.cells #[.int .i64 12, .int .i64 10, .int .i64 13, .int .i64 9, .int .i64 11] 3)) (some b)) := HG2.out.trans (below_grown (bl_alloc w2 _) _)
  have HH3 : Hid ((w2.alloc (.cells #[.int .i64 12, .int .i64 10, .int .i64 13, .int .i64 9, .int .i64 11] 3)).heap[w2.heap.size]? = some (.cells #[.int .i64 12, .int .i64 10, .int .i64 13, .int .i64 9, .int .i64 11] 3 (0, 0))) := (MapKept.heap_alloc w2 _).1
  go_wp2
  go_loopw [8] (fun iv wr => ∃ i : Nat, i ≤ 5 ∧ iv = .int .i64 (i : Nat) ∧ i ≤ 4 ∧ Hid (Rs wr B b l k) ∧ Hid (w.grownBy wr (some b)) ∧ Hid (wr.heap[w2.heap.size]? = some (.cells #[.int .i64 12, .int .i64 10, .int .i64 13, .int .i64 9, .int .i64 11] 3 (0, 0)))) (fun iv _ => 5 - (intOf iv).toNat)
  case atStart => exact ⟨0, by omega, rfl, by decide, HR3, HG3, HH3⟩
  case round =>
    clear HR3 HG3 HH3 HR2 HG2
    obtain ⟨i, hi, rfl, hst, HR, HG, HH⟩ := hrel
    rename World => wr
    have hcase : i = 5 ∨ i = 0 ∨ i = 1 ∨ i = 2 ∨ i = 3 ∨ i = 4 := by omega
    rcases hcase with rfl | rfl | rfl | rfl | rfl | rfl
    · exact absurd hst (by decide)
    · have hbf : (((⟨#[102, 110, 114, 116, 118]⟩ : ByteArray)[0]'(by decide)).toNat : Int) = 102 := rfl
      go_wp2
      go_roundw
      case rel => exact ⟨1, by decide, by rfl, by decide, HR, HG, HH⟩
      case measure => simp [intOf]
    · have hbf : (((⟨#[102, 110, 114, 116, 118]⟩ : ByteArray)[1]'(by decide)).toNat : Int) = 110 := rfl
      go_wp2
      go_roundw
      case rel => exact ⟨2, by decide, by rfl, by decide, HR, HG, HH⟩
      case measure => simp [intOf]
    · have hbf : (((⟨#[102, 110, 114, 116, 118]⟩ : ByteArray)[2]'(by decide)).toNat : Int) = 114 := rfl
      go_wp2
      go_roundw
      case rel => exact ⟨3, by decide, by rfl, by decide, HR, HG, HH⟩
      case measure => simp [intOf]
    · have hbf : (((⟨#[102, 110, 114, 116, 118]⟩ : ByteArray)[3]'(by decide)).toNat : Int) = 116 := rfl
      go_wp2
      go_roundw
      case rel => exact ⟨4, by decide, by rfl, by decide, HR, HG, HH⟩
      case measure => simp [intOf]
    · have hbf : (((⟨#[102, 110, 114, 116, 118]⟩ : ByteArray)[4]'(by decide)).toNat : Int) = 118 := rfl
      have hcell : wr.cell? ⟨w2.heap.size, 4, none⟩ = some (.int .i64 11) := by simp [World.cell?, HH.out]
      go_wp2
      go_ret2
      exact ⟨rfl, HR.out, HG.out⟩

set_option maxHeartbeats 3200000 in
set_option maxRecDepth 100000 in
theorem ecs_c_lo (B b : Nat) (l : List Int) (k : Nat) (w : World) (h : Rs w B b l k) (d : Int) (hc : sgR (l.drop k) 0 = 99) (hd : sgR (l.drop k) 1 = d) (h1 : 97 ≤ d) (h2 : d ≤ 122) :
    Calls Try.prog 54 #[.pointer (some ⟨b, 0, none⟩)] w (TR w B b l k (d % 32) 2) := by
  have HC := Lib.hid h
  have HS0 : Hid (Calls Try.prog 53 #[.pointer (some ⟨b, 0, none⟩), .int .i64 0] w fun e w' => e = .returned (.int .i64 (99)) ∧ ∃ n, w' = w.drewN n) := by rw [← hc]; exact sign_ref B b l k 0 w h (by omega)
  have HS1 : Hid (∀ W : World, Rs W B b l k → Calls Try.prog 53 #[.pointer (some ⟨b, 0, none⟩), .int .i64 1] W fun e w' => e = .returned (.int .i64 (d)) ∧ ∃ n, w' = W.drewN n) := fun W hW => by rw [← hd]; exact sign_ref B b l k 1 W hW (by omega)
  have hrem : Int.tmod d 32 = d % 32 := Int.tmod_eq_emod_of_nonneg (by omega)
  clear h hc
  clear hd
  go_enter Try.func54, Try.ntmps54
  go_wp2_with fail
  refine HS0.out.mono ?_
  rintro e w1 ⟨rfl, n1, hw1⟩
  have HR1 : Hid (Rs w1 B b l k) := by rw [hw1]; exact Cu.drewN HC.out n1
  have HG1 : Hid (w.grownBy w1 (some b)) := by rw [hw1]; exact grown_drewN _ _ _
  clear hw1 HS0
  go_wp2_with fail
  refine (HS1.out _ HR1.out).mono ?_
  rintro e w2 ⟨rfl, n2, hw2⟩
  have HR2 : Hid (Rs w2 B b l k) := by rw [hw2]; exact Cu.drewN HR1.out n2
  have HG2 : Hid (w.grownBy w2 (some b)) := by rw [hw2]; exact HG1.out.trans (grown_drewN _ _ _)
  clear hw2 HS1 HR1 HG1
  have HR3 := Lib.hid (fresh_row HR2.out (.cells #[.int .i64 12, .int .i64 10, .int .i64 13, .int .i64 9, .int .i64 11] 3))
  have HG3 : Hid (w.grownBy (w2.alloc (.cells #[.int .i64 12, .int .i64 10, .int .i64 13, .int .i64 9, .int .i64 11] 3)) (some b)) := HG2.out.trans (below_grown (bl_alloc w2 _) _)
  have HH3 : Hid ((w2.alloc (.cells #[.int .i64 12, .int .i64 10, .int .i64 13, .int .i64 9, .int .i64 11] 3)).heap[w2.heap.size]? = some (.cells #[.int .i64 12, .int .i64 10, .int .i64 13, .int .i64 9, .int .i64 11] 3 (0, 0))) := (MapKept.heap_alloc w2 _).1
  go_wp2
  go_loopw [8] (fun iv wr => ∃ i : Nat, i ≤ 5 ∧ iv = .int .i64 (i : Nat) ∧ True ∧ Hid (Rs wr B b l k) ∧ Hid (w.grownBy wr (some b)) ∧ Hid (wr.heap[w2.heap.size]? = some (.cells #[.int .i64 12, .int .i64 10, .int .i64 13, .int .i64 9, .int .i64 11] 3 (0, 0)))) (fun iv _ => 5 - (intOf iv).toNat)
  case atStart => exact ⟨0, by omega, rfl, trivial, HR3, HG3, HH3⟩
  case round =>
    clear HR3 HG3 HH3 HR2 HG2
    obtain ⟨i, hi, rfl, hst, HR, HG, HH⟩ := hrel
    rename World => wr
    have hcase : i = 5 ∨ i = 0 ∨ i = 1 ∨ i = 2 ∨ i = 3 ∨ i = 4 := by omega
    rcases hcase with rfl | rfl | rfl | rfl | rfl | rfl
    · go_wp2
      go_ret2
      exact ⟨rfl, HR.out, HG.out⟩
    · have hbf : (((⟨#[102, 110, 114, 116, 118]⟩ : ByteArray)[0]'(by decide)).toNat : Int) = 102 := rfl
      go_wp2
      go_roundw
      case rel => exact ⟨1, by decide, by rfl, trivial, HR, HG, HH⟩
      case measure => simp [intOf]
    · have hbf : (((⟨#[102, 110, 114, 116, 118]⟩ : ByteArray)[1]'(by decide)).toNat : Int) = 110 := rfl
      go_wp2
      go_roundw
      case rel => exact ⟨2, by decide, by rfl, trivial, HR, HG, HH⟩
      case measure => simp [intOf]
    · have hbf : (((⟨#[102, 110, 114, 116, 118]⟩ : ByteArray)[2]'(by decide)).toNat : Int) = 114 := rfl
      go_wp2
      go_roundw
      case rel => exact ⟨3, by decide, by rfl, trivial, HR, HG, HH⟩
      case measure => simp [intOf]
    · have hbf : (((⟨#[102, 110, 114, 116, 118]⟩ : ByteArray)[3]'(by decide)).toNat : Int) = 116 := rfl
      go_wp2
      go_roundw
      case rel => exact ⟨4, by decide, by rfl, trivial, HR, HG, HH⟩
      case measure => simp [intOf]
    · have hbf : (((⟨#[102, 110, 114, 116, 118]⟩ : ByteArray)[4]'(by decide)).toNat : Int) = 118 := rfl
      go_wp2
      go_roundw
      case rel => exact ⟨5, by decide, by rfl, trivial, HR, HG, HH⟩
      case measure => simp [intOf]

set_option maxHeartbeats 3200000 in
set_option maxRecDepth 100000 in
theorem ecs_c_up (B b : Nat) (l : List Int) (k : Nat) (w : World) (h : Rs w B b l k) (d : Int) (hc : sgR (l.drop k) 0 = 99) (hd : sgR (l.drop k) 1 = d) (h1 : 65 ≤ d) (h2 : d ≤ 90) :
    Calls Try.prog 54 #[.pointer (some ⟨b, 0, none⟩)] w (TR w B b l k (d % 32) 2) := by
  have HC := Lib.hid h
  have HS0 : Hid (Calls Try.prog 53 #[.pointer (some ⟨b, 0, none⟩), .int .i64 0] w fun e w' => e = .returned (.int .i64 (99)) ∧ ∃ n, w' = w.drewN n) := by rw [← hc]; exact sign_ref B b l k 0 w h (by omega)
  have HS1 : Hid (∀ W : World, Rs W B b l k → Calls Try.prog 53 #[.pointer (some ⟨b, 0, none⟩), .int .i64 1] W fun e w' => e = .returned (.int .i64 (d)) ∧ ∃ n, w' = W.drewN n) := fun W hW => by rw [← hd]; exact sign_ref B b l k 1 W hW (by omega)
  have hrem : Int.tmod d 32 = d % 32 := Int.tmod_eq_emod_of_nonneg (by omega)
  clear h hc
  clear hd
  go_enter Try.func54, Try.ntmps54
  go_wp2_with fail
  refine HS0.out.mono ?_
  rintro e w1 ⟨rfl, n1, hw1⟩
  have HR1 : Hid (Rs w1 B b l k) := by rw [hw1]; exact Cu.drewN HC.out n1
  have HG1 : Hid (w.grownBy w1 (some b)) := by rw [hw1]; exact grown_drewN _ _ _
  clear hw1 HS0
  go_wp2_with fail
  refine (HS1.out _ HR1.out).mono ?_
  rintro e w2 ⟨rfl, n2, hw2⟩
  have HR2 : Hid (Rs w2 B b l k) := by rw [hw2]; exact Cu.drewN HR1.out n2
  have HG2 : Hid (w.grownBy w2 (some b)) := by rw [hw2]; exact HG1.out.trans (grown_drewN _ _ _)
  clear hw2 HS1 HR1 HG1
  have HR3 := Lib.hid (fresh_row HR2.out (.cells #[.int .i64 12, .int .i64 10, .int .i64 13, .int .i64 9, .int .i64 11] 3))
  have HG3 : Hid (w.grownBy (w2.alloc (.cells #[.int .i64 12, .int .i64 10, .int .i64 13, .int .i64 9, .int .i64 11] 3)) (some b)) := HG2.out.trans (below_grown (bl_alloc w2 _) _)
  have HH3 : Hid ((w2.alloc (.cells #[.int .i64 12, .int .i64 10, .int .i64 13, .int .i64 9, .int .i64 11] 3)).heap[w2.heap.size]? = some (.cells #[.int .i64 12, .int .i64 10, .int .i64 13, .int .i64 9, .int .i64 11] 3 (0, 0))) := (MapKept.heap_alloc w2 _).1
  go_wp2
  go_loopw [8] (fun iv wr => ∃ i : Nat, i ≤ 5 ∧ iv = .int .i64 (i : Nat) ∧ True ∧ Hid (Rs wr B b l k) ∧ Hid (w.grownBy wr (some b)) ∧ Hid (wr.heap[w2.heap.size]? = some (.cells #[.int .i64 12, .int .i64 10, .int .i64 13, .int .i64 9, .int .i64 11] 3 (0, 0)))) (fun iv _ => 5 - (intOf iv).toNat)
  case atStart => exact ⟨0, by omega, rfl, trivial, HR3, HG3, HH3⟩
  case round =>
    clear HR3 HG3 HH3 HR2 HG2
    obtain ⟨i, hi, rfl, hst, HR, HG, HH⟩ := hrel
    rename World => wr
    have hcase : i = 5 ∨ i = 0 ∨ i = 1 ∨ i = 2 ∨ i = 3 ∨ i = 4 := by omega
    rcases hcase with rfl | rfl | rfl | rfl | rfl | rfl
    · go_wp2
      go_ret2
      exact ⟨rfl, HR.out, HG.out⟩
    · have hbf : (((⟨#[102, 110, 114, 116, 118]⟩ : ByteArray)[0]'(by decide)).toNat : Int) = 102 := rfl
      go_wp2
      go_roundw
      case rel => exact ⟨1, by decide, by rfl, trivial, HR, HG, HH⟩
      case measure => simp [intOf]
    · have hbf : (((⟨#[102, 110, 114, 116, 118]⟩ : ByteArray)[1]'(by decide)).toNat : Int) = 110 := rfl
      go_wp2
      go_roundw
      case rel => exact ⟨2, by decide, by rfl, trivial, HR, HG, HH⟩
      case measure => simp [intOf]
    · have hbf : (((⟨#[102, 110, 114, 116, 118]⟩ : ByteArray)[2]'(by decide)).toNat : Int) = 114 := rfl
      go_wp2
      go_roundw
      case rel => exact ⟨3, by decide, by rfl, trivial, HR, HG, HH⟩
      case measure => simp [intOf]
    · have hbf : (((⟨#[102, 110, 114, 116, 118]⟩ : ByteArray)[3]'(by decide)).toNat : Int) = 116 := rfl
      go_wp2
      go_roundw
      case rel => exact ⟨4, by decide, by rfl, trivial, HR, HG, HH⟩
      case measure => simp [intOf]
    · have hbf : (((⟨#[102, 110, 114, 116, 118]⟩ : ByteArray)[4]'(by decide)).toNat : Int) = 118 := rfl
      go_wp2
      go_roundw
      case rel => exact ⟨5, by decide, by rfl, trivial, HR, HG, HH⟩
      case measure => simp [intOf]

set_option maxHeartbeats 3200000 in
set_option maxRecDepth 100000 in
theorem ecs_c_noa (B b : Nat) (l : List Int) (k : Nat) (w : World) (h : Rs w B b l k) (d : Int) (hc : sgR (l.drop k) 0 = 99) (hd : sgR (l.drop k) 1 = d) (h1 : d < 65) :
    Calls Try.prog 54 #[.pointer (some ⟨b, 0, none⟩)] w (TR w B b l k 0 0) := by
  have HC := Lib.hid h
  have HS0 : Hid (Calls Try.prog 53 #[.pointer (some ⟨b, 0, none⟩), .int .i64 0] w fun e w' => e = .returned (.int .i64 (99)) ∧ ∃ n, w' = w.drewN n) := by rw [← hc]; exact sign_ref B b l k 0 w h (by omega)
  have HS1 : Hid (∀ W : World, Rs W B b l k → Calls Try.prog 53 #[.pointer (some ⟨b, 0, none⟩), .int .i64 1] W fun e w' => e = .returned (.int .i64 (d)) ∧ ∃ n, w' = W.drewN n) := fun W hW => by rw [← hd]; exact sign_ref B b l k 1 W hW (by omega)
  clear h hc
  clear hd
  go_enter Try.func54, Try.ntmps54
  go_wp2_with fail
  refine HS0.out.mono ?_
  rintro e w1 ⟨rfl, n1, hw1⟩
  have HR1 : Hid (Rs w1 B b l k) := by rw [hw1]; exact Cu.drewN HC.out n1
  have HG1 : Hid (w.grownBy w1 (some b)) := by rw [hw1]; exact grown_drewN _ _ _
  clear hw1 HS0
  go_wp2_with fail
  refine (HS1.out _ HR1.out).mono ?_
  rintro e w2 ⟨rfl, n2, hw2⟩
  have HR2 : Hid (Rs w2 B b l k) := by rw [hw2]; exact Cu.drewN HR1.out n2
  have HG2 : Hid (w.grownBy w2 (some b)) := by rw [hw2]; exact HG1.out.trans (grown_drewN _ _ _)
  clear hw2 HS1 HR1 HG1
  have HR3 := Lib.hid (fresh_row HR2.out (.cells #[.int .i64 12, .int .i64 10, .int .i64 13, .int .i64 9, .int .i64 11] 3))
  have HG3 : Hid (w.grownBy (w2.alloc (.cells #[.int .i64 12, .int .i64 10, .int .i64 13, .int .i64 9, .int .i64 11] 3)) (some b)) := HG2.out.trans (below_grown (bl_alloc w2 _) _)
  have HH3 : Hid ((w2.alloc (.cells #[.int .i64 12, .int .i64 10, .int .i64 13, .int .i64 9, .int .i64 11] 3)).heap[w2.heap.size]? = some (.cells #[.int .i64 12, .int .i64 10, .int .i64 13, .int .i64 9, .int .i64 11] 3 (0, 0))) := (MapKept.heap_alloc w2 _).1
  go_wp2
  go_loopw [8] (fun iv wr => ∃ i : Nat, i ≤ 5 ∧ iv = .int .i64 (i : Nat) ∧ True ∧ Hid (Rs wr B b l k) ∧ Hid (w.grownBy wr (some b)) ∧ Hid (wr.heap[w2.heap.size]? = some (.cells #[.int .i64 12, .int .i64 10, .int .i64 13, .int .i64 9, .int .i64 11] 3 (0, 0)))) (fun iv _ => 5 - (intOf iv).toNat)
  case atStart => exact ⟨0, by omega, rfl, trivial, HR3, HG3, HH3⟩
  case round =>
    clear HR3 HG3 HH3 HR2 HG2
    obtain ⟨i, hi, rfl, hst, HR, HG, HH⟩ := hrel
    rename World => wr
    have hcase : i = 5 ∨ i = 0 ∨ i = 1 ∨ i = 2 ∨ i = 3 ∨ i = 4 := by omega
    rcases hcase with rfl | rfl | rfl | rfl | rfl | rfl
    · go_wp2
      have HR9 := HR
      have HG9 := HG
      clear HR HG HH
      go_loopw [15] (fun iv wr => ∃ i : Nat, i ≤ 15 ∧ iv = .int .i64 (i : Nat) ∧ True ∧ Hid (Rs wr B b l k) ∧ Hid (w.grownBy wr (some b))) (fun iv _ => 15 - (intOf iv).toNat)
      case atStart => exact ⟨0, by omega, rfl, trivial, HR9, HG9⟩
      case round =>
        clear HR9 HG9
        obtain ⟨i, hi, rfl, HSEEN, HR, HG⟩ := hrel
        rename World => wr
        have hcase : i = 15 ∨ i = 0 ∨ i = 1 ∨ i = 2 ∨ i = 3 ∨ i = 4 ∨ i = 5 ∨ i = 6 ∨ i = 7 ∨ i = 8 ∨ i = 9 ∨ i = 10 ∨ i = 11 ∨ i = 12 ∨ i = 13 ∨ i = 14 := by omega
        rcases hcase with rfl | rfl | rfl | rfl | rfl | rfl | rfl | rfl | rfl | rfl | rfl | rfl | rfl | rfl | rfl | rfl
        · go_wp2
          go_ret2
          exact ⟨rfl, HR.out, HG.out⟩
        · have hbf : (((⟨#[94, 36, 92, 46, 42, 43, 63, 40, 41, 91, 93, 123, 125, 124, 47]⟩ : ByteArray)[0]'(by decide)).toNat : Int) = 94 := rfl
          go_wp2
          go_roundw
          case rel => exact ⟨1, by decide, by rfl, trivial, HR, HG⟩
          case measure => simp [intOf]
        · have hbf : (((⟨#[94, 36, 92, 46, 42, 43, 63, 40, 41, 91, 93, 123, 125, 124, 47]⟩ : ByteArray)[1]'(by decide)).toNat : Int) = 36 := rfl
          go_wp2
          go_roundw
          case rel => exact ⟨2, by decide, by rfl, trivial, HR, HG⟩
          case measure => simp [intOf]
        · have hbf : (((⟨#[94, 36, 92, 46, 42, 43, 63, 40, 41, 91, 93, 123, 125, 124, 47]⟩ : ByteArray)[2]'(by decide)).toNat : Int) = 92 := rfl
          go_wp2
          go_roundw
          case rel => exact ⟨3, by decide, by rfl, trivial, HR, HG⟩
          case measure => simp [intOf]
        · have hbf : (((⟨#[94, 36, 92, 46, 42, 43, 63, 40, 41, 91, 93, 123, 125, 124, 47]⟩ : ByteArray)[3]'(by decide)).toNat : Int) = 46 := rfl
          go_wp2
          go_roundw
          case rel => exact ⟨4, by decide, by rfl, trivial, HR, HG⟩
          case measure => simp [intOf]
        · have hbf : (((⟨#[94, 36, 92, 46, 42, 43, 63, 40, 41, 91, 93, 123, 125, 124, 47]⟩ : ByteArray)[4]'(by decide)).toNat : Int) = 42 := rfl
          go_wp2
          go_roundw
          case rel => exact ⟨5, by decide, by rfl, trivial, HR, HG⟩
          case measure => simp [intOf]
        · have hbf : (((⟨#[94, 36, 92, 46, 42, 43, 63, 40, 41, 91, 93, 123, 125, 124, 47]⟩ : ByteArray)[5]'(by decide)).toNat : Int) = 43 := rfl
          go_wp2
          go_roundw
          case rel => exact ⟨6, by decide, by rfl, trivial, HR, HG⟩
          case measure => simp [intOf]
        · have hbf : (((⟨#[94, 36, 92, 46, 42, 43, 63, 40, 41, 91, 93, 123, 125, 124, 47]⟩ : ByteArray)[6]'(by decide)).toNat : Int) = 63 := rfl
          go_wp2
          go_roundw
          case rel => exact ⟨7, by decide, by rfl, trivial, HR, HG⟩
          case measure => simp [intOf]
        · have hbf : (((⟨#[94, 36, 92, 46, 42, 43, 63, 40, 41, 91, 93, 123, 125, 124, 47]⟩ : ByteArray)[7]'(by decide)).toNat : Int) = 40 := rfl
          go_wp2
          go_roundw
          case rel => exact ⟨8, by decide, by rfl, trivial, HR, HG⟩
          case measure => simp [intOf]
        · have hbf : (((⟨#[94, 36, 92, 46, 42, 43, 63, 40, 41, 91, 93, 123, 125, 124, 47]⟩ : ByteArray)[8]'(by decide)).toNat : Int) = 41 := rfl
          go_wp2
          go_roundw
          case rel => exact ⟨9, by decide, by rfl, trivial, HR, HG⟩
          case measure => simp [intOf]
        · have hbf : (((⟨#[94, 36, 92, 46, 42, 43, 63, 40, 41, 91, 93, 123, 125, 124, 47]⟩ : ByteArray)[9]'(by decide)).toNat : Int) = 91 := rfl
          go_wp2
          go_roundw
          case rel => exact ⟨10, by decide, by rfl, trivial, HR, HG⟩
          case measure => simp [intOf]
        · have hbf : (((⟨#[94, 36, 92, 46, 42, 43, 63, 40, 41, 91, 93, 123, 125, 124, 47]⟩ : ByteArray)[10]'(by decide)).toNat : Int) = 93 := rfl
          go_wp2
          go_roundw
          case rel => exact ⟨11, by decide, by rfl, trivial, HR, HG⟩
          case measure => simp [intOf]
        · have hbf : (((⟨#[94, 36, 92, 46, 42, 43, 63, 40, 41, 91, 93, 123, 125, 124, 47]⟩ : ByteArray)[11]'(by decide)).toNat : Int) = 123 := rfl
          go_wp2
          go_roundw
          case rel => exact ⟨12, by decide, by rfl, trivial, HR, HG⟩
          case measure => simp [intOf]
        · have hbf : (((⟨#[94, 36, 92, 46, 42, 43, 63, 40, 41, 91, 93, 123, 125, 124, 47]⟩ : ByteArray)[12]'(by decide)).toNat : Int) = 125 := rfl
          go_wp2
          go_roundw
          case rel => exact ⟨13, by decide, by rfl, trivial, HR, HG⟩
          case measure => simp [intOf]
        · have hbf : (((⟨#[94, 36, 92, 46, 42, 43, 63, 40, 41, 91, 93, 123, 125, 124, 47]⟩ : ByteArray)[13]'(by decide)).toNat : Int) = 124 := rfl
          go_wp2
          go_roundw
          case rel => exact ⟨14, by decide, by rfl, trivial, HR, HG⟩
          case measure => simp [intOf]
        · have hbf : (((⟨#[94, 36, 92, 46, 42, 43, 63, 40, 41, 91, 93, 123, 125, 124, 47]⟩ : ByteArray)[14]'(by decide)).toNat : Int) = 47 := rfl
          go_wp2
          go_roundw
          case rel => exact ⟨15, by decide, by rfl, trivial, HR, HG⟩
          case measure => simp [intOf]
    · have hbf : (((⟨#[102, 110, 114, 116, 118]⟩ : ByteArray)[0]'(by decide)).toNat : Int) = 102 := rfl
      go_wp2
      go_roundw
      case rel => exact ⟨1, by decide, by rfl, trivial, HR, HG, HH⟩
      case measure => simp [intOf]
    · have hbf : (((⟨#[102, 110, 114, 116, 118]⟩ : ByteArray)[1]'(by decide)).toNat : Int) = 110 := rfl
      go_wp2
      go_roundw
      case rel => exact ⟨2, by decide, by rfl, trivial, HR, HG, HH⟩
      case measure => simp [intOf]
    · have hbf : (((⟨#[102, 110, 114, 116, 118]⟩ : ByteArray)[2]'(by decide)).toNat : Int) = 114 := rfl
      go_wp2
      go_roundw
      case rel => exact ⟨3, by decide, by rfl, trivial, HR, HG, HH⟩
      case measure => simp [intOf]
    · have hbf : (((⟨#[102, 110, 114, 116, 118]⟩ : ByteArray)[3]'(by decide)).toNat : Int) = 116 := rfl
      go_wp2
      go_roundw
      case rel => exact ⟨4, by decide, by rfl, trivial, HR, HG, HH⟩
      case measure => simp [intOf]
    · have hbf : (((⟨#[102, 110, 114, 116, 118]⟩ : ByteArray)[4]'(by decide)).toNat : Int) = 118 := rfl
      go_wp2
      go_roundw
      case rel => exact ⟨5, by decide, by rfl, trivial, HR, HG, HH⟩
      case measure => simp [intOf]

set_option maxHeartbeats 3200000 in
set_option maxRecDepth 100000 in
theorem ecs_c_nob (B b : Nat) (l : List Int) (k : Nat) (w : World) (h : Rs w B b l k) (d : Int) (hc : sgR (l.drop k) 0 = 99) (hd : sgR (l.drop k) 1 = d) (h1 : 90 < d) (h2 : d < 97) :
    Calls Try.prog 54 #[.pointer (some ⟨b, 0, none⟩)] w (TR w B b l k 0 0) := by
  have HC := Lib.hid h
  have HS0 : Hid (Calls Try.prog 53 #[.pointer (some ⟨b, 0, none⟩), .int .i64 0] w fun e w' => e = .returned (.int .i64 (99)) ∧ ∃ n, w' = w.drewN n) := by rw [← hc]; exact sign_ref B b l k 0 w h (by omega)
  have HS1 : Hid (∀ W : World, Rs W B b l k → Calls Try.prog 53 #[.pointer (some ⟨b, 0, none⟩), .int .i64 1] W fun e w' => e = .returned (.int .i64 (d)) ∧ ∃ n, w' = W.drewN n) := fun W hW => by rw [← hd]; exact sign_ref B b l k 1 W hW (by omega)
  clear h hc
  clear hd
  go_enter Try.func54, Try.ntmps54
  go_wp2_with fail
  refine HS0.out.mono ?_
  rintro e w1 ⟨rfl, n1, hw1⟩
  have HR1 : Hid (Rs w1 B b l k) := by rw [hw1]; exact Cu.drewN HC.out n1
  have HG1 : Hid (w.grownBy w1 (some b)) := by rw [hw1]; exact grown_drewN _ _ _
  clear hw1 HS0
  go_wp2_with fail
  refine (HS1.out _ HR1.out).mono ?_
  rintro e w2 ⟨rfl, n2, hw2⟩
  have HR2 : Hid (Rs w2 B b l k) := by rw [hw2]; exact Cu.drewN HR1.out n2
  have HG2 : Hid (w.grownBy w2 (some b)) := by rw [hw2]; exact HG1.out.trans (grown_drewN _ _ _)
  clear hw2 HS1 HR1 HG1
  have HR3 := Lib.hid (fresh_row HR2.out (.cells #[.int .i64 12, .int .i64 10, .int .i64 13, .int .i64 9, .int .i64 11] 3))
  have HG3 : Hid (w.grownBy (w2.alloc (.cells #[.int .i64 12, .int .i64 10, .int .i64 13, .int .i64 9, .int .i64 11] 3)) (some b)) := HG2.out.trans (below_grown (bl_alloc w2 _) _)
  have HH3 : Hid ((w2.alloc (.cells #[.int .i64 12, .int .i64 10, .int .i64 13, .int .i64 9, .int .i64 11] 3)).heap[w2.heap.size]? = some (.cells #[.int .i64 12, .int .i64 10, .int .i64 13, .int .i64 9, .int .i64 11] 3 (0, 0))) := (MapKept.heap_alloc w2 _).1
  go_wp2
  go_loopw [8] (fun iv wr => ∃ i : Nat, i ≤ 5 ∧ iv = .int .i64 (i : Nat) ∧ True ∧ Hid (Rs wr B b l k) ∧ Hid (w.grownBy wr (some b)) ∧ Hid (wr.heap[w2.heap.size]? = some (.cells #[.int .i64 12, .int .i64 10, .int .i64 13, .int .i64 9, .int .i64 11] 3 (0, 0)))) (fun iv _ => 5 - (intOf iv).toNat)
  case atStart => exact ⟨0, by omega, rfl, trivial, HR3, HG3, HH3⟩
  case round =>
    clear HR3 HG3 HH3 HR2 HG2
    obtain ⟨i, hi, rfl, hst, HR, HG, HH⟩ := hrel
    rename World => wr
    have hcase : i = 5 ∨ i = 0 ∨ i = 1 ∨ i = 2 ∨ i = 3 ∨ i = 4 := by omega
    rcases hcase with rfl | rfl | rfl | rfl | rfl | rfl
    · go_wp2
      have HR9 := HR
      have HG9 := HG
      clear HR HG HH
      go_loopw [15] (fun iv wr => ∃ i : Nat, i ≤ 15 ∧ iv = .int .i64 (i : Nat) ∧ True ∧ Hid (Rs wr B b l k) ∧ Hid (w.grownBy wr (some b))) (fun iv _ => 15 - (intOf iv).toNat)
      case atStart => exact ⟨0, by omega, rfl, trivial, HR9, HG9⟩
      case round =>
        clear HR9 HG9
        obtain ⟨i, hi, rfl, HSEEN, HR, HG⟩ := hrel
        rename World => wr
        have hcase : i = 15 ∨ i = 0 ∨ i = 1 ∨ i = 2 ∨ i = 3 ∨ i = 4 ∨ i = 5 ∨ i = 6 ∨ i = 7 ∨ i = 8 ∨ i = 9 ∨ i = 10 ∨ i = 11 ∨ i = 12 ∨ i = 13 ∨ i = 14 := by omega
        rcases hcase with rfl | rfl | rfl | rfl | rfl | rfl | rfl | rfl | rfl | rfl | rfl | rfl | rfl | rfl | rfl | rfl
        · go_wp2
          go_ret2
          exact ⟨rfl, HR.out, HG.out⟩
        · have hbf : (((⟨#[94, 36, 92, 46, 42, 43, 63, 40, 41, 91, 93, 123, 125, 124, 47]⟩ : ByteArray)[0]'(by decide)).toNat : Int) = 94 := rfl
          go_wp2
          go_roundw
          case rel => exact ⟨1, by decide, by rfl, trivial, HR, HG⟩
          case measure => simp [intOf]
        · have hbf : (((⟨#[94, 36, 92, 46, 42, 43, 63, 40, 41, 91, 93, 123, 125, 124, 47]⟩ : ByteArray)[1]'(by decide)).toNat : Int) = 36 := rfl
          go_wp2
          go_roundw
          case rel => exact ⟨2, by decide, by rfl, trivial, HR, HG⟩
          case measure => simp [intOf]
        · have hbf : (((⟨#[94, 36, 92, 46, 42, 43, 63, 40, 41, 91, 93, 123, 125, 124, 47]⟩ : ByteArray)[2]'(by decide)).toNat : Int) = 92 := rfl
          go_wp2
          go_roundw
          case rel => exact ⟨3, by decide, by rfl, trivial, HR, HG⟩
          case measure => simp [intOf]
        · have hbf : (((⟨#[94, 36, 92, 46, 42, 43, 63, 40, 41, 91, 93, 123, 125, 124, 47]⟩ : ByteArray)[3]'(by decide)).toNat : Int) = 46 := rfl
          go_wp2
          go_roundw
          case rel => exact ⟨4, by decide, by rfl, trivial, HR, HG⟩
          case measure => simp [intOf]
        · have hbf : (((⟨#[94, 36, 92, 46, 42, 43, 63, 40, 41, 91, 93, 123, 125, 124, 47]⟩ : ByteArray)[4]'(by decide)).toNat : Int) = 42 := rfl
          go_wp2
          go_roundw
          case rel => exact ⟨5, by decide, by rfl, trivial, HR, HG⟩
          case measure => simp [intOf]
        · have hbf : (((⟨#[94, 36, 92, 46, 42, 43, 63, 40, 41, 91, 93, 123, 125, 124, 47]⟩ : ByteArray)[5]'(by decide)).toNat : Int) = 43 := rfl
          go_wp2
          go_roundw
          case rel => exact ⟨6, by decide, by rfl, trivial, HR, HG⟩
          case measure => simp [intOf]
        · have hbf : (((⟨#[94, 36, 92, 46, 42, 43, 63, 40, 41, 91, 93, 123, 125, 124, 47]⟩ : ByteArray)[6]'(by decide)).toNat : Int) = 63 := rfl
          go_wp2
          go_roundw
          case rel => exact ⟨7, by decide, by rfl, trivial, HR, HG⟩
          case measure => simp [intOf]
        · have hbf : (((⟨#[94, 36, 92, 46, 42, 43, 63, 40, 41, 91, 93, 123, 125, 124, 47]⟩ : ByteArray)[7]'(by decide)).toNat : Int) = 40 := rfl
          go_wp2
          go_roundw
          case rel => exact ⟨8, by decide, by rfl, trivial, HR, HG⟩
          case measure => simp [intOf]
        · have hbf : (((⟨#[94, 36, 92, 46, 42, 43, 63, 40, 41, 91, 93, 123, 125, 124, 47]⟩ : ByteArray)[8]'(by decide)).toNat : Int) = 41 := rfl
          go_wp2
          go_roundw
          case rel => exact ⟨9, by decide, by rfl, trivial, HR, HG⟩
          case measure => simp [intOf]
        · have hbf : (((⟨#[94, 36, 92, 46, 42, 43, 63, 40, 41, 91, 93, 123, 125, 124, 47]⟩ : ByteArray)[9]'(by decide)).toNat : Int) = 91 := rfl
          go_wp2
          go_roundw
          case rel => exact ⟨10, by decide, by rfl, trivial, HR, HG⟩
          case measure => simp [intOf]
        · have hbf : (((⟨#[94, 36, 92, 46, 42, 43, 63, 40, 41, 91, 93, 123, 125, 124, 47]⟩ : ByteArray)[10]'(by decide)).toNat : Int) = 93 := rfl
          go_wp2
          go_roundw
          case rel => exact ⟨11, by decide, by rfl, trivial, HR, HG⟩
          case measure => simp [intOf]
        · have hbf : (((⟨#[94, 36, 92, 46, 42, 43, 63, 40, 41, 91, 93, 123, 125, 124, 47]⟩ : ByteArray)[11]'(by decide)).toNat : Int) = 123 := rfl
          go_wp2
          go_roundw
          case rel => exact ⟨12, by decide, by rfl, trivial, HR, HG⟩
          case measure => simp [intOf]
        · have hbf : (((⟨#[94, 36, 92, 46, 42, 43, 63, 40, 41, 91, 93, 123, 125, 124, 47]⟩ : ByteArray)[12]'(by decide)).toNat : Int) = 125 := rfl
          go_wp2
          go_roundw
          case rel => exact ⟨13, by decide, by rfl, trivial, HR, HG⟩
          case measure => simp [intOf]
        · have hbf : (((⟨#[94, 36, 92, 46, 42, 43, 63, 40, 41, 91, 93, 123, 125, 124, 47]⟩ : ByteArray)[13]'(by decide)).toNat : Int) = 124 := rfl
          go_wp2
          go_roundw
          case rel => exact ⟨14, by decide, by rfl, trivial, HR, HG⟩
          case measure => simp [intOf]
        · have hbf : (((⟨#[94, 36, 92, 46, 42, 43, 63, 40, 41, 91, 93, 123, 125, 124, 47]⟩ : ByteArray)[14]'(by decide)).toNat : Int) = 47 := rfl
          go_wp2
          go_roundw
          case rel => exact ⟨15, by decide, by rfl, trivial, HR, HG⟩
          case measure => simp [intOf]
    · have hbf : (((⟨#[102, 110, 114, 116, 118]⟩ : ByteArray)[0]'(by decide)).toNat : Int) = 102 := rfl
      go_wp2
      go_roundw
      case rel => exact ⟨1, by decide, by rfl, trivial, HR, HG, HH⟩
      case measure => simp [intOf]
    · have hbf : (((⟨#[102, 110, 114, 116, 118]⟩ : ByteArray)[1]'(by decide)).toNat : Int) = 110 := rfl
      go_wp2
      go_roundw
      case rel => exact ⟨2, by decide, by rfl, trivial, HR, HG, HH⟩
      case measure => simp [intOf]
    · have hbf : (((⟨#[102, 110, 114, 116, 118]⟩ : ByteArray)[2]'(by decide)).toNat : Int) = 114 := rfl
      go_wp2
      go_roundw
      case rel => exact ⟨3, by decide, by rfl, trivial, HR, HG, HH⟩
      case measure => simp [intOf]
    · have hbf : (((⟨#[102, 110, 114, 116, 118]⟩ : ByteArray)[3]'(by decide)).toNat : Int) = 116 := rfl
      go_wp2
      go_roundw
      case rel => exact ⟨4, by decide, by rfl, trivial, HR, HG, HH⟩
      case measure => simp [intOf]
    · have hbf : (((⟨#[102, 110, 114, 116, 118]⟩ : ByteArray)[4]'(by decide)).toNat : Int) = 118 := rfl
      go_wp2
      go_roundw
      case rel => exact ⟨5, by decide, by rfl, trivial, HR, HG, HH⟩
      case measure => simp [intOf]

set_option maxHeartbeats 3200000 in
set_option maxRecDepth 100000 in
theorem ecs_c_noe (B b : Nat) (l : List Int) (k : Nat) (w : World) (h : Rs w B b l k) (d : Int) (hc : sgR (l.drop k) 0 = 99) (hd : sgR (l.drop k) 1 = d) (h1 : 122 < d) :
    Calls Try.prog 54 #[.pointer (some ⟨b, 0, none⟩)] w (TR w B b l k 0 0) := by
  have HC := Lib.hid h
  have HS0 : Hid (Calls Try.prog 53 #[.pointer (some ⟨b, 0, none⟩), .int .i64 0] w fun e w' => e = .returned (.int .i64 (99)) ∧ ∃ n, w' = w.drewN n) := by rw [← hc]; exact sign_ref B b l k 0 w h (by omega)
  have HS1 : Hid (∀ W : World, Rs W B b l k → Calls Try.prog 53 #[.pointer (some ⟨b, 0, none⟩), .int .i64 1] W fun e w' => e = .returned (.int .i64 (d)) ∧ ∃ n, w' = W.drewN n) := fun W hW => by rw [← hd]; exact sign_ref B b l k 1 W hW (by omega)
  clear h hc
  clear hd
  go_enter Try.func54, Try.ntmps54
  go_wp2_with fail
  refine HS0.out.mono ?_
  rintro e w1 ⟨rfl, n1, hw1⟩
  have HR1 : Hid (Rs w1 B b l k) := by rw [hw1]; exact Cu.drewN HC.out n1
  have HG1 : Hid (w.grownBy w1 (some b)) := by rw [hw1]; exact grown_drewN _ _ _
  clear hw1 HS0
  go_wp2_with fail
  refine (HS1.out _ HR1.out).mono ?_
  rintro e w2 ⟨rfl, n2, hw2⟩
  have HR2 : Hid (Rs w2 B b l k) := by rw [hw2]; exact Cu.drewN HR1.out n2
  have HG2 : Hid (w.grownBy w2 (some b)) := by rw [hw2]; exact HG1.out.trans (grown_drewN _ _ _)
  clear hw2 HS1 HR1 HG1
  have HR3 := Lib.hid (fresh_row HR2.out (.cells #[.int .i64 12, .int .i64 10, .int .i64 13, .int .i64 9, .int .i64 11] 3))
  have HG3 : Hid (w.grownBy (w2.alloc (.cells #[.int .i64 12, .int .i64 10, .int .i64 13, .int .i64 9, .int .i64 11] 3)) (some b)) := HG2.out.trans (below_grown (bl_alloc w2 _) _)
  have HH3 : Hid ((w2.alloc (.cells #[.int .i64 12, .int .i64 10, .int .i64 13, .int .i64 9, .int .i64 11] 3)).heap[w2.heap.size]? = some (.cells #[.int .i64 12, .int .i64 10, .int .i64 13, .int .i64 9, .int .i64 11] 3 (0, 0))) := (MapKept.heap_alloc w2 _).1
  go_wp2
  go_loopw [8] (fun iv wr => ∃ i : Nat, i ≤ 5 ∧ iv = .int .i64 (i : Nat) ∧ True ∧ Hid (Rs wr B b l k) ∧ Hid (w.grownBy wr (some b)) ∧ Hid (wr.heap[w2.heap.size]? = some (.cells #[.int .i64 12, .int .i64 10, .int .i64 13, .int .i64 9, .int .i64 11] 3 (0, 0)))) (fun iv _ => 5 - (intOf iv).toNat)
  case atStart => exact ⟨0, by omega, rfl, trivial, HR3, HG3, HH3⟩
  case round =>
    clear HR3 HG3 HH3 HR2 HG2
    obtain ⟨i, hi, rfl, hst, HR, HG, HH⟩ := hrel
    rename World => wr
    have hcase : i = 5 ∨ i = 0 ∨ i = 1 ∨ i = 2 ∨ i = 3 ∨ i = 4 := by omega
    rcases hcase with rfl | rfl | rfl | rfl | rfl | rfl
    · go_wp2
      have HR9 := HR
      have HG9 := HG
      clear HR HG HH
      go_loopw [15] (fun iv wr => ∃ i : Nat, i ≤ 15 ∧ iv = .int .i64 (i : Nat) ∧ True ∧ Hid (Rs wr B b l k) ∧ Hid (w.grownBy wr (some b))) (fun iv _ => 15 - (intOf iv).toNat)
      case atStart => exact ⟨0, by omega, rfl, trivial, HR9, HG9⟩
      case round =>
        clear HR9 HG9
        obtain ⟨i, hi, rfl, HSEEN, HR, HG⟩ := hrel
        rename World => wr
        have hcase : i = 15 ∨ i = 0 ∨ i = 1 ∨ i = 2 ∨ i = 3 ∨ i = 4 ∨ i = 5 ∨ i = 6 ∨ i = 7 ∨ i = 8 ∨ i = 9 ∨ i = 10 ∨ i = 11 ∨ i = 12 ∨ i = 13 ∨ i = 14 := by omega
        rcases hcase with rfl | rfl | rfl | rfl | rfl | rfl | rfl | rfl | rfl | rfl | rfl | rfl | rfl | rfl | rfl | rfl
        · go_wp2
          go_ret2
          exact ⟨rfl, HR.out, HG.out⟩
        · have hbf : (((⟨#[94, 36, 92, 46, 42, 43, 63, 40, 41, 91, 93, 123, 125, 124, 47]⟩ : ByteArray)[0]'(by decide)).toNat : Int) = 94 := rfl
          go_wp2
          go_roundw
          case rel => exact ⟨1, by decide, by rfl, trivial, HR, HG⟩
          case measure => simp [intOf]
        · have hbf : (((⟨#[94, 36, 92, 46, 42, 43, 63, 40, 41, 91, 93, 123, 125, 124, 47]⟩ : ByteArray)[1]'(by decide)).toNat : Int) = 36 := rfl
          go_wp2
          go_roundw
          case rel => exact ⟨2, by decide, by rfl, trivial, HR, HG⟩
          case measure => simp [intOf]
        · have hbf : (((⟨#[94, 36, 92, 46, 42, 43, 63, 40, 41, 91, 93, 123, 125, 124, 47]⟩ : ByteArray)[2]'(by decide)).toNat : Int) = 92 := rfl
          go_wp2
          go_roundw
          case rel => exact ⟨3, by decide, by rfl, trivial, HR, HG⟩
          case measure => simp [intOf]
        · have hbf : (((⟨#[94, 36, 92, 46, 42, 43, 63, 40, 41, 91, 93, 123, 125, 124, 47]⟩ : ByteArray)[3]'(by decide)).toNat : Int) = 46 := rfl
          go_wp2
          go_roundw
          case rel => exact ⟨4, by decide, by rfl, trivial, HR, HG⟩
          case measure => simp [intOf]
        · have hbf : (((⟨#[94, 36, 92, 46, 42, 43, 63, 40, 41, 91, 93, 123, 125, 124, 47]⟩ : ByteArray)[4]'(by decide)).toNat : Int) = 42 := rfl
          go_wp2
          go_roundw
          case rel => exact ⟨5, by decide, by rfl, trivial, HR, HG⟩
          case measure => simp [intOf]
        · have hbf : (((⟨#[94, 36, 92, 46, 42, 43, 63, 40, 41, 91, 93, 123, 125, 124, 47]⟩ : ByteArray)[5]'(by decide)).toNat : Int) = 43 := rfl
          go_wp2
          go_roundw
          case rel => exact ⟨6, by decide, by rfl, trivial, HR, HG⟩
          case measure => simp [intOf]
        · have hbf : (((⟨#[94, 36, 92, 46, 42, 43, 63, 40, 41, 91, 93, 123, 125, 124, 47]⟩ : ByteArray)[6]'(by decide)).toNat : Int) = 63 := rfl
          go_wp2
          go_roundw
          case rel => exact ⟨7, by decide, by rfl, trivial, HR, HG⟩
          case measure => simp [intOf]
        · have hbf : (((⟨#[94, 36, 92, 46, 42, 43, 63, 40, 41, 91, 93, 123, 125, 124, 47]⟩ : ByteArray)[7]'(by decide)).toNat : Int) = 40 := rfl
          go_wp2
          go_roundw
          case rel => exact ⟨8, by decide, by rfl, trivial, HR, HG⟩
          case measure => simp [intOf]
        · have hbf : (((⟨#[94, 36, 92, 46, 42, 43, 63, 40, 41, 91, 93, 123, 125, 124, 47]⟩ : ByteArray)[8]'(by decide)).toNat : Int) = 41 := rfl
          go_wp2
          go_roundw
          case rel => exact ⟨9, by decide, by rfl, trivial, HR, HG⟩
          case measure => simp [intOf]
        · have hbf : (((⟨#[94, 36, 92, 46, 42, 43, 63, 40, 41, 91, 93, 123, 125, 124, 47]⟩ : ByteArray)[9]'(by decide)).toNat : Int) = 91 := rfl
          go_wp2
          go_roundw
          case rel => exact ⟨10, by decide, by rfl, trivial, HR, HG⟩
          case measure => simp [intOf]
        · have hbf : (((⟨#[94, 36, 92, 46, 42, 43, 63, 40, 41, 91, 93, 123, 125, 124, 47]⟩ : ByteArray)[10]'(by decide)).toNat : Int) = 93 := rfl
          go_wp2
          go_roundw
          case rel => exact ⟨11, by decide, by rfl, trivial, HR, HG⟩
          case measure => simp [intOf]
        · have hbf : (((⟨#[94, 36, 92, 46, 42, 43, 63, 40, 41, 91, 93, 123, 125, 124, 47]⟩ : ByteArray)[11]'(by decide)).toNat : Int) = 123 := rfl
          go_wp2
          go_roundw
          case rel => exact ⟨12, by decide, by rfl, trivial, HR, HG⟩
          case measure => simp [intOf]
        · have hbf : (((⟨#[94, 36, 92, 46, 42, 43, 63, 40, 41, 91, 93, 123, 125, 124, 47]⟩ : ByteArray)[12]'(by decide)).toNat : Int) = 125 := rfl
          go_wp2
          go_roundw
          case rel => exact ⟨13, by decide, by rfl, trivial, HR, HG⟩
          case measure => simp [intOf]
        · have hbf : (((⟨#[94, 36, 92, 46, 42, 43, 63, 40, 41, 91, 93, 123, 125, 124, 47]⟩ : ByteArray)[13]'(by decide)).toNat : Int) = 124 := rfl
          go_wp2
          go_roundw
          case rel => exact ⟨14, by decide, by rfl, trivial, HR, HG⟩
          case measure => simp [intOf]
        · have hbf : (((⟨#[94, 36, 92, 46, 42, 43, 63, 40, 41, 91, 93, 123, 125, 124, 47]⟩ : ByteArray)[14]'(by decide)).toNat : Int) = 47 := rfl
          go_wp2
          go_roundw
          case rel => exact ⟨15, by decide, by rfl, trivial, HR, HG⟩
          case measure => simp [intOf]
    · have hbf : (((⟨#[102, 110, 114, 116, 118]⟩ : ByteArray)[0]'(by decide)).toNat : Int) = 102 := rfl
      go_wp2
      go_roundw
      case rel => exact ⟨1, by decide, by rfl, trivial, HR, HG, HH⟩
      case measure => simp [intOf]
    · have hbf : (((⟨#[102, 110, 114, 116, 118]⟩ : ByteArray)[1]'(by decide)).toNat : Int) = 110 := rfl
      go_wp2
      go_roundw
      case rel => exact ⟨2, by decide, by rfl, trivial, HR, HG, HH⟩
      case measure => simp [intOf]
    · have hbf : (((⟨#[102, 110, 114, 116, 118]⟩ : ByteArray)[2]'(by decide)).toNat : Int) = 114 := rfl
      go_wp2
      go_roundw
      case rel => exact ⟨3, by decide, by rfl, trivial, HR, HG, HH⟩
      case measure => simp [intOf]
    · have hbf : (((⟨#[102, 110, 114, 116, 118]⟩ : ByteArray)[3]'(by decide)).toNat : Int) = 116 := rfl
      go_wp2
      go_roundw
      case rel => exact ⟨4, by decide, by rfl, trivial, HR, HG, HH⟩
      case measure => simp [intOf]
    · have hbf : (((⟨#[102, 110, 114, 116, 118]⟩ : ByteArray)[4]'(by decide)).toNat : Int) = 118 := rfl
      go_wp2
      go_roundw
      case rel => exact ⟨5, by decide, by rfl, trivial, HR, HG, HH⟩
      case measure => simp [intOf]

set_option maxHeartbeats 3200000 in
set_option maxRecDepth 100000 in
theorem ecs_0_a (B b : Nat) (l : List Int) (k : Nat) (w : World) (h : Rs w B b l k) (d : Int) (hc : sgR (l.drop k) 0 = 48) (hd : sgR (l.drop k) 1 = d) (h1 : d < 48) :
    Calls Try.prog 54 #[.pointer (some ⟨b, 0, none⟩)] w (TR w B b l k 0 1) := by
  have HC := Lib.hid h
  have HS0 : Hid (Calls Try.prog 53 #[.pointer (some ⟨b, 0, none⟩), .int .i64 0] w fun e w' => e = .returned (.int .i64 (48)) ∧ ∃ n, w' = w.drewN n) := by rw [← hc]; exact sign_ref B b l k 0 w h (by omega)
  have HS1 : Hid (∀ W : World, Rs W B b l k → Calls Try.prog 53 #[.pointer (some ⟨b, 0, none⟩), .int .i64 1] W fun e w' => e = .returned (.int .i64 (d)) ∧ ∃ n, w' = W.drewN n) := fun W hW => by rw [← hd]; exact sign_ref B b l k 1 W hW (by omega)
  clear h hc
  clear hd
  go_enter Try.func54, Try.ntmps54
  go_wp2_with fail
  refine HS0.out.mono ?_
  rintro e w1 ⟨rfl, n1, hw1⟩
  have HR1 : Hid (Rs w1 B b l k) := by rw [hw1]; exact Cu.drewN HC.out n1
  have HG1 : Hid (w.grownBy w1 (some b)) := by rw [hw1]; exact grown_drewN _ _ _
  clear hw1 HS0
  go_wp2_with fail
  refine (HS1.out _ HR1.out).mono ?_
  rintro e w2 ⟨rfl, n2, hw2⟩
  have HR2 : Hid (Rs w2 B b l k) := by rw [hw2]; exact Cu.drewN HR1.out n2
  have HG2 : Hid (w.grownBy w2 (some b)) := by rw [hw2]; exact HG1.out.trans (grown_drewN _ _ _)
  clear hw2 HS1 HR1 HG1
  have HR3 := Lib.hid (fresh_row HR2.out (.cells #[.int .i64 12, .int .i64 10, .int .i64 13, .int .i64 9, .int .i64 11] 3))
  have HG3 : Hid (w.grownBy (w2.alloc (.cells #[.int .i64 12, .int .i64 10, .int .i64 13, .int .i64 9, .int .i64 11] 3)) (some b)) := HG2.out.trans (below_grown (bl_alloc w2 _) _)
  have HH3 : Hid ((w2.alloc (.cells #[.int .i64 12, .int .i64 10, .int .i64 13, .int .i64 9, .int .i64 11] 3)).heap[w2.heap.size]? = some (.cells #[.int .i64 12, .int .i64 10, .int .i64 13, .int .i64 9, .int .i64 11] 3 (0, 0))) := (MapKept.heap_alloc w2 _).1
  go_wp2
  go_loopw [8] (fun iv wr => ∃ i : Nat, i ≤ 5 ∧ iv = .int .i64 (i : Nat) ∧ True ∧ Hid (Rs wr B b l k) ∧ Hid (w.grownBy wr (some b)) ∧ Hid (wr.heap[w2.heap.size]? = some (.cells #[.int .i64 12, .int .i64 10, .int .i64 13, .int .i64 9, .int .i64 11] 3 (0, 0)))) (fun iv _ => 5 - (intOf iv).toNat)
  case atStart => exact ⟨0, by omega, rfl, trivial, HR3, HG3, HH3⟩
  case round =>
    clear HR3 HG3 HH3 HR2 HG2
    obtain ⟨i, hi, rfl, hst, HR, HG, HH⟩ := hrel
    rename World => wr
    have hcase : i = 5 ∨ i = 0 ∨ i = 1 ∨ i = 2 ∨ i = 3 ∨ i = 4 := by omega
    rcases hcase with rfl | rfl | rfl | rfl | rfl | rfl
    · go_wp2
      go_ret2
      exact ⟨rfl, HR.out, HG.out⟩
    · have hbf : (((⟨#[102, 110, 114, 116, 118]⟩ : ByteArray)[0]'(by decide)).toNat : Int) = 102 := rfl
      go_wp2
      go_roundw
      case rel => exact ⟨1, by decide, by rfl, trivial, HR, HG, HH⟩
      case measure => simp [intOf]
    · have hbf : (((⟨#[102, 110, 114, 116, 118]⟩ : ByteArray)[1]'(by decide)).toNat : Int) = 110 := rfl
      go_wp2
      go_roundw
      case rel => exact ⟨2, by decide, by rfl, trivial, HR, HG, HH⟩
      case measure => simp [intOf]
    · have hbf : (((⟨#[102, 110, 114, 116, 118]⟩ : ByteArray)[2]'(by decide)).toNat : Int) = 114 := rfl
      go_wp2
      go_roundw
      case rel => exact ⟨3, by decide, by rfl, trivial, HR, HG, HH⟩
      case measure => simp [intOf]
    · have hbf : (((⟨#[102, 110, 114, 116, 118]⟩ : ByteArray)[3]'(by decide)).toNat : Int) = 116 := rfl
      go_wp2
      go_roundw
      case rel => exact ⟨4, by decide, by rfl, trivial, HR, HG, HH⟩
      case measure => simp [intOf]
    · have hbf : (((⟨#[102, 110, 114, 116, 118]⟩ : ByteArray)[4]'(by decide)).toNat : Int) = 118 := rfl
      go_wp2
      go_roundw
      case rel => exact ⟨5, by decide, by rfl, trivial, HR, HG, HH⟩
      case measure => simp [intOf]

set_option maxHeartbeats 3200000 in
set_option maxRecDepth 100000 in
theorem ecs_0_b (B b : Nat) (l : List Int) (k : Nat) (w : World) (h : Rs w B b l k) (d : Int) (hc : sgR (l.drop k) 0 = 48) (hd : sgR (l.drop k) 1 = d) (h1 : 57 < d) :
    Calls Try.prog 54 #[.pointer (some ⟨b, 0, none⟩)] w (TR w B b l k 0 1) := by
  have HC := Lib.hid h
  have HS0 : Hid (Calls Try.prog 53 #[.pointer (some ⟨b, 0, none⟩), .int .i64 0] w fun e w' => e = .returned (.int .i64 (48)) ∧ ∃ n, w' = w.drewN n) := by rw [← hc]; exact sign_ref B b l k 0 w h (by omega)
  have HS1 : Hid (∀ W : World, Rs W B b l k → Calls Try.prog 53 #[.pointer (some ⟨b, 0, none⟩), .int .i64 1] W fun e w' => e = .returned (.int .i64 (d)) ∧ ∃ n, w' = W.drewN n) := fun W hW => by rw [← hd]; exact sign_ref B b l k 1 W hW (by omega)
  clear h hc
  clear hd
  go_enter Try.func54, Try.ntmps54
  go_wp2_with fail
  refine HS0.out.mono ?_
  rintro e w1 ⟨rfl, n1, hw1⟩
  have HR1 : Hid (Rs w1 B b l k) := by rw [hw1]; exact Cu.drewN HC.out n1
  have HG1 : Hid (w.grownBy w1 (some b)) := by rw [hw1]; exact grown_drewN _ _ _
  clear hw1 HS0
  go_wp2_with fail
  refine (HS1.out _ HR1.out).mono ?_
  rintro e w2 ⟨rfl, n2, hw2⟩
  have HR2 : Hid (Rs w2 B b l k) := by rw [hw2]; exact Cu.drewN HR1.out n2
  have HG2 : Hid (w.grownBy w2 (some b)) := by rw [hw2]; exact HG1.out.trans (grown_drewN _ _ _)
  clear hw2 HS1 HR1 HG1
  have HR3 := Lib.hid (fresh_row HR2.out (.cells #[.int .i64 12, .int .i64 10, .int .i64 13, .int .i64 9, .int .i64 11] 3))
  have HG3 : Hid (w.grownBy (w2.alloc (.cells #[.int .i64 12, .int .i64 10, .int .i64 13, .int .i64 9, .int .i64 11] 3)) (some b)) := HG2.out.trans (below_grown (bl_alloc w2 _) _)
  have HH3 : Hid ((w2.alloc (.cells #[.int .i64 12, .int .i64 10, .int .i64 13, .int .i64 9, .int .i64 11] 3)).heap[w2.heap.size]? = some (.cells #[.int .i64 12, .int .i64 10, .int .i64 13, .int .i64 9, .int .i64 11] 3 (0, 0))) := (MapKept.heap_alloc w2 _).1
  go_wp2
  go_loopw [8] (fun iv wr => ∃ i : Nat, i ≤ 5 ∧ iv = .int .i64 (i : Nat) ∧ True ∧ Hid (Rs wr B b l k) ∧ Hid (w.grownBy wr (some b)) ∧ Hid (wr.heap[w2.heap.size]? = some (.cells #[.int .i64 12, .int .i64 10, .int .i64 13, .int .i64 9, .int .i64 11] 3 (0, 0)))) (fun iv _ => 5 - (intOf iv).toNat)
  case atStart => exact ⟨0, by omega, rfl, trivial, HR3, HG3, HH3⟩
  case round =>
    clear HR3 HG3 HH3 HR2 HG2
    obtain ⟨i, hi, rfl, hst, HR, HG, HH⟩ := hrel
    rename World => wr
    have hcase : i = 5 ∨ i = 0 ∨ i = 1 ∨ i = 2 ∨ i = 3 ∨ i = 4 := by omega
    rcases hcase with rfl | rfl | rfl | rfl | rfl | rfl
    · go_wp2
      go_ret2
      exact ⟨rfl, HR.out, HG.out⟩
    · have hbf : (((⟨#[102, 110, 114, 116, 118]⟩ : ByteArray)[0]'(by decide)).toNat : Int) = 102 := rfl
      go_wp2
      go_roundw
      case rel => exact ⟨1, by decide, by rfl, trivial, HR, HG, HH⟩
      case measure => simp [intOf]
    · have hbf : (((⟨#[102, 110, 114, 116, 118]⟩ : ByteArray)[1]'(by decide)).toNat : Int) = 110 := rfl
      go_wp2
      go_roundw
      case rel => exact ⟨2, by decide, by rfl, trivial, HR, HG, HH⟩
      case measure => simp [intOf]
    · have hbf : (((⟨#[102, 110, 114, 116, 118]⟩ : ByteArray)[2]'(by decide)).toNat : Int) = 114 := rfl
      go_wp2
      go_roundw
      case rel => exact ⟨3, by decide, by rfl, trivial, HR, HG, HH⟩
      case measure => simp [intOf]
    · have hbf : (((⟨#[102, 110, 114, 116, 118]⟩ : ByteArray)[3]'(by decide)).toNat : Int) = 116 := rfl
      go_wp2
      go_roundw
      case rel => exact ⟨4, by decide, by rfl, trivial, HR, HG, HH⟩
      case measure => simp [intOf]
    · have hbf : (((⟨#[102, 110, 114, 116, 118]⟩ : ByteArray)[4]'(by decide)).toNat : Int) = 118 := rfl
      go_wp2
      go_roundw
      case rel => exact ⟨5, by decide, by rfl, trivial, HR, HG, HH⟩
      case measure => simp [intOf]

set_option maxHeartbeats 3200000 in
set_option maxRecDepth 100000 in
theorem ecs_0_no (B b : Nat) (l : List Int) (k : Nat) (w : World) (h : Rs w B b l k) (d : Int) (hc : sgR (l.drop k) 0 = 48) (hd : sgR (l.drop k) 1 = d) (h1 : 48 ≤ d) (h2 : d ≤ 57) :
    Calls Try.prog 54 #[.pointer (some ⟨b, 0, none⟩)] w (TR w B b l k 0 0) := by
  have HC := Lib.hid h
  have HS0 : Hid (Calls Try.prog 53 #[.pointer (some ⟨b, 0, none⟩), .int .i64 0] w fun e w' => e = .returned (.int .i64 (48)) ∧ ∃ n, w' = w.drewN n) := by rw [← hc]; exact sign_ref B b l k 0 w h (by omega)
  have HS1 : Hid (∀ W : World, Rs W B b l k → Calls Try.prog 53 #[.pointer (some ⟨b, 0, none⟩), .int .i64 1] W fun e w' => e = .returned (.int .i64 (d)) ∧ ∃ n, w' = W.drewN n) := fun W hW => by rw [← hd]; exact sign_ref B b l k 1 W hW (by omega)
  clear h hc
  clear hd
  go_enter Try.func54, Try.ntmps54
  go_wp2_with fail
  refine HS0.out.mono ?_
  rintro e w1 ⟨rfl, n1, hw1⟩
  have HR1 : Hid (Rs w1 B b l k) := by rw [hw1]; exact Cu.drewN HC.out n1
  have HG1 : Hid (w.grownBy w1 (some b)) := by rw [hw1]; exact grown_drewN _ _ _
  clear hw1 HS0
  go_wp2_with fail
  refine (HS1.out _ HR1.out).mono ?_
  rintro e w2 ⟨rfl, n2, hw2⟩
  have HR2 : Hid (Rs w2 B b l k) := by rw [hw2]; exact Cu.drewN HR1.out n2
  have HG2 : Hid (w.grownBy w2 (some b)) := by rw [hw2]; exact HG1.out.trans (grown_drewN _ _ _)
  clear hw2 HS1 HR1 HG1
  have HR3 := Lib.hid (fresh_row HR2.out (.cells #[.int .i64 12, .int .i64 10, .int .i64 13, .int .i64 9, .int .i64 11] 3))
  have HG3 : Hid (w.grownBy (w2.alloc (.cells #[.int .i64 12, .int .i64 10, .int .i64 13, .int .i64 9, .int .i64 11] 3)) (some b)) := HG2.out.trans (below_grown (bl_alloc w2 _) _)
  have HH3 : Hid ((w2.alloc (.cells #[.int .i64 12, .int .i64 10, .int .i64 13, .int .i64 9, .int .i64 11] 3)).heap[w2.heap.size]? = some (.cells #[.int .i64 12, .int .i64 10, .int .i64 13, .int .i64 9, .int .i64 11] 3 (0, 0))) := (MapKept.heap_alloc w2 _).1
  go_wp2
  go_loopw [8] (fun iv wr => ∃ i : Nat, i ≤ 5 ∧ iv = .int .i64 (i : Nat) ∧ True ∧ Hid (Rs wr B b l k) ∧ Hid (w.grownBy wr (some b)) ∧ Hid (wr.heap[w2.heap.size]? = some (.cells #[.int .i64 12, .int .i64 10, .int .i64 13, .int .i64 9, .int .i64 11] 3 (0, 0)))) (fun iv _ => 5 - (intOf iv).toNat)
  case atStart => exact ⟨0, by omega, rfl, trivial, HR3, HG3, HH3⟩
  case round =>
    clear HR3 HG3 HH3 HR2 HG2
    obtain ⟨i, hi, rfl, hst, HR, HG, HH⟩ := hrel
    rename World => wr
    have hcase : i = 5 ∨ i = 0 ∨ i = 1 ∨ i = 2 ∨ i = 3 ∨ i = 4 := by omega
    rcases hcase with rfl | rfl | rfl | rfl | rfl | rfl
    · go_wp2
      have HR9 := HR
      have HG9 := HG
      clear HR HG HH
      go_loopw [15] (fun iv wr => ∃ i : Nat, i ≤ 15 ∧ iv = .int .i64 (i : Nat) ∧ True ∧ Hid (Rs wr B b l k) ∧ Hid (w.grownBy wr (some b))) (fun iv _ => 15 - (intOf iv).toNat)
      case atStart => exact ⟨0, by omega, rfl, trivial, HR9, HG9⟩
      case round =>
        clear HR9 HG9
        obtain ⟨i, hi, rfl, HSEEN, HR, HG⟩ := hrel
        rename World => wr
        have hcase : i = 15 ∨ i = 0 ∨ i = 1 ∨ i = 2 ∨ i = 3 ∨ i = 4 ∨ i = 5 ∨ i = 6 ∨ i = 7 ∨ i = 8 ∨ i = 9 ∨ i = 10 ∨ i = 11 ∨ i = 12 ∨ i = 13 ∨ i = 14 := by omega
        rcases hcase with rfl | rfl | rfl | rfl | rfl | rfl | rfl | rfl | rfl | rfl | rfl | rfl | rfl | rfl | rfl | rfl
        · go_wp2
          go_ret2
          exact ⟨rfl, HR.out, HG.out⟩
        · have hbf : (((⟨#[94, 36, 92, 46, 42, 43, 63, 40, 41, 91, 93, 123, 125, 124, 47]⟩ : ByteArray)[0]'(by decide)).toNat : Int) = 94 := rfl
          go_wp2
          go_roundw
          case rel => exact ⟨1, by decide, by rfl, trivial, HR, HG⟩
          case measure => simp [intOf]
        · have hbf : (((⟨#[94, 36, 92, 46, 42, 43, 63, 40, 41, 91, 93, 123, 125, 124, 47]⟩ : ByteArray)[1]'(by decide)).toNat : Int) = 36 := rfl
          go_wp2
          go_roundw
          case rel => exact ⟨2, by decide, by rfl, trivial, HR, HG⟩
          case measure => simp [intOf]
        · have hbf : (((⟨#[94, 36, 92, 46, 42, 43, 63, 40, 41, 91, 93, 123, 125, 124, 47]⟩ : ByteArray)[2]'(by decide)).toNat : Int) = 92 := rfl
          go_wp2
          go_roundw
          case rel => exact ⟨3, by decide, by rfl, trivial, HR, HG⟩
          case measure => simp [intOf]
        · have hbf : (((⟨#[94, 36, 92, 46, 42, 43, 63, 40, 41, 91, 93, 123, 125, 124, 47]⟩ : ByteArray)[3]'(by decide)).toNat : Int) = 46 := rfl
          go_wp2
          go_roundw
          case rel => exact ⟨4, by decide, by rfl, trivial, HR, HG⟩
          case measure => simp [intOf]
        · have hbf : (((⟨#[94, 36, 92, 46, 42, 43, 63, 40, 41, 91, 93, 123, 125, 124, 47]⟩ : ByteArray)[4]'(by decide)).toNat : Int) = 42 := rfl
          go_wp2
          go_roundw
          case rel => exact ⟨5, by decide, by rfl, trivial, HR, HG⟩
          case measure => simp [intOf]
        · have hbf : (((⟨#[94, 36, 92, 46, 42, 43, 63, 40, 41, 91, 93, 123, 125, 124, 47]⟩ : ByteArray)[5]'(by decide)).toNat : Int) = 43 := rfl
          go_wp2
          go_roundw
          case rel => exact ⟨6, by decide, by rfl, trivial, HR, HG⟩
          case measure => simp [intOf]
        · have hbf : (((⟨#[94, 36, 92, 46, 42, 43, 63, 40, 41, 91, 93, 123, 125, 124, 47]⟩ : ByteArray)[6]'(by decide)).toNat : Int) = 63 := rfl
          go_wp2
          go_roundw
          case rel => exact ⟨7, by decide, by rfl, trivial, HR, HG⟩
          case measure => simp [intOf]
        · have hbf : (((⟨#[94, 36, 92, 46, 42, 43, 63, 40, 41, 91, 93, 123, 125, 124, 47]⟩ : ByteArray)[7]'(by decide)).toNat : Int) = 40 := rfl
          go_wp2
          go_roundw
          case rel => exact ⟨8, by decide, by rfl, trivial, HR, HG⟩
          case measure => simp [intOf]
        · have hbf : (((⟨#[94, 36, 92, 46, 42, 43, 63, 40, 41, 91, 93, 123, 125, 124, 47]⟩ : ByteArray)[8]'(by decide)).toNat : Int) = 41 := rfl
          go_wp2
          go_roundw
          case rel => exact ⟨9, by decide, by rfl, trivial, HR, HG⟩
          case measure => simp [intOf]
        · have hbf : (((⟨#[94, 36, 92, 46, 42, 43, 63, 40, 41, 91, 93, 123, 125, 124, 47]⟩ : ByteArray)[9]'(by decide)).toNat : Int) = 91 := rfl
          go_wp2
          go_roundw
          case rel => exact ⟨10, by decide, by rfl, trivial, HR, HG⟩
          case measure => simp [intOf]
        · have hbf : (((⟨#[94, 36, 92, 46, 42, 43, 63, 40, 41, 91, 93, 123, 125, 124, 47]⟩ : ByteArray)[10]'(by decide)).toNat : Int) = 93 := rfl
          go_wp2
          go_roundw
          case rel => exact ⟨11, by decide, by rfl, trivial, HR, HG⟩
          case measure => simp [intOf]
        · have hbf : (((⟨#[94, 36, 92, 46, 42, 43, 63, 40, 41, 91, 93, 123, 125, 124, 47]⟩ : ByteArray)[11]'(by decide)).toNat : Int) = 123 := rfl
          go_wp2
          go_roundw
          case rel => exact ⟨12, by decide, by rfl, trivial, HR, HG⟩
          case measure => simp [intOf]
        · have hbf : (((⟨#[94, 36, 92, 46, 42, 43, 63, 40, 41, 91, 93, 123, 125, 124, 47]⟩ : ByteArray)[12]'(by decide)).toNat : Int) = 125 := rfl
          go_wp2
          go_roundw
          case rel => exact ⟨13, by decide, by rfl, trivial, HR, HG⟩
          case measure => simp [intOf]
        · have hbf : (((⟨#[94, 36, 92, 46, 42, 43, 63, 40, 41, 91, 93, 123, 125, 124, 47]⟩ : ByteArray)[13]'(by decide)).toNat : Int) = 124 := rfl
          go_wp2
          go_roundw
          case rel => exact ⟨14, by decide, by rfl, trivial, HR, HG⟩
          case measure => simp [intOf]
        · have hbf : (((⟨#[94, 36, 92, 46, 42, 43, 63, 40, 41, 91, 93, 123, 125, 124, 47]⟩ : ByteArray)[14]'(by decide)).toNat : Int) = 47 := rfl
          go_wp2
          go_roundw
          case rel => exact ⟨15, by decide, by rfl, trivial, HR, HG⟩
          case measure => simp [intOf]
    · have hbf : (((⟨#[102, 110, 114, 116, 118]⟩ : ByteArray)[0]'(by decide)).toNat : Int) = 102 := rfl
      go_wp2
      go_roundw
      case rel => exact ⟨1, by decide, by rfl, trivial, HR, HG, HH⟩
      case measure => simp [intOf]
    · have hbf : (((⟨#[102, 110, 114, 116, 118]⟩ : ByteArray)[1]'(by decide)).toNat : Int) = 110 := rfl
      go_wp2
      go_roundw
      case rel => exact ⟨2, by decide, by rfl, trivial, HR, HG, HH⟩
      case measure => simp [intOf]
    · have hbf : (((⟨#[102, 110, 114, 116, 118]⟩ : ByteArray)[2]'(by decide)).toNat : Int) = 114 := rfl
      go_wp2
      go_roundw
      case rel => exact ⟨3, by decide, by rfl, trivial, HR, HG, HH⟩
      case measure => simp [intOf]
    · have hbf : (((⟨#[102, 110, 114, 116, 118]⟩ : ByteArray)[3]'(by decide)).toNat : Int) = 116 := rfl
      go_wp2
      go_roundw
      case rel => exact ⟨4, by decide, by rfl, trivial, HR, HG, HH⟩
      case measure => simp [intOf]
    · have hbf : (((⟨#[102, 110, 114, 116, 118]⟩ : ByteArray)[4]'(by decide)).toNat : Int) = 118 := rfl
      go_wp2
      go_roundw
      case rel => exact ⟨5, by decide, by rfl, trivial, HR, HG, HH⟩
      case measure => simp [intOf]

set_option maxHeartbeats 3200000 in
set_option maxRecDepth 100000 in
theorem ecs_x (B b : Nat) (l : List Int) (k : Nat) (w : World) (h : Rs w B b l k) (x : Int) (hc : sgR (l.drop k) 0 = 120) (hx : hxsR 2 (l.drop (k + 1)) = x) (h1 : 0 ≤ x) :
    Calls Try.prog 54 #[.pointer (some ⟨b, 0, none⟩)] w (TR w B b l k x 3) := by
  have HC := Lib.hid h
  have HS0 : Hid (Calls Try.prog 53 #[.pointer (some ⟨b, 0, none⟩), .int .i64 0] w fun e w' => e = .returned (.int .i64 (120)) ∧ ∃ n, w' = w.drewN n) := by rw [← hc]; exact sign_ref B b l k 0 w h (by omega)
  have HS1 : Hid (∀ W : World, Rs W B b l k → Calls Try.prog 53 #[.pointer (some ⟨b, 0, none⟩), .int .i64 1] W fun e w' => e = .returned (.int .i64 (sgR (l.drop k) 1)) ∧ ∃ n, w' = W.drewN n) := fun W hW => by exact sign_ref B b l k 1 W hW (by omega)
  have HX2 : Hid (∀ W : World, Rs W B b l k → Calls Try.prog 59 #[.pointer (some ⟨b, 0, none⟩), .int .i64 1, .int .i64 2] W fun e w' => e = .returned (.int .i64 (x)) ∧ ∃ n, w' = W.drewN n) := fun W hW => by rw [← hx]; exact hexes_ref B b l k 1 2 W hW (by omega) (by omega)
  clear hx
  clear h hc
  generalize sgR (l.drop k) 1 = d at HS1
  go_enter Try.func54, Try.ntmps54
  go_wp2_with fail
  refine HS0.out.mono ?_
  rintro e w1 ⟨rfl, n1, hw1⟩
  have HR1 : Hid (Rs w1 B b l k) := by rw [hw1]; exact Cu.drewN HC.out n1
  have HG1 : Hid (w.grownBy w1 (some b)) := by rw [hw1]; exact grown_drewN _ _ _
  clear hw1 HS0
  go_wp2_with fail
  refine (HS1.out _ HR1.out).mono ?_
  rintro e w2 ⟨rfl, n2, hw2⟩
  have HR2 : Hid (Rs w2 B b l k) := by rw [hw2]; exact Cu.drewN HR1.out n2
  have HG2 : Hid (w.grownBy w2 (some b)) := by rw [hw2]; exact HG1.out.trans (grown_drewN _ _ _)
  clear hw2 HS1 HR1 HG1
  have HR3 := Lib.hid (fresh_row HR2.out (.cells #[.int .i64 12, .int .i64 10, .int .i64 13, .int .i64 9, .int .i64 11] 3))
  have HG3 : Hid (w.grownBy (w2.alloc (.cells #[.int .i64 12, .int .i64 10, .int .i64 13, .int .i64 9, .int .i64 11] 3)) (some b)) := HG2.out.trans (below_grown (bl_alloc w2 _) _)
  have HH3 : Hid ((w2.alloc (.cells #[.int .i64 12, .int .i64 10, .int .i64 13, .int .i64 9, .int .i64 11] 3)).heap[w2.heap.size]? = some (.cells #[.int .i64 12, .int .i64 10, .int .i64 13, .int .i64 9, .int .i64 11] 3 (0, 0))) := (MapKept.heap_alloc w2 _).1
  go_wp2
  go_loopw [8] (fun iv wr => ∃ i : Nat, i ≤ 5 ∧ iv = .int .i64 (i : Nat) ∧ True ∧ Hid (Rs wr B b l k) ∧ Hid (w.grownBy wr (some b)) ∧ Hid (wr.heap[w2.heap.size]? = some (.cells #[.int .i64 12, .int .i64 10, .int .i64 13, .int .i64 9, .int .i64 11] 3 (0, 0)))) (fun iv _ => 5 - (intOf iv).toNat)
  case atStart => exact ⟨0, by omega, rfl, trivial, HR3, HG3, HH3⟩
  case round =>
    clear HR3 HG3 HH3 HR2 HG2
    obtain ⟨i, hi, rfl, hst, HR, HG, HH⟩ := hrel
    rename World => wr
    have hcase : i = 5 ∨ i = 0 ∨ i = 1 ∨ i = 2 ∨ i = 3 ∨ i = 4 := by omega
    rcases hcase with rfl | rfl | rfl | rfl | rfl | rfl
    · go_wp2_with (go_at_call 59; refine (HX2.out _ HR.out).mono ?_; rintro e w9 ⟨rfl, n9, hw9⟩; have HR9 : Hid (Rs w9 B b l k) := by { rw [hw9]; exact Cu.drewN HR.out n9 }; have HG9 : Hid (w.grownBy w9 (some b)) := by { rw [hw9]; exact HG.out.trans (grown_drewN _ _ _) }; clear hw9)
      refine (HX2.out _ HR9.out).mono ?_
      rintro e w10 ⟨rfl, n10, hw10⟩
      have HR10 : Hid (Rs w10 B b l k) := by rw [hw10]; exact Cu.drewN HR9.out n10
      have HG10 : Hid (w.grownBy w10 (some b)) := by rw [hw10]; exact HG9.out.trans (grown_drewN _ _ _)
      clear hw10
      go_wp2
      go_ret2
      exact ⟨rfl, HR10.out, HG10.out⟩
    · have hbf : (((⟨#[102, 110, 114, 116, 118]⟩ : ByteArray)[0]'(by decide)).toNat : Int) = 102 := rfl
      go_wp2
      go_roundw
      case rel => exact ⟨1, by decide, by rfl, trivial, HR, HG, HH⟩
      case measure => simp [intOf]
    · have hbf : (((⟨#[102, 110, 114, 116, 118]⟩ : ByteArray)[1]'(by decide)).toNat : Int) = 110 := rfl
      go_wp2
      go_roundw
      case rel => exact ⟨2, by decide, by rfl, trivial, HR, HG, HH⟩
      case measure => simp [intOf]
    · have hbf : (((⟨#[102, 110, 114, 116, 118]⟩ : ByteArray)[2]'(by decide)).toNat : Int) = 114 := rfl
      go_wp2
      go_roundw
      case rel => exact ⟨3, by decide, by rfl, trivial, HR, HG, HH⟩
      case measure => simp [intOf]
    · have hbf : (((⟨#[102, 110, 114, 116, 118]⟩ : ByteArray)[3]'(by decide)).toNat : Int) = 116 := rfl
      go_wp2
      go_roundw
      case rel => exact ⟨4, by decide, by rfl, trivial, HR, HG, HH⟩
      case measure => simp [intOf]
    · have hbf : (((⟨#[102, 110, 114, 116, 118]⟩ : ByteArray)[4]'(by decide)).toNat : Int) = 118 := rfl
      go_wp2
      go_roundw
      case rel => exact ⟨5, by decide, by rfl, trivial, HR, HG, HH⟩
      case measure => simp [intOf]

set_option maxHeartbeats 3200000 in
set_option maxRecDepth 100000 in
theorem ecs_x_no (B b : Nat) (l : List Int) (k : Nat) (w : World) (h : Rs w B b l k) (x : Int) (hc : sgR (l.drop k) 0 = 120) (hx : hxsR 2 (l.drop (k + 1)) = x) (h1 : x < 0) :
    Calls Try.prog 54 #[.pointer (some ⟨b, 0, none⟩)] w (TR w B b l k 0 0) := by
  have HC := Lib.hid h
  have HS0 : Hid (Calls Try.prog 53 #[.pointer (some ⟨b, 0, none⟩), .int .i64 0] w fun e w' => e = .returned (.int .i64 (120)) ∧ ∃ n, w' = w.drewN n) := by rw [← hc]; exact sign_ref B b l k 0 w h (by omega)
  have HS1 : Hid (∀ W : World, Rs W B b l k → Calls Try.prog 53 #[.pointer (some ⟨b, 0, none⟩), .int .i64 1] W fun e w' => e = .returned (.int .i64 (sgR (l.drop k) 1)) ∧ ∃ n, w' = W.drewN n) := fun W hW => by exact sign_ref B b l k 1 W hW (by omega)
  have HX2 : Hid (∀ W : World, Rs W B b l k → Calls Try.prog 59 #[.pointer (some ⟨b, 0, none⟩), .int .i64 1, .int .i64 2] W fun e w' => e = .returned (.int .i64 (x)) ∧ ∃ n, w' = W.drewN n) := fun W hW => by rw [← hx]; exact hexes_ref B b l k 1 2 W hW (by omega) (by omega)
  clear hx
  clear h hc
  generalize sgR (l.drop k) 1 = d at HS1
  go_enter Try.func54, Try.ntmps54
  go_wp2_with fail
  refine HS0.out.mono ?_
  rintro e w1 ⟨rfl, n1, hw1⟩
  have HR1 : Hid (Rs w1 B b l k) := by rw [hw1]; exact Cu.drewN HC.out n1
  have HG1 : Hid (w.grownBy w1 (some b)) := by rw [hw1]; exact grown_drewN _ _ _
  clear hw1 HS0
  go_wp2_with fail
  refine (HS1.out _ HR1.out).mono ?_
  rintro e w2 ⟨rfl, n2, hw2⟩
  have HR2 : Hid (Rs w2 B b l k) := by rw [hw2]; exact Cu.drewN HR1.out n2
  have HG2 : Hid (w.grownBy w2 (some b)) := by rw [hw2]; exact HG1.out.trans (grown_drewN _ _ _)
  clear hw2 HS1 HR1 HG1
  have HR3 := Lib.hid (fresh_row HR2.out (.cells #[.int .i64 12, .int .i64 10, .int .i64 13, .int .i64 9, .int .i64 11] 3))
  have HG3 : Hid (w.grownBy (w2.alloc (.cells #[.int .i64 12, .int .i64 10, .int .i64 13, .int .i64 9, .int .i64 11] 3)) (some b)) := HG2.out.trans (below_grown (bl_alloc w2 _) _)
  have HH3 : Hid ((w2.alloc (.cells #[.int .i64 12, .int .i64 10, .int .i64 13, .int .i64 9, .int .i64 11] 3)).heap[w2.heap.size]? = some (.cells #[.int .i64 12, .int .i64 10, .int .i64 13, .int .i64 9, .int .i64 11] 3 (0, 0))) := (MapKept.heap_alloc w2 _).1
  go_wp2
  go_loopw [8] (fun iv wr => ∃ i : Nat, i ≤ 5 ∧ iv = .int .i64 (i : Nat) ∧ True ∧ Hid (Rs wr B b l k) ∧ Hid (w.grownBy wr (some b)) ∧ Hid (wr.heap[w2.heap.size]? = some (.cells #[.int .i64 12, .int .i64 10, .int .i64 13, .int .i64 9, .int .i64 11] 3 (0, 0)))) (fun iv _ => 5 - (intOf iv).toNat)
  case atStart => exact ⟨0, by omega, rfl, trivial, HR3, HG3, HH3⟩
  case round =>
    clear HR3 HG3 HH3 HR2 HG2
    obtain ⟨i, hi, rfl, hst, HR, HG, HH⟩ := hrel
    rename World => wr
    have hcase : i = 5 ∨ i = 0 ∨ i = 1 ∨ i = 2 ∨ i = 3 ∨ i = 4 := by omega
    rcases hcase with rfl | rfl | rfl | rfl | rfl | rfl
    · go_wp2_with (go_at_call 59; refine (HX2.out _ HR.out).mono ?_; rintro e w9 ⟨rfl, n9, hw9⟩; have HR9 : Hid (Rs w9 B b l k) := by { rw [hw9]; exact Cu.drewN HR.out n9 }; have HG9 : Hid (w.grownBy w9 (some b)) := by { rw [hw9]; exact HG.out.trans (grown_drewN _ _ _) }; clear hw9)
      clear HR HG HH
      go_loopw [15] (fun iv wr => ∃ i : Nat, i ≤ 15 ∧ iv = .int .i64 (i : Nat) ∧ True ∧ Hid (Rs wr B b l k) ∧ Hid (w.grownBy wr (some b))) (fun iv _ => 15 - (intOf iv).toNat)
      case atStart => exact ⟨0, by omega, rfl, trivial, HR9, HG9⟩
      case round =>
        clear HR9 HG9
        obtain ⟨i, hi, rfl, HSEEN, HR, HG⟩ := hrel
        rename World => wr
        have hcase : i = 15 ∨ i = 0 ∨ i = 1 ∨ i = 2 ∨ i = 3 ∨ i = 4 ∨ i = 5 ∨ i = 6 ∨ i = 7 ∨ i = 8 ∨ i = 9 ∨ i = 10 ∨ i = 11 ∨ i = 12 ∨ i = 13 ∨ i = 14 := by omega
        rcases hcase with rfl | rfl | rfl | rfl | rfl | rfl | rfl | rfl | rfl | rfl | rfl | rfl | rfl | rfl | rfl | rfl
        · go_wp2
          go_ret2
          exact ⟨rfl, HR.out, HG.out⟩
        · have hbf : (((⟨#[94, 36, 92, 46, 42, 43, 63, 40, 41, 91, 93, 123, 125, 124, 47]⟩ : ByteArray)[0]'(by decide)).toNat : Int) = 94 := rfl
          go_wp2
          go_roundw
          case rel => exact ⟨1, by decide, by rfl, trivial, HR, HG⟩
          case measure => simp [intOf]
        · have hbf : (((⟨#[94, 36, 92, 46, 42, 43, 63, 40, 41, 91, 93, 123, 125, 124, 47]⟩ : ByteArray)[1]'(by decide)).toNat : Int) = 36 := rfl
          go_wp2
          go_roundw
          case rel => exact ⟨2, by decide, by rfl, trivial, HR, HG⟩
          case measure => simp [intOf]
        · have hbf : (((⟨#[94, 36, 92, 46, 42, 43, 63, 40, 41, 91, 93, 123, 125, 124, 47]⟩ : ByteArray)[2]'(by decide)).toNat : Int) = 92 := rfl
          go_wp2
          go_roundw
          case rel => exact ⟨3, by decide, by rfl, trivial, HR, HG⟩
          case measure => simp [intOf]
        · have hbf : (((⟨#[94, 36, 92, 46, 42, 43, 63, 40, 41, 91, 93, 123, 125, 124, 47]⟩ : ByteArray)[3]'(by decide)).toNat : Int) = 46 := rfl
          go_wp2
          go_roundw
          case rel => exact ⟨4, by decide, by rfl, trivial, HR, HG⟩
          case measure => simp [intOf]
        · have hbf : (((⟨#[94, 36, 92, 46, 42, 43, 63, 40, 41, 91, 93, 123, 125, 124, 47]⟩ : ByteArray)[4]'(by decide)).toNat : Int) = 42 := rfl
          go_wp2
          go_roundw
          case rel => exact ⟨5, by decide, by rfl, trivial, HR, HG⟩
          case measure => simp [intOf]
        · have hbf : (((⟨#[94, 36, 92, 46, 42, 43, 63, 40, 41, 91, 93, 123, 125, 124, 47]⟩ : ByteArray)[5]'(by decide)).toNat : Int) = 43 := rfl
          go_wp2
          go_roundw
          case rel => exact ⟨6, by decide, by rfl, trivial, HR, HG⟩
          case measure => simp [intOf]
        · have hbf : (((⟨#[94, 36, 92, 46, 42, 43, 63, 40, 41, 91, 93, 123, 125, 124, 47]⟩ : ByteArray)[6]'(by decide)).toNat : Int) = 63 := rfl
          go_wp2
          go_roundw
          case rel => exact ⟨7, by decide, by rfl, trivial, HR, HG⟩
          case measure => simp [intOf]
        · have hbf : (((⟨#[94, 36, 92, 46, 42, 43, 63, 40, 41, 91, 93, 123, 125, 124, 47]⟩ : ByteArray)[7]'(by decide)).toNat : Int) = 40 := rfl
          go_wp2
          go_roundw
          case rel => exact ⟨8, by decide, by rfl, trivial, HR, HG⟩
          case measure => simp [intOf]
        · have hbf : (((⟨#[94, 36, 92, 46, 42, 43, 63, 40, 41, 91, 93, 123, 125, 124, 47]⟩ : ByteArray)[8]'(by decide)).toNat : Int) = 41 := rfl
          go_wp2
          go_roundw
          case rel => exact ⟨9, by decide, by rfl, trivial, HR, HG⟩
          case measure => simp [intOf]
        · have hbf : (((⟨#[94, 36, 92, 46, 42, 43, 63, 40, 41, 91, 93, 123, 125, 124, 47]⟩ : ByteArray)[9]'(by decide)).toNat : Int) = 91 := rfl
          go_wp2
          go_roundw
          case rel => exact ⟨10, by decide, by rfl, trivial, HR, HG⟩
          case measure => simp [intOf]
        · have hbf : (((⟨#[94, 36, 92, 46, 42, 43, 63, 40, 41, 91, 93, 123, 125, 124, 47]⟩ : ByteArray)[10]'(by decide)).toNat : Int) = 93 := rfl
          go_wp2
          go_roundw
          case rel => exact ⟨11, by decide, by rfl, trivial, HR, HG⟩
          case measure => simp [intOf]
        · have hbf : (((⟨#[94, 36, 92, 46, 42, 43, 63, 40, 41, 91, 93, 123, 125, 124, 47]⟩ : ByteArray)[11]'(by decide)).toNat : Int) = 123 := rfl
          go_wp2
          go_roundw
          case rel => exact ⟨12, by decide, by rfl, trivial, HR, HG⟩
          case measure => simp [intOf]
        · have hbf : (((⟨#[94, 36, 92, 46, 42, 43, 63, 40, 41, 91, 93, 123, 125, 124, 47]⟩ : ByteArray)[12]'(by decide)).toNat : Int) = 125 := rfl
          go_wp2
          go_roundw
          case rel => exact ⟨13, by decide, by rfl, trivial, HR, HG⟩
          case measure => simp [intOf]
        · have hbf : (((⟨#[94, 36, 92, 46, 42, 43, 63, 40, 41, 91, 93, 123, 125, 124, 47]⟩ : ByteArray)[13]'(by decide)).toNat : Int) = 124 := rfl
          go_wp2
          go_roundw
          case rel => exact ⟨14, by decide, by rfl, trivial, HR, HG⟩
          case measure => simp [intOf]
        · have hbf : (((⟨#[94, 36, 92, 46, 42, 43, 63, 40, 41, 91, 93, 123, 125, 124, 47]⟩ : ByteArray)[14]'(by decide)).toNat : Int) = 47 := rfl
          go_wp2
          go_roundw
          case rel => exact ⟨15, by decide, by rfl, trivial, HR, HG⟩
          case measure => simp [intOf]
    · have hbf : (((⟨#[102, 110, 114, 116, 118]⟩ : ByteArray)[0]'(by decide)).toNat : Int) = 102 := rfl
      go_wp2
      go_roundw
      case rel => exact ⟨1, by decide, by rfl, trivial, HR, HG, HH⟩
      case measure => simp [intOf]
    · have hbf : (((⟨#[102, 110, 114, 116, 118]⟩ : ByteArray)[1]'(by decide)).toNat : Int) = 110 := rfl
      go_wp2
      go_roundw
      case rel => exact ⟨2, by decide, by rfl, trivial, HR, HG, HH⟩
      case measure => simp [intOf]
    · have hbf : (((⟨#[102, 110, 114, 116, 118]⟩ : ByteArray)[2]'(by decide)).toNat : Int) = 114 := rfl
      go_wp2
      go_roundw
      case rel => exact ⟨3, by decide, by rfl, trivial, HR, HG, HH⟩
      case measure => simp [intOf]
    · have hbf : (((⟨#[102, 110, 114, 116, 118]⟩ : ByteArray)[3]'(by decide)).toNat : Int) = 116 := rfl
      go_wp2
      go_roundw
      case rel => exact ⟨4, by decide, by rfl, trivial, HR, HG, HH⟩
      case measure => simp [intOf]
    · have hbf : (((⟨#[102, 110, 114, 116, 118]⟩ : ByteArray)[4]'(by decide)).toNat : Int) = 118 := rfl
      go_wp2
      go_roundw
      case rel => exact ⟨5, by decide, by rfl, trivial, HR, HG, HH⟩
      case measure => simp [intOf]

set_option maxHeartbeats 3200000 in
set_option maxRecDepth 100000 in
theorem ecs_own (B b : Nat) (l : List Int) (k : Nat) (w : World) (h : Rs w B b l k) (c V1 V2 : Int) (hc : sgR (l.drop k) 0 = c) (n102 : c ≠ 102) (n110 : c ≠ 110) (n114 : c ≠ 114) (n116 : c ≠ 116) (n118 : c ≠ 118) (n99 : c ≠ 99) (n48 : c ≠ 48) (n120 : c ≠ 120) (n117 : c ≠ 117) (hv1 : V1 = if amg c ownS = true then c else 0) (hv2 : V2 = if amg c ownS = true then 1 else 0) :
    Calls Try.prog 54 #[.pointer (some ⟨b, 0, none⟩)] w (TR w B b l k V1 V2) := by
  have HC := Lib.hid h
  have HS0 : Hid (Calls Try.prog 53 #[.pointer (some ⟨b, 0, none⟩), .int .i64 0] w fun e w' => e = .returned (.int .i64 (c)) ∧ ∃ n, w' = w.drewN n) := by rw [← hc]; exact sign_ref B b l k 0 w h (by omega)
  have HS1 : Hid (∀ W : World, Rs W B b l k → Calls Try.prog 53 #[.pointer (some ⟨b, 0, none⟩), .int .i64 1] W fun e w' => e = .returned (.int .i64 (sgR (l.drop k) 1)) ∧ ∃ n, w' = W.drewN n) := fun W hW => by exact sign_ref B b l k 1 W hW (by omega)
  have b102 : (c == 102) = false := by rw [beq_eq_false_iff_ne]; exact n102
  have b110 : (c == 110) = false := by rw [beq_eq_false_iff_ne]; exact n110
  have b114 : (c == 114) = false := by rw [beq_eq_false_iff_ne]; exact n114
  have b116 : (c == 116) = false := by rw [beq_eq_false_iff_ne]; exact n116
  have b118 : (c == 118) = false := by rw [beq_eq_false_iff_ne]; exact n118
  have b99 : (c == 99) = false := by rw [beq_eq_false_iff_ne]; exact n99
  have b48 : (c == 48) = false := by rw [beq_eq_false_iff_ne]; exact n48
  have b120 : (c == 120) = false := by rw [beq_eq_false_iff_ne]; exact n120
  have b117 : (c == 117) = false := by rw [beq_eq_false_iff_ne]; exact n117
  clear n102 n110 n114 n116 n118 n99 n48 n120 n117
  have HV1 := Lib.hid hv1
  have HV2 := Lib.hid hv2
  clear hv1 hv2
  clear h hc
  generalize sgR (l.drop k) 1 = d at HS1
  go_enter Try.func54, Try.ntmps54
  go_wp2_with fail
  refine HS0.out.mono ?_
  rintro e w1 ⟨rfl, n1, hw1⟩
  have HR1 : Hid (Rs w1 B b l k) := by rw [hw1]; exact Cu.drewN HC.out n1
  have HG1 : Hid (w.grownBy w1 (some b)) := by rw [hw1]; exact grown_drewN _ _ _
  clear hw1 HS0
  go_wp2_with fail
  refine (HS1.out _ HR1.out).mono ?_
  rintro e w2 ⟨rfl, n2, hw2⟩
  have HR2 : Hid (Rs w2 B b l k) := by rw [hw2]; exact Cu.drewN HR1.out n2
  have HG2 : Hid (w.grownBy w2 (some b)) := by rw [hw2]; exact HG1.out.trans (grown_drewN _ _ _)
  clear hw2 HS1 HR1 HG1
  have HR3 := Lib.hid (fresh_row HR2.out (.cells #[.int .i64 12, .int .i64 10, .int .i64 13, .int .i64 9, .int .i64 11] 3))
  have HG3 : Hid (w.grownBy (w2.alloc (.cells #[.int .i64 12, .int .i64 10, .int .i64 13, .int .i64 9, .int .i64 11] 3)) (some b)) := HG2.out.trans (below_grown (bl_alloc w2 _) _)
  have HH3 : Hid ((w2.alloc (.cells #[.int .i64 12, .int .i64 10, .int .i64 13, .int .i64 9, .int .i64 11] 3)).heap[w2.heap.size]? = some (.cells #[.int .i64 12, .int .i64 10, .int .i64 13, .int .i64 9, .int .i64 11] 3 (0, 0))) := (MapKept.heap_alloc w2 _).1
  go_wp2
  go_loopw [8] (fun iv wr => ∃ i : Nat, i ≤ 5 ∧ iv = .int .i64 (i : Nat) ∧ True ∧ Hid (Rs wr B b l k) ∧ Hid (w.grownBy wr (some b)) ∧ Hid (wr.heap[w2.heap.size]? = some (.cells #[.int .i64 12, .int .i64 10, .int .i64 13, .int .i64 9, .int .i64 11] 3 (0, 0)))) (fun iv _ => 5 - (intOf iv).toNat)
  case atStart => exact ⟨0, by omega, rfl, trivial, HR3, HG3, HH3⟩
  case round =>
    clear HR3 HG3 HH3 HR2 HG2
    obtain ⟨i, hi, rfl, hst, HR, HG, HH⟩ := hrel
    rename World => wr
    have hcase : i = 5 ∨ i = 0 ∨ i = 1 ∨ i = 2 ∨ i = 3 ∨ i = 4 := by omega
    rcases hcase with rfl | rfl | rfl | rfl | rfl | rfl
    · go_wp2
      have HR9 := HR
      have HG9 := HG
      clear HR HG HH
      go_loopw [15] (fun iv wr => ∃ i : Nat, i ≤ 15 ∧ iv = .int .i64 (i : Nat) ∧ Hid (∀ x ∈ ownS.take i, c ≠ (x.toNat : Int)) ∧ Hid (Rs wr B b l k) ∧ Hid (w.grownBy wr (some b))) (fun iv _ => 15 - (intOf iv).toNat)
      case atStart => exact ⟨0, by omega, rfl, fun x hx => by simp at hx, HR9, HG9⟩
      case round =>
        clear HR9 HG9
        obtain ⟨i, hi, rfl, HSEEN, HR, HG⟩ := hrel
        rename World => wr
        have hcase : i = 15 ∨ i = 0 ∨ i = 1 ∨ i = 2 ∨ i = 3 ∨ i = 4 ∨ i = 5 ∨ i = 6 ∨ i = 7 ∨ i = 8 ∨ i = 9 ∨ i = 10 ∨ i = 11 ∨ i = 12 ∨ i = 13 ∨ i = 14 := by omega
        rcases hcase with rfl | rfl | rfl | rfl | rfl | rfl | rfl | rfl | rfl | rfl | rfl | rfl | rfl | rfl | rfl | rfl
        · go_wp2
          go_ret2
          rw [HV1.out, HV2.out, if_neg (seen_all HSEEN.out), if_neg (seen_all HSEEN.out)]
          exact ⟨rfl, HR.out, HG.out⟩
        · have hbf : (((⟨#[94, 36, 92, 46, 42, 43, 63, 40, 41, 91, 93, 123, 125, 124, 47]⟩ : ByteArray)[0]'(by decide)).toNat : Int) = 94 := rfl
          by_cases hcj : c = 94
          · have hcb : (c == 94) = true := by rw [hcj]; rfl
            have HCJ := Lib.hid hcj
            clear hcj
            go_wp2
            go_ret2
            rw [HV1.out, HV2.out, if_pos (show amg c ownS = true by rw [HCJ.out]; rfl), if_pos (show amg c ownS = true by rw [HCJ.out]; rfl)]
            exact ⟨rfl, HR.out, HG.out⟩
          · have hcb : (c == 94) = false := by rw [beq_eq_false_iff_ne]; exact hcj
            have HCJ := Lib.hid hcj
            clear hcj
            go_wp2
            go_roundw
            case rel => exact ⟨1, by decide, by rfl, seen_step HSEEN.out HCJ.out, HR, HG⟩
            case measure => simp [intOf]
        · have hbf : (((⟨#[94, 36, 92, 46, 42, 43, 63, 40, 41, 91, 93, 123, 125, 124, 47]⟩ : ByteArray)[1]'(by decide)).toNat : Int) = 36 := rfl
          by_cases hcj : c = 36
          · have hcb : (c == 36) = true := by rw [hcj]; rfl
            have HCJ := Lib.hid hcj
            clear hcj
            go_wp2
            go_ret2
            rw [HV1.out, HV2.out, if_pos (show amg c ownS = true by rw [HCJ.out]; rfl), if_pos (show amg c ownS = true by rw [HCJ.out]; rfl)]
            exact ⟨rfl, HR.out, HG.out⟩
          · have hcb : (c == 36) = false := by rw [beq_eq_false_iff_ne]; exact hcj
            have HCJ := Lib.hid hcj
            clear hcj
            go_wp2
            go_roundw
            case rel => exact ⟨2, by decide, by rfl, seen_step HSEEN.out HCJ.out, HR, HG⟩
            case measure => simp [intOf]
        · have hbf : (((⟨#[94, 36, 92, 46, 42, 43, 63, 40, 41, 91, 93, 123, 125, 124, 47]⟩ : ByteArray)[2]'(by decide)).toNat : Int) = 92 := rfl
          by_cases hcj : c = 92
          · have hcb : (c == 92) = true := by rw [hcj]; rfl
            have HCJ := Lib.hid hcj
            clear hcj
            go_wp2
            go_ret2
            rw [HV1.out, HV2.out, if_pos (show amg c ownS = true by rw [HCJ.out]; rfl), if_pos (show amg c ownS = true by rw [HCJ.out]; rfl)]
            exact ⟨rfl, HR.out, HG.out⟩
          · have hcb : (c == 92) = false := by rw [beq_eq_false_iff_ne]; exact hcj
            have HCJ := Lib.hid hcj
            clear hcj
            go_wp2
            go_roundw
            case rel => exact ⟨3, by decide, by rfl, seen_step HSEEN.out HCJ.out, HR, HG⟩
            case measure => simp [intOf]
        · have hbf : (((⟨#[94, 36, 92, 46, 42, 43, 63, 40, 41, 91, 93, 123, 125, 124, 47]⟩ : ByteArray)[3]'(by decide)).toNat : Int) = 46 := rfl
          by_cases hcj : c = 46
          · have hcb : (c == 46) = true := by rw [hcj]; rfl
            have HCJ := Lib.hid hcj
            clear hcj
            go_wp2
            go_ret2
            rw [HV1.out, HV2.out, if_pos (show amg c ownS = true by rw [HCJ.out]; rfl), if_pos (show amg c ownS = true by rw [HCJ.out]; rfl)]
            exact ⟨rfl, HR.out, HG.out⟩
          · have hcb : (c == 46) = false := by rw [beq_eq_false_iff_ne]; exact hcj
            have HCJ := Lib.hid hcj
            clear hcj
            go_wp2
            go_roundw
            case rel => exact ⟨4, by decide, by rfl, seen_step HSEEN.out HCJ.out, HR, HG⟩
            case measure => simp [intOf]
        · have hbf : (((⟨#[94, 36, 92, 46, 42, 43, 63, 40, 41, 91, 93, 123, 125, 124, 47]⟩ : ByteArray)[4]'(by decide)).toNat : Int) = 42 := rfl
          by_cases hcj : c = 42
          · have hcb : (c == 42) = true := by rw [hcj]; rfl
            have HCJ := Lib.hid hcj
            clear hcj
            go_wp2
            go_ret2
            rw [HV1.out, HV2.out, if_pos (show amg c ownS = true by rw [HCJ.out]; rfl), if_pos (show amg c ownS = true by rw [HCJ.out]; rfl)]
            exact ⟨rfl, HR.out, HG.out⟩
          · have hcb : (c == 42) = false := by rw [beq_eq_false_iff_ne]; exact hcj
            have HCJ := Lib.hid hcj
            clear hcj
            go_wp2
            go_roundw
            case rel => exact ⟨5, by decide, by rfl, seen_step HSEEN.out HCJ.out, HR, HG⟩
            case measure => simp [intOf]
        · have hbf : (((⟨#[94, 36, 92, 46, 42, 43, 63, 40, 41, 91, 93, 123, 125, 124, 47]⟩ : ByteArray)[5]'(by decide)).toNat : Int) = 43 := rfl
          by_cases hcj : c = 43
          · have hcb : (c == 43) = true := by rw [hcj]; rfl
            have HCJ := Lib.hid hcj
            clear hcj
            go_wp2
            go_ret2
            rw [HV1.out, HV2.out, if_pos (show amg c ownS = true by rw [HCJ.out]; rfl), if_pos (show amg c ownS = true by rw [HCJ.out]; rfl)]
            exact ⟨rfl, HR.out, HG.out⟩
          · have hcb : (c == 43) = false := by rw [beq_eq_false_iff_ne]; exact hcj
            have HCJ := Lib.hid hcj
            clear hcj
            go_wp2
            go_roundw
            case rel => exact ⟨6, by decide, by rfl, seen_step HSEEN.out HCJ.out, HR, HG⟩
            case measure => simp [intOf]
        · have hbf : (((⟨#[94, 36, 92, 46, 42, 43, 63, 40, 41, 91, 93, 123, 125, 124, 47]⟩ : ByteArray)[6]'(by decide)).toNat : Int) = 63 := rfl
          by_cases hcj : c = 63
          · have hcb : (c == 63) = true := by rw [hcj]; rfl
            have HCJ := Lib.hid hcj
            clear hcj
            go_wp2
            go_ret2
            rw [HV1.out, HV2.out, if_pos (show amg c ownS = true by rw [HCJ.out]; rfl), if_pos (show amg c ownS = true by rw [HCJ.out]; rfl)]
            exact ⟨rfl, HR.out, HG.out⟩
          · have hcb : (c == 63) = false := by rw [beq_eq_false_iff_ne]; exact hcj
            have HCJ := Lib.hid hcj
            clear hcj
            go_wp2
            go_roundw
            case rel => exact ⟨7, by decide, by rfl, seen_step HSEEN.out HCJ.out, HR, HG⟩
            case measure => simp [intOf]
        · have hbf : (((⟨#[94, 36, 92, 46, 42, 43, 63, 40, 41, 91, 93, 123, 125, 124, 47]⟩ : ByteArray)[7]'(by decide)).toNat : Int) = 40 := rfl
          by_cases hcj : c = 40
          · have hcb : (c == 40) = true := by rw [hcj]; rfl
            have HCJ := Lib.hid hcj
            clear hcj
            go_wp2
            go_ret2
            rw [HV1.out, HV2.out, if_pos (show amg c ownS = true by rw [HCJ.out]; rfl), if_pos (show amg c ownS = true by rw [HCJ.out]; rfl)]
            exact ⟨rfl, HR.out, HG.out⟩
          · have hcb : (c == 40) = false := by rw [beq_eq_false_iff_ne]; exact hcj
            have HCJ := Lib.hid hcj
            clear hcj
            go_wp2
            go_roundw
            case rel => exact ⟨8, by decide, by rfl, seen_step HSEEN.out HCJ.out, HR, HG⟩
            case measure => simp [intOf]
        · have hbf : (((⟨#[94, 36, 92, 46, 42, 43, 63, 40, 41, 91, 93, 123, 125, 124, 47]⟩ : ByteArray)[8]'(by decide)).toNat : Int) = 41 := rfl
          by_cases hcj : c = 41
          · have hcb : (c == 41) = true := by rw [hcj]; rfl
            have HCJ := Lib.hid hcj
            clear hcj
            go_wp2
            go_ret2
            rw [HV1.out, HV2.out, if_pos (show amg c ownS = true by rw [HCJ.out]; rfl), if_pos (show amg c ownS = true by rw [HCJ.out]; rfl)]
            exact ⟨rfl, HR.out, HG.out⟩
          · have hcb : (c == 41) = false := by rw [beq_eq_false_iff_ne]; exact hcj
            have HCJ := Lib.hid hcj
            clear hcj
            go_wp2
            go_roundw
            case rel => exact ⟨9, by decide, by rfl, seen_step HSEEN.out HCJ.out, HR, HG⟩
            case measure => simp [intOf]
        · have hbf : (((⟨#[94, 36, 92, 46, 42, 43, 63, 40, 41, 91, 93, 123, 125, 124, 47]⟩ : ByteArray)[9]'(by decide)).toNat : Int) = 91 := rfl
          by_cases hcj : c = 91
          · have hcb : (c == 91) = true := by rw [hcj]; rfl
            have HCJ := Lib.hid hcj
            clear hcj
            go_wp2
            go_ret2
            rw [HV1.out, HV2.out, if_pos (show amg c ownS = true by rw [HCJ.out]; rfl), if_pos (show amg c ownS = true by rw [HCJ.out]; rfl)]
            exact ⟨rfl, HR.out, HG.out⟩
          · have hcb : (c == 91) = false := by rw [beq_eq_false_iff_ne]; exact hcj
            have HCJ := Lib.hid hcj
            clear hcj
            go_wp2
            go_roundw
            case rel => exact ⟨10, by decide, by rfl, seen_step HSEEN.out HCJ.out, HR, HG⟩
            case measure => simp [intOf]
        · have hbf : (((⟨#[94, 36, 92, 46, 42, 43, 63, 40, 41, 91, 93, 123, 125, 124, 47]⟩ : ByteArray)[10]'(by decide)).toNat : Int) = 93 := rfl
          by_cases hcj : c = 93
          · have hcb : (c == 93) = true := by rw [hcj]; rfl
            have HCJ := Lib.hid hcj
            clear hcj
            go_wp2
            go_ret2
            rw [HV1.out, HV2.out, if_pos (show amg c ownS = true by rw [HCJ.out]; rfl), if_pos (show amg c ownS = true by rw [HCJ.out]; rfl)]
            exact ⟨rfl, HR.out, HG.out⟩
          · have hcb : (c == 93) = false := by rw [beq_eq_false_iff_ne]; exact hcj
            have HCJ := Lib.hid hcj
            clear hcj
            go_wp2
            go_roundw
            case rel => exact ⟨11, by decide, by rfl, seen_step HSEEN.out HCJ.out, HR, HG⟩
            case measure => simp [intOf]
        · have hbf : (((⟨#[94, 36, 92, 46, 42, 43, 63, 40, 41, 91, 93, 123, 125, 124, 47]⟩ : ByteArray)[11]'(by decide)).toNat : Int) = 123 := rfl
          by_cases hcj : c = 123
          · have hcb : (c == 123) = true := by rw [hcj]; rfl
            have HCJ := Lib.hid hcj
            clear hcj
            go_wp2
            go_ret2
            rw [HV1.out, HV2.out, if_pos (show amg c ownS = true by rw [HCJ.out]; rfl), if_pos (show amg c ownS = true by rw [HCJ.out]; rfl)]
            exact ⟨rfl, HR.out, HG.out⟩
          · have hcb : (c == 123) = false := by rw [beq_eq_false_iff_ne]; exact hcj
            have HCJ := Lib.hid hcj
            clear hcj
            go_wp2
            go_roundw
            case rel => exact ⟨12, by decide, by rfl, seen_step HSEEN.out HCJ.out, HR, HG⟩
            case measure => simp [intOf]
        · have hbf : (((⟨#[94, 36, 92, 46, 42, 43, 63, 40, 41, 91, 93, 123, 125, 124, 47]⟩ : ByteArray)[12]'(by decide)).toNat : Int) = 125 := rfl
          by_cases hcj : c = 125
          · have hcb : (c == 125) = true := by rw [hcj]; rfl
            have HCJ := Lib.hid hcj
            clear hcj
            go_wp2
            go_ret2
            rw [HV1.out, HV2.out, if_pos (show amg c ownS = true by rw [HCJ.out]; rfl), if_pos (show amg c ownS = true by rw [HCJ.out]; rfl)]
            exact ⟨rfl, HR.out, HG.out⟩
          · have hcb : (c == 125) = false := by rw [beq_eq_false_iff_ne]; exact hcj
            have HCJ := Lib.hid hcj
            clear hcj
            go_wp2
            go_roundw
            case rel => exact ⟨13, by decide, by rfl, seen_step HSEEN.out HCJ.out, HR, HG⟩
            case measure => simp [intOf]
        · have hbf : (((⟨#[94, 36, 92, 46, 42, 43, 63, 40, 41, 91, 93, 123, 125, 124, 47]⟩ : ByteArray)[13]'(by decide)).toNat : Int) = 124 := rfl
          by_cases hcj : c = 124
          · have hcb : (c == 124) = true := by rw [hcj]; rfl
            have HCJ := Lib.hid hcj
            clear hcj
            go_wp2
            go_ret2
            rw [HV1.out, HV2.out, if_pos (show amg c ownS = true by rw [HCJ.out]; rfl), if_pos (show amg c ownS = true by rw [HCJ.out]; rfl)]
            exact ⟨rfl, HR.out, HG.out⟩
          · have hcb : (c == 124) = false := by rw [beq_eq_false_iff_ne]; exact hcj
            have HCJ := Lib.hid hcj
            clear hcj
            go_wp2
            go_roundw
            case rel => exact ⟨14, by decide, by rfl, seen_step HSEEN.out HCJ.out, HR, HG⟩
            case measure => simp [intOf]
        · have hbf : (((⟨#[94, 36, 92, 46, 42, 43, 63, 40, 41, 91, 93, 123, 125, 124, 47]⟩ : ByteArray)[14]'(by decide)).toNat : Int) = 47 := rfl
          by_cases hcj : c = 47
          · have hcb : (c == 47) = true := by rw [hcj]; rfl
            have HCJ := Lib.hid hcj
            clear hcj
            go_wp2
            go_ret2
            rw [HV1.out, HV2.out, if_pos (show amg c ownS = true by rw [HCJ.out]; rfl), if_pos (show amg c ownS = true by rw [HCJ.out]; rfl)]
            exact ⟨rfl, HR.out, HG.out⟩
          · have hcb : (c == 47) = false := by rw [beq_eq_false_iff_ne]; exact hcj
            have HCJ := Lib.hid hcj
            clear hcj
            go_wp2
            go_roundw
            case rel => exact ⟨15, by decide, by rfl, seen_step HSEEN.out HCJ.out, HR, HG⟩
            case measure => simp [intOf]
    · have hbf : (((⟨#[102, 110, 114, 116, 118]⟩ : ByteArray)[0]'(by decide)).toNat : Int) = 102 := rfl
      go_wp2
      go_roundw
      case rel => exact ⟨1, by decide, by rfl, trivial, HR, HG, HH⟩
      case measure => simp [intOf]
    · have hbf : (((⟨#[102, 110, 114, 116, 118]⟩ : ByteArray)[1]'(by decide)).toNat : Int) = 110 := rfl
      go_wp2
      go_roundw
      case rel => exact ⟨2, by decide, by rfl, trivial, HR, HG, HH⟩
      case measure => simp [intOf]
    · have hbf : (((⟨#[102, 110, 114, 116, 118]⟩ : ByteArray)[2]'(by decide)).toNat : Int) = 114 := rfl
      go_wp2
      go_roundw
      case rel => exact ⟨3, by decide, by rfl, trivial, HR, HG, HH⟩
      case measure => simp [intOf]
    · have hbf : (((⟨#[102, 110, 114, 116, 118]⟩ : ByteArray)[3]'(by decide)).toNat : Int) = 116 := rfl
      go_wp2
      go_roundw
      case rel => exact ⟨4, by decide, by rfl, trivial, HR, HG, HH⟩
      case measure => simp [intOf]
    · have hbf : (((⟨#[102, 110, 114, 116, 118]⟩ : ByteArray)[4]'(by decide)).toNat : Int) = 118 := rfl
      go_wp2
      go_roundw
      case rel => exact ⟨5, by decide, by rfl, trivial, HR, HG, HH⟩
      case measure => simp [intOf]
end Go.Proofs.Ytkpkhjflelmdjaa
