/- The document's scan: the escape that u begins. -/
import Derived.Test.YtkpkhjflelmdjaaZi
namespace Go.Proofs.Ytkpkhjflelmdjaa
open Go.RowKit Tnd

set_option maxHeartbeats 3200000 in
set_option maxRecDepth 100000 in
theorem ecu_brace (B b : Nat) (l : List Int) (k : Nat) (w : World) (h : Rs w B b l k) (bn : Int) (bc : Nat) (hc : sgR (l.drop k) 0 = 117) (hbr : brR (l.drop (k + 1)) = (bn, bc)) (h1 : (0 : Int) < bc) (h2 : (bc : Int) ≤ 1000000) :
    Calls Try.prog 54 #[.pointer (some ⟨b, 0, none⟩)] w (TR w B b l k bn ((bc : Int) + 1)) := by
  have HC := Lib.hid h
  have HS0 : Hid (Calls Try.prog 53 #[.pointer (some ⟨b, 0, none⟩), .int .i64 0] w fun e w' => e = .returned (.int .i64 (117)) ∧ ∃ n, w' = w.drewN n) := by rw [← hc]; exact sign_ref B b l k 0 w h (by omega)
  have HS1 : Hid (∀ W : World, Rs W B b l k → Calls Try.prog 53 #[.pointer (some ⟨b, 0, none⟩), .int .i64 1] W fun e w' => e = .returned (.int .i64 (sgR (l.drop k) 1)) ∧ ∃ n, w' = W.drewN n) := fun W hW => by exact sign_ref B b l k 1 W hW (by omega)
  have HBR : Hid (∀ W : World, Rs W B b l k → Calls Try.prog 60 #[.pointer (some ⟨b, 0, none⟩), .int .i64 1] W fun e w' => e = .returned (.tuple #[.int .i64 (bn), .int .i64 (bc : Nat)]) ∧ ∃ n, w' = W.drewN n) := fun W hW => by have := brace_ref B b l k 1 W hW (by omega); rw [hbr] at this; exact this
  clear hbr
  clear h hc
  generalize sgR (l.drop k) 1 = d at HS1
  go_enter Try.func54, Try.ntmps54
  go_wp2_with fail
  refine HS0.out.mono ?_
  rintro e w1 ⟨rfl, n1, hw1⟩
  have HR1 : Hid (Rs w1 B b l k) := by rw [hw1]; exact Cu.drewN HC.out n1
  have HG1 : Hid (w.grownBy w1 (some b)) := by rw [hw1]; exact grown_drewN _ _ _
  clear hw1 HS0
  go_wp2_with fail
  refine (HS1.out _ HR1.out).mono ?_
  rintro e w2 ⟨rfl, n2, hw2⟩
  have HR2 : Hid (Rs w2 B b l k) := by rw [hw2]; exact Cu.drewN HR1.out n2
  have HG2 : Hid (w.grownBy w2 (some b)) := by rw [hw2]; exact HG1.out.trans (grown_drewN _ _ _)
  clear hw2 HS1 HR1 HG1
  have HR3 := Lib.hid (fresh_row HR2.out (.cells #[.int .i64 12, .int .i64 10, .int .i64 13, .int .i64 9, .int .i64 11] 3))
  have HG3 : Hid (w.grownBy (w2.alloc (.cells #[.int .i64 12, .int .i64 10, .int .i64 13, .int .i64 9, .int .i64 11] 3)) (some b)) := HG2.out.trans (below_grown (bl_alloc w2 _) _)
  have HH3 : Hid ((w2.alloc (.cells #[.int .i64 12, .int .i64 10, .int .i64 13, .int .i64 9, .int .i64 11] 3)).heap[w2.heap.size]? = some (.cells #[.int .i64 12, .int .i64 10, .int .i64 13, .int .i64 9, .int .i64 11] 3 (0, 0))) := (MapKept.heap_alloc w2 _).1
  go_wp2
  go_loopw [8] (fun iv wr => ∃ i : Nat, i ≤ 5 ∧ iv = .int .i64 (i : Nat) ∧ True ∧ Hid (Rs wr B b l k) ∧ Hid (w.grownBy wr (some b)) ∧ Hid (wr.heap[w2.heap.size]? = some (.cells #[.int .i64 12, .int .i64 10, .int .i64 13, .int .i64 9, .int .i64 11] 3 (0, 0)))) (fun iv _ => 5 - (intOf iv).toNat)
  case atStart => exact ⟨0, by omega, rfl, trivial, HR3, HG3, HH3⟩
  case round =>
    clear HR3 HG3 HH3 HR2 HG2
    obtain ⟨i, hi, rfl, hst, HR, HG, HH⟩ := hrel
    rename World => wr
    have hcase : i = 5 ∨ i = 0 ∨ i = 1 ∨ i = 2 ∨ i = 3 ∨ i = 4 := by omega
    rcases hcase with rfl | rfl | rfl | rfl | rfl | rfl
    · clear hst
      go_wp2_with fail
      refine (HBR.out _ HR.out).mono ?_
      rintro e w9 ⟨rfl, n9, hw9⟩
      have HR9 : Hid (Rs w9 B b l k) := by rw [hw9]; exact Cu.drewN HR.out n9
      have HG9 : Hid (w.grownBy w9 (some b)) := by rw [hw9]; exact HG.out.trans (grown_drewN _ _ _)
      clear hw9
      go_wp2
      go_ret2
      exact ⟨rfl, HR9.out, HG9.out⟩
    · have hbf : (((⟨#[102, 110, 114, 116, 118]⟩ : ByteArray)[0]'(by decide)).toNat : Int) = 102 := rfl
      go_wp2
      go_roundw
      case rel => exact ⟨1, by decide, by rfl, trivial, HR, HG, HH⟩
      case measure => simp [intOf]
    · have hbf : (((⟨#[102, 110, 114, 116, 118]⟩ : ByteArray)[1]'(by decide)).toNat : Int) = 110 := rfl
      go_wp2
      go_roundw
      case rel => exact ⟨2, by decide, by rfl, trivial, HR, HG, HH⟩
      case measure => simp [intOf]
    · have hbf : (((⟨#[102, 110, 114, 116, 118]⟩ : ByteArray)[2]'(by decide)).toNat : Int) = 114 := rfl
      go_wp2
      go_roundw
      case rel => exact ⟨3, by decide, by rfl, trivial, HR, HG, HH⟩
      case measure => simp [intOf]
    · have hbf : (((⟨#[102, 110, 114, 116, 118]⟩ : ByteArray)[3]'(by decide)).toNat : Int) = 116 := rfl
      go_wp2
      go_roundw
      case rel => exact ⟨4, by decide, by rfl, trivial, HR, HG, HH⟩
      case measure => simp [intOf]
    · have hbf : (((⟨#[102, 110, 114, 116, 118]⟩ : ByteArray)[4]'(by decide)).toNat : Int) = 118 := rfl
      go_wp2
      go_roundw
      case rel => exact ⟨5, by decide, by rfl, trivial, HR, HG, HH⟩
      case measure => simp [intOf]

set_option maxHeartbeats 3200000 in
set_option maxRecDepth 100000 in
theorem ecu_a_pos (B b : Nat) (l : List Int) (k : Nat) (w : World) (h : Rs w B b l k) (bn hi s5 : Int) (hc : sgR (l.drop k) 0 = 117) (hbr : brR (l.drop (k + 1)) = (bn, 0)) (hhi : hxsR 4 (l.drop (k + 1)) = hi) (hs5 : sgR (l.drop k) 5 = s5) (h5 : s5 ≠ 92) (hh : 0 ≤ hi) :
    Calls Try.prog 54 #[.pointer (some ⟨b, 0, none⟩)] w (TR w B b l k hi 5) := by
  have HC := Lib.hid h
  have HS0 : Hid (Calls Try.prog 53 #[.pointer (some ⟨b, 0, none⟩), .int .i64 0] w fun e w' => e = .returned (.int .i64 (117)) ∧ ∃ n, w' = w.drewN n) := by rw [← hc]; exact sign_ref B b l k 0 w h (by omega)
  have HS1 : Hid (∀ W : World, Rs W B b l k → Calls Try.prog 53 #[.pointer (some ⟨b, 0, none⟩), .int .i64 1] W fun e w' => e = .returned (.int .i64 (sgR (l.drop k) 1)) ∧ ∃ n, w' = W.drewN n) := fun W hW => by exact sign_ref B b l k 1 W hW (by omega)
  have HBR : Hid (∀ W : World, Rs W B b l k → Calls Try.prog 60 #[.pointer (some ⟨b, 0, none⟩), .int .i64 1] W fun e w' => e = .returned (.tuple #[.int .i64 (bn), .int .i64 0]) ∧ ∃ n, w' = W.drewN n) := fun W hW => by have := brace_ref B b l k 1 W hW (by omega); rw [hbr] at this; exact this
  clear hbr
  have HX4 : Hid (∀ W : World, Rs W B b l k → Calls Try.prog 59 #[.pointer (some ⟨b, 0, none⟩), .int .i64 1, .int .i64 4] W fun e w' => e = .returned (.int .i64 (hi)) ∧ ∃ n, w' = W.drewN n) := fun W hW => by rw [← hhi]; exact hexes_ref B b l k 1 4 W hW (by omega) (by omega)
  clear hhi
  have HG_s5 : Hid (∀ W : World, Rs W B b l k → Calls Try.prog 53 #[.pointer (some ⟨b, 0, none⟩), .int .i64 5] W fun e w' => e = .returned (.int .i64 (s5)) ∧ ∃ n, w' = W.drewN n) := fun W hW => by rw [← hs5]; exact sign_ref B b l k 5 W hW (by omega)
  clear hs5
  have h5b : (s5 == 92) = false := by rw [beq_eq_false_iff_ne]; exact h5
  clear h5
  clear h hc
  generalize sgR (l.drop k) 1 = d at HS1
  go_enter Try.func54, Try.ntmps54
  go_wp2_with fail
  refine HS0.out.mono ?_
  rintro e w1 ⟨rfl, n1, hw1⟩
  have HR1 : Hid (Rs w1 B b l k) := by rw [hw1]; exact Cu.drewN HC.out n1
  have HG1 : Hid (w.grownBy w1 (some b)) := by rw [hw1]; exact grown_drewN _ _ _
  clear hw1 HS0
  go_wp2_with fail
  refine (HS1.out _ HR1.out).mono ?_
  rintro e w2 ⟨rfl, n2, hw2⟩
  have HR2 : Hid (Rs w2 B b l k) := by rw [hw2]; exact Cu.drewN HR1.out n2
  have HG2 : Hid (w.grownBy w2 (some b)) := by rw [hw2]; exact HG1.out.trans (grown_drewN _ _ _)
  clear hw2 HS1 HR1 HG1
  have HR3 := Lib.hid (fresh_row HR2.out (.cells #[.int .i64 12, .int .i64 10, .int .i64 13, .int .i64 9, .int .i64 11] 3))
  have HG3 : Hid (w.grownBy (w2.alloc (.cells #[.int .i64 12, .int .i64 10, .int .i64 13, .int .i64 9, .int .i64 11] 3)) (some b)) := HG2.out.trans (below_grown (bl_alloc w2 _) _)
  have HH3 : Hid ((w2.alloc (.cells #[.int .i64 12, .int .i64 10, .int .i64 13, .int .i64 9, .int .i64 11] 3)).heap[w2.heap.size]? = some (.cells #[.int .i64 12, .int .i64 10, .int .i64 13, .int .i64 9, .int .i64 11] 3 (0, 0))) := (MapKept.heap_alloc w2 _).1
  go_wp2
  go_loopw [8] (fun iv wr => ∃ i : Nat, i ≤ 5 ∧ iv = .int .i64 (i : Nat) ∧ True ∧ Hid (Rs wr B b l k) ∧ Hid (w.grownBy wr (some b)) ∧ Hid (wr.heap[w2.heap.size]? = some (.cells #[.int .i64 12, .int .i64 10, .int .i64 13, .int .i64 9, .int .i64 11] 3 (0, 0)))) (fun iv _ => 5 - (intOf iv).toNat)
  case atStart => exact ⟨0, by omega, rfl, trivial, HR3, HG3, HH3⟩
  case round =>
    clear HR3 HG3 HH3 HR2 HG2
    obtain ⟨i, hi, rfl, hst, HR, HG, HH⟩ := hrel
    rename World => wr
    have hcase : i = 5 ∨ i = 0 ∨ i = 1 ∨ i = 2 ∨ i = 3 ∨ i = 4 := by omega
    rcases hcase with rfl | rfl | rfl | rfl | rfl | rfl
    · clear hst
      go_wp2_with fail
      refine (HBR.out _ HR.out).mono ?_
      rintro e w9 ⟨rfl, n9, hw9⟩
      have HR9 : Hid (Rs w9 B b l k) := by rw [hw9]; exact Cu.drewN HR.out n9
      have HG9 : Hid (w.grownBy w9 (some b)) := by rw [hw9]; exact HG.out.trans (grown_drewN _ _ _)
      clear hw9
      go_wp2_with fail
      refine (HX4.out _ HR9.out).mono ?_
      rintro e w10 ⟨rfl, n10, hw10⟩
      have HR10 : Hid (Rs w10 B b l k) := by rw [hw10]; exact Cu.drewN HR9.out n10
      have HG10 : Hid (w.grownBy w10 (some b)) := by rw [hw10]; exact HG9.out.trans (grown_drewN _ _ _)
      clear hw10
      go_wp2_with fail
      refine (HG_s5.out _ HR10.out).mono ?_
      rintro e w11 ⟨rfl, n11, hw11⟩
      have HR11 : Hid (Rs w11 B b l k) := by rw [hw11]; exact Cu.drewN HR10.out n11
      have HG11 : Hid (w.grownBy w11 (some b)) := by rw [hw11]; exact HG10.out.trans (grown_drewN _ _ _)
      clear hw11
      go_wp2
      go_ret2
      exact ⟨rfl, HR11.out, HG11.out⟩
    · have hbf : (((⟨#[102, 110, 114, 116, 118]⟩ : ByteArray)[0]'(by decide)).toNat : Int) = 102 := rfl
      go_wp2
      go_roundw
      case rel => exact ⟨1, by decide, by rfl, trivial, HR, HG, HH⟩
      case measure => simp [intOf]
    · have hbf : (((⟨#[102, 110, 114, 116, 118]⟩ : ByteArray)[1]'(by decide)).toNat : Int) = 110 := rfl
      go_wp2
      go_roundw
      case rel => exact ⟨2, by decide, by rfl, trivial, HR, HG, HH⟩
      case measure => simp [intOf]
    · have hbf : (((⟨#[102, 110, 114, 116, 118]⟩ : ByteArray)[2]'(by decide)).toNat : Int) = 114 := rfl
      go_wp2
      go_roundw
      case rel => exact ⟨3, by decide, by rfl, trivial, HR, HG, HH⟩
      case measure => simp [intOf]
    · have hbf : (((⟨#[102, 110, 114, 116, 118]⟩ : ByteArray)[3]'(by decide)).toNat : Int) = 116 := rfl
      go_wp2
      go_roundw
      case rel => exact ⟨4, by decide, by rfl, trivial, HR, HG, HH⟩
      case measure => simp [intOf]
    · have hbf : (((⟨#[102, 110, 114, 116, 118]⟩ : ByteArray)[4]'(by decide)).toNat : Int) = 118 := rfl
      go_wp2
      go_roundw
      case rel => exact ⟨5, by decide, by rfl, trivial, HR, HG, HH⟩
      case measure => simp [intOf]

set_option maxHeartbeats 3200000 in
set_option maxRecDepth 100000 in
theorem ecu_a_neg (B b : Nat) (l : List Int) (k : Nat) (w : World) (h : Rs w B b l k) (bn hi s5 : Int) (hc : sgR (l.drop k) 0 = 117) (hbr : brR (l.drop (k + 1)) = (bn, 0)) (hhi : hxsR 4 (l.drop (k + 1)) = hi) (hs5 : sgR (l.drop k) 5 = s5) (h5 : s5 ≠ 92) (hh : hi < 0) :
    Calls Try.prog 54 #[.pointer (some ⟨b, 0, none⟩)] w (TR w B b l k 0 0) := by
  have HC := Lib.hid h
  have HS0 : Hid (Calls Try.prog 53 #[.pointer (some ⟨b, 0, none⟩), .int .i64 0] w fun e w' => e = .returned (.int .i64 (117)) ∧ ∃ n, w' = w.drewN n) := by rw [← hc]; exact sign_ref B b l k 0 w h (by omega)
  have HS1 : Hid (∀ W : World, Rs W B b l k → Calls Try.prog 53 #[.pointer (some ⟨b, 0, none⟩), .int .i64 1] W fun e w' => e = .returned (.int .i64 (sgR (l.drop k) 1)) ∧ ∃ n, w' = W.drewN n) := fun W hW => by exact sign_ref B b l k 1 W hW (by omega)
  have HBR : Hid (∀ W : World, Rs W B b l k → Calls Try.prog 60 #[.pointer (some ⟨b, 0, none⟩), .int .i64 1] W fun e w' => e = .returned (.tuple #[.int .i64 (bn), .int .i64 0]) ∧ ∃ n, w' = W.drewN n) := fun W hW => by have := brace_ref B b l k 1 W hW (by omega); rw [hbr] at this; exact this
  clear hbr
  have HX4 : Hid (∀ W : World, Rs W B b l k → Calls Try.prog 59 #[.pointer (some ⟨b, 0, none⟩), .int .i64 1, .int .i64 4] W fun e w' => e = .returned (.int .i64 (hi)) ∧ ∃ n, w' = W.drewN n) := fun W hW => by rw [← hhi]; exact hexes_ref B b l k 1 4 W hW (by omega) (by omega)
  clear hhi
  have HG_s5 : Hid (∀ W : World, Rs W B b l k → Calls Try.prog 53 #[.pointer (some ⟨b, 0, none⟩), .int .i64 5] W fun e w' => e = .returned (.int .i64 (s5)) ∧ ∃ n, w' = W.drewN n) := fun W hW => by rw [← hs5]; exact sign_ref B b l k 5 W hW (by omega)
  clear hs5
  have h5b : (s5 == 92) = false := by rw [beq_eq_false_iff_ne]; exact h5
  clear h5
  clear h hc
  generalize sgR (l.drop k) 1 = d at HS1
  go_enter Try.func54, Try.ntmps54
  go_wp2_with fail
  refine HS0.out.mono ?_
  rintro e w1 ⟨rfl, n1, hw1⟩
  have HR1 : Hid (Rs w1 B b l k) := by rw [hw1]; exact Cu.drewN HC.out n1
  have HG1 : Hid (w.grownBy w1 (some b)) := by rw [hw1]; exact grown_drewN _ _ _
  clear hw1 HS0
  go_wp2_with fail
  refine (HS1.out _ HR1.out).mono ?_
  rintro e w2 ⟨rfl, n2, hw2⟩
  have HR2 : Hid (Rs w2 B b l k) := by rw [hw2]; exact Cu.drewN HR1.out n2
  have HG2 : Hid (w.grownBy w2 (some b)) := by rw [hw2]; exact HG1.out.trans (grown_drewN _ _ _)
  clear hw2 HS1 HR1 HG1
  have HR3 := Lib.hid (fresh_row HR2.out (.cells #[.int .i64 12, .int .i64 10, .int .i64 13, .int .i64 9, .int .i64 11] 3))
  have HG3 : Hid (w.grownBy (w2.alloc (.cells #[.int .i64 12, .int .i64 10, .int .i64 13, .int .i64 9, .int .i64 11] 3)) (some b)) := HG2.out.trans (below_grown (bl_alloc w2 _) _)
  have HH3 : Hid ((w2.alloc (.cells #[.int .i64 12, .int .i64 10, .int .i64 13, .int .i64 9, .int .i64 11] 3)).heap[w2.heap.size]? = some (.cells #[.int .i64 12, .int .i64 10, .int .i64 13, .int .i64 9, .int .i64 11] 3 (0, 0))) := (MapKept.heap_alloc w2 _).1
  go_wp2
  go_loopw [8] (fun iv wr => ∃ i : Nat, i ≤ 5 ∧ iv = .int .i64 (i : Nat) ∧ True ∧ Hid (Rs wr B b l k) ∧ Hid (w.grownBy wr (some b)) ∧ Hid (wr.heap[w2.heap.size]? = some (.cells #[.int .i64 12, .int .i64 10, .int .i64 13, .int .i64 9, .int .i64 11] 3 (0, 0)))) (fun iv _ => 5 - (intOf iv).toNat)
  case atStart => exact ⟨0, by omega, rfl, trivial, HR3, HG3, HH3⟩
  case round =>
    clear HR3 HG3 HH3 HR2 HG2
    obtain ⟨i, hi, rfl, hst, HR, HG, HH⟩ := hrel
    rename World => wr
    have hcase : i = 5 ∨ i = 0 ∨ i = 1 ∨ i = 2 ∨ i = 3 ∨ i = 4 := by omega
    rcases hcase with rfl | rfl | rfl | rfl | rfl | rfl
    · clear hst
      go_wp2_with fail
      refine (HBR.out _ HR.out).mono ?_
      rintro e w9 ⟨rfl, n9, hw9⟩
      have HR9 : Hid (Rs w9 B b l k) := by rw [hw9]; exact Cu.drewN HR.out n9
      have HG9 : Hid (w.grownBy w9 (some b)) := by rw [hw9]; exact HG.out.trans (grown_drewN _ _ _)
      clear hw9
      go_wp2_with fail
      refine (HX4.out _ HR9.out).mono ?_
      rintro e w10 ⟨rfl, n10, hw10⟩
      have HR10 : Hid (Rs w10 B b l k) := by rw [hw10]; exact Cu.drewN HR9.out n10
      have HG10 : Hid (w.grownBy w10 (some b)) := by rw [hw10]; exact HG9.out.trans (grown_drewN _ _ _)
      clear hw10
      go_wp2_with fail
      refine (HG_s5.out _ HR10.out).mono ?_
      rintro e w11 ⟨rfl, n11, hw11⟩
      have HR11 : Hid (Rs w11 B b l k) := by rw [hw11]; exact Cu.drewN HR10.out n11
      have HG11 : Hid (w.grownBy w11 (some b)) := by rw [hw11]; exact HG10.out.trans (grown_drewN _ _ _)
      clear hw11
      go_wp2
      go_ret2
      exact ⟨rfl, HR11.out, HG11.out⟩
    · have hbf : (((⟨#[102, 110, 114, 116, 118]⟩ : ByteArray)[0]'(by decide)).toNat : Int) = 102 := rfl
      go_wp2
      go_roundw
      case rel => exact ⟨1, by decide, by rfl, trivial, HR, HG, HH⟩
      case measure => simp [intOf]
    · have hbf : (((⟨#[102, 110, 114, 116, 118]⟩ : ByteArray)[1]'(by decide)).toNat : Int) = 110 := rfl
      go_wp2
      go_roundw
      case rel => exact ⟨2, by decide, by rfl, trivial, HR, HG, HH⟩
      case measure => simp [intOf]
    · have hbf : (((⟨#[102, 110, 114, 116, 118]⟩ : ByteArray)[2]'(by decide)).toNat : Int) = 114 := rfl
      go_wp2
      go_roundw
      case rel => exact ⟨3, by decide, by rfl, trivial, HR, HG, HH⟩
      case measure => simp [intOf]
    · have hbf : (((⟨#[102, 110, 114, 116, 118]⟩ : ByteArray)[3]'(by decide)).toNat : Int) = 116 := rfl
      go_wp2
      go_roundw
      case rel => exact ⟨4, by decide, by rfl, trivial, HR, HG, HH⟩
      case measure => simp [intOf]
    · have hbf : (((⟨#[102, 110, 114, 116, 118]⟩ : ByteArray)[4]'(by decide)).toNat : Int) = 118 := rfl
      go_wp2
      go_roundw
      case rel => exact ⟨5, by decide, by rfl, trivial, HR, HG, HH⟩
      case measure => simp [intOf]

set_option maxHeartbeats 3200000 in
set_option maxRecDepth 100000 in
theorem ecu_b_pos (B b : Nat) (l : List Int) (k : Nat) (w : World) (h : Rs w B b l k) (bn hi s6 : Int) (hc : sgR (l.drop k) 0 = 117) (hbr : brR (l.drop (k + 1)) = (bn, 0)) (hhi : hxsR 4 (l.drop (k + 1)) = hi) (hs5 : sgR (l.drop k) 5 = 92) (hs6 : sgR (l.drop k) 6 = s6) (h6 : s6 ≠ 117) (hh : 0 ≤ hi) :
    Calls Try.prog 54 #[.pointer (some ⟨b, 0, none⟩)] w (TR w B b l k hi 5) := by
  have HC := Lib.hid h
  have HS0 : Hid (Calls Try.prog 53 #[.pointer (some ⟨b, 0, none⟩), .int .i64 0] w fun e w' => e = .returned (.int .i64 (117)) ∧ ∃ n, w' = w.drewN n) := by rw [← hc]; exact sign_ref B b l k 0 w h (by omega)
  have HS1 : Hid (∀ W : World, Rs W B b l k → Calls Try.prog 53 #[.pointer (some ⟨b, 0, none⟩), .int .i64 1] W fun e w' => e = .returned (.int .i64 (sgR (l.drop k) 1)) ∧ ∃ n, w' = W.drewN n) := fun W hW => by exact sign_ref B b l k 1 W hW (by omega)
  have HBR : Hid (∀ W : World, Rs W B b l k → Calls Try.prog 60 #[.pointer (some ⟨b, 0, none⟩), .int .i64 1] W fun e w' => e = .returned (.tuple #[.int .i64 (bn), .int .i64 0]) ∧ ∃ n, w' = W.drewN n) := fun W hW => by have := brace_ref B b l k 1 W hW (by omega); rw [hbr] at this; exact this
  clear hbr
  have HX4 : Hid (∀ W : World, Rs W B b l k → Calls Try.prog 59 #[.pointer (some ⟨b, 0, none⟩), .int .i64 1, .int .i64 4] W fun e w' => e = .returned (.int .i64 (hi)) ∧ ∃ n, w' = W.drewN n) := fun W hW => by rw [← hhi]; exact hexes_ref B b l k 1 4 W hW (by omega) (by omega)
  clear hhi
  have HG_s5 : Hid (∀ W : World, Rs W B b l k → Calls Try.prog 53 #[.pointer (some ⟨b, 0, none⟩), .int .i64 5] W fun e w' => e = .returned (.int .i64 (92)) ∧ ∃ n, w' = W.drewN n) := fun W hW => by rw [← hs5]; exact sign_ref B b l k 5 W hW (by omega)
  clear hs5
  have HG_s6 : Hid (∀ W : World, Rs W B b l k → Calls Try.prog 53 #[.pointer (some ⟨b, 0, none⟩), .int .i64 6] W fun e w' => e = .returned (.int .i64 (s6)) ∧ ∃ n, w' = W.drewN n) := fun W hW => by rw [← hs6]; exact sign_ref B b l k 6 W hW (by omega)
  clear hs6
  have h6b : (s6 == 117) = false := by rw [beq_eq_false_iff_ne]; exact h6
  clear h6
  clear h hc
  generalize sgR (l.drop k) 1 = d at HS1
  go_enter Try.func54, Try.ntmps54
  go_wp2_with fail
  refine HS0.out.mono ?_
  rintro e w1 ⟨rfl, n1, hw1⟩
  have HR1 : Hid (Rs w1 B b l k) := by rw [hw1]; exact Cu.drewN HC.out n1
  have HG1 : Hid (w.grownBy w1 (some b)) := by rw [hw1]; exact grown_drewN _ _ _
  clear hw1 HS0
  go_wp2_with fail
  refine (HS1.out _ HR1.out).mono ?_
  rintro e w2 ⟨rfl, n2, hw2⟩
  have HR2 : Hid (Rs w2 B b l k) := by rw [hw2]; exact Cu.drewN HR1.out n2
  have HG2 : Hid (w.grownBy w2 (some b)) := by rw [hw2]; exact HG1.out.trans (grown_drewN _ _ _)
  clear hw2 HS1 HR1 HG1
  have HR3 := Lib.hid (fresh_row HR2.out (.cells #[.int .i64 12, .int .i64 10, .int .i64 13, .int .i64 9, .int .i64 11] 3))
  have HG3 : Hid (w.grownBy (w2.alloc (.cells #[.int .i64 12, .int .i64 10, .int .i64 13, .int .i64 9, .int .i64 11] 3)) (some b)) := HG2.out.trans (below_grown (bl_alloc w2 _) _)
  have HH3 : Hid ((w2.alloc (.cells #[.int .i64 12, .int .i64 10, .int .i64 13, .int .i64 9, .int .i64 11] 3)).heap[w2.heap.size]? = some (.cells #[.int .i64 12, .int .i64 10, .int .i64 13, .int .i64 9, .int .i64 11] 3 (0, 0))) := (MapKept.heap_alloc w2 _).1
  go_wp2
  go_loopw [8] (fun iv wr => ∃ i : Nat, i ≤ 5 ∧ iv = .int .i64 (i : Nat) ∧ True ∧ Hid (Rs wr B b l k) ∧ Hid (w.grownBy wr (some b)) ∧ Hid (wr.heap[w2.heap.size]? = some (.cells #[.int .i64 12, .int .i64 10, .int .i64 13, .int .i64 9, .int .i64 11] 3 (0, 0)))) (fun iv _ => 5 - (intOf iv).toNat)
  case atStart => exact ⟨0, by omega, rfl, trivial, HR3, HG3, HH3⟩
  case round =>
    clear HR3 HG3 HH3 HR2 HG2
    obtain ⟨i, hi, rfl, hst, HR, HG, HH⟩ := hrel
    rename World => wr
    have hcase : i = 5 ∨ i = 0 ∨ i = 1 ∨ i = 2 ∨ i = 3 ∨ i = 4 := by omega
    rcases hcase with rfl | rfl | rfl | rfl | rfl | rfl
    · clear hst
      go_wp2_with fail
      refine (HBR.out _ HR.out).mono ?_
      rintro e w9 ⟨rfl, n9, hw9⟩
      have HR9 : Hid (Rs w9 B b l k) := by rw [hw9]; exact Cu.drewN HR.out n9
      have HG9 : Hid (w.grownBy w9 (some b)) := by rw [hw9]; exact HG.out.trans (grown_drewN _ _ _)
      clear hw9
      go_wp2_with fail
      refine (HX4.out _ HR9.out).mono ?_
      rintro e w10 ⟨rfl, n10, hw10⟩
      have HR10 : Hid (Rs w10 B b l k) := by rw [hw10]; exact Cu.drewN HR9.out n10
      have HG10 : Hid (w.grownBy w10 (some b)) := by rw [hw10]; exact HG9.out.trans (grown_drewN _ _ _)
      clear hw10
      go_wp2_with fail
      refine (HG_s5.out _ HR10.out).mono ?_
      rintro e w11 ⟨rfl, n11, hw11⟩
      have HR11 : Hid (Rs w11 B b l k) := by rw [hw11]; exact Cu.drewN HR10.out n11
      have HG11 : Hid (w.grownBy w11 (some b)) := by rw [hw11]; exact HG10.out.trans (grown_drewN _ _ _)
      clear hw11
      go_wp2_with (go_at_call 53; refine (HG_s6.out _ HR11.out).mono ?_; rintro e w12 ⟨rfl, n12, hw12⟩; have HR12 : Hid (Rs w12 B b l k) := by { rw [hw12]; exact Cu.drewN HR11.out n12 }; have HG12 : Hid (w.grownBy w12 (some b)) := by { rw [hw12]; exact HG11.out.trans (grown_drewN _ _ _) }; clear hw12)
      go_ret2
      exact ⟨rfl, HR12.out, HG12.out⟩
    · have hbf : (((⟨#[102, 110, 114, 116, 118]⟩ : ByteArray)[0]'(by decide)).toNat : Int) = 102 := rfl
      go_wp2
      go_roundw
      case rel => exact ⟨1, by decide, by rfl, trivial, HR, HG, HH⟩
      case measure => simp [intOf]
    · have hbf : (((⟨#[102, 110, 114, 116, 118]⟩ : ByteArray)[1]'(by decide)).toNat : Int) = 110 := rfl
      go_wp2
      go_roundw
      case rel => exact ⟨2, by decide, by rfl, trivial, HR, HG, HH⟩
      case measure => simp [intOf]
    · have hbf : (((⟨#[102, 110, 114, 116, 118]⟩ : ByteArray)[2]'(by decide)).toNat : Int) = 114 := rfl
      go_wp2
      go_roundw
      case rel => exact ⟨3, by decide, by rfl, trivial, HR, HG, HH⟩
      case measure => simp [intOf]
    · have hbf : (((⟨#[102, 110, 114, 116, 118]⟩ : ByteArray)[3]'(by decide)).toNat : Int) = 116 := rfl
      go_wp2
      go_roundw
      case rel => exact ⟨4, by decide, by rfl, trivial, HR, HG, HH⟩
      case measure => simp [intOf]
    · have hbf : (((⟨#[102, 110, 114, 116, 118]⟩ : ByteArray)[4]'(by decide)).toNat : Int) = 118 := rfl
      go_wp2
      go_roundw
      case rel => exact ⟨5, by decide, by rfl, trivial, HR, HG, HH⟩
      case measure => simp [intOf]

set_option maxHeartbeats 3200000 in
set_option maxRecDepth 100000 in
theorem ecu_b_neg (B b : Nat) (l : List Int) (k : Nat) (w : World) (h : Rs w B b l k) (bn hi s6 : Int) (hc : sgR (l.drop k) 0 = 117) (hbr : brR (l.drop (k + 1)) = (bn, 0)) (hhi : hxsR 4 (l.drop (k + 1)) = hi) (hs5 : sgR (l.drop k) 5 = 92) (hs6 : sgR (l.drop k) 6 = s6) (h6 : s6 ≠ 117) (hh : hi < 0) :
    Calls Try.prog 54 #[.pointer (some ⟨b, 0, none⟩)] w (TR w B b l k 0 0) := by
  have HC := Lib.hid h
  have HS0 : Hid (Calls Try.prog 53 #[.pointer (some ⟨b, 0, none⟩), .int .i64 0] w fun e w' => e = .returned (.int .i64 (117)) ∧ ∃ n, w' = w.drewN n) := by rw [← hc]; exact sign_ref B b l k 0 w h (by omega)
  have HS1 : Hid (∀ W : World, Rs W B b l k → Calls Try.prog 53 #[.pointer (some ⟨b, 0, none⟩), .int .i64 1] W fun e w' => e = .returned (.int .i64 (sgR (l.drop k) 1)) ∧ ∃ n, w' = W.drewN n) := fun W hW => by exact sign_ref B b l k 1 W hW (by omega)
  have HBR : Hid (∀ W : World, Rs W B b l k → Calls Try.prog 60 #[.pointer (some ⟨b, 0, none⟩), .int .i64 1] W fun e w' => e = .returned (.tuple #[.int .i64 (bn), .int .i64 0]) ∧ ∃ n, w' = W.drewN n) := fun W hW => by have := brace_ref B b l k 1 W hW (by omega); rw [hbr] at this; exact this
  clear hbr
  have HX4 : Hid (∀ W : World, Rs W B b l k → Calls Try.prog 59 #[.pointer (some ⟨b, 0, none⟩), .int .i64 1, .int .i64 4] W fun e w' => e = .returned (.int .i64 (hi)) ∧ ∃ n, w' = W.drewN n) := fun W hW => by rw [← hhi]; exact hexes_ref B b l k 1 4 W hW (by omega) (by omega)
  clear hhi
  have HG_s5 : Hid (∀ W : World, Rs W B b l k → Calls Try.prog 53 #[.pointer (some ⟨b, 0, none⟩), .int .i64 5] W fun e w' => e = .returned (.int .i64 (92)) ∧ ∃ n, w' = W.drewN n) := fun W hW => by rw [← hs5]; exact sign_ref B b l k 5 W hW (by omega)
  clear hs5
  have HG_s6 : Hid (∀ W : World, Rs W B b l k → Calls Try.prog 53 #[.pointer (some ⟨b, 0, none⟩), .int .i64 6] W fun e w' => e = .returned (.int .i64 (s6)) ∧ ∃ n, w' = W.drewN n) := fun W hW => by rw [← hs6]; exact sign_ref B b l k 6 W hW (by omega)
  clear hs6
  have h6b : (s6 == 117) = false := by rw [beq_eq_false_iff_ne]; exact h6
  clear h6
  clear h hc
  generalize sgR (l.drop k) 1 = d at HS1
  go_enter Try.func54, Try.ntmps54
  go_wp2_with fail
  refine HS0.out.mono ?_
  rintro e w1 ⟨rfl, n1, hw1⟩
  have HR1 : Hid (Rs w1 B b l k) := by rw [hw1]; exact Cu.drewN HC.out n1
  have HG1 : Hid (w.grownBy w1 (some b)) := by rw [hw1]; exact grown_drewN _ _ _
  clear hw1 HS0
  go_wp2_with fail
  refine (HS1.out _ HR1.out).mono ?_
  rintro e w2 ⟨rfl, n2, hw2⟩
  have HR2 : Hid (Rs w2 B b l k) := by rw [hw2]; exact Cu.drewN HR1.out n2
  have HG2 : Hid (w.grownBy w2 (some b)) := by rw [hw2]; exact HG1.out.trans (grown_drewN _ _ _)
  clear hw2 HS1 HR1 HG1
  have HR3 := Lib.hid (fresh_row HR2.out (.cells #[.int .i64 12, .int .i64 10, .int .i64 13, .int .i64 9, .int .i64 11] 3))
  have HG3 : Hid (w.grownBy (w2.alloc (.cells #[.int .i64 12, .int .i64 10, .int .i64 13, .int .i64 9, .int .i64 11] 3)) (some b)) := HG2.out.trans (below_grown (bl_alloc w2 _) _)
  have HH3 : Hid ((w2.alloc (.cells #[.int .i64 12, .int .i64 10, .int .i64 13, .int .i64 9, .int .i64 11] 3)).heap[w2.heap.size]? = some (.cells #[.int .i64 12, .int .i64 10, .int .i64 13, .int .i64 9, .int .i64 11] 3 (0, 0))) := (MapKept.heap_alloc w2 _).1
  go_wp2
  go_loopw [8] (fun iv wr => ∃ i : Nat, i ≤ 5 ∧ iv = .int .i64 (i : Nat) ∧ True ∧ Hid (Rs wr B b l k) ∧ Hid (w.grownBy wr (some b)) ∧ Hid (wr.heap[w2.heap.size]? = some (.cells #[.int .i64 12, .int .i64 10, .int .i64 13, .int .i64 9, .int .i64 11] 3 (0, 0)))) (fun iv _ => 5 - (intOf iv).toNat)
  case atStart => exact ⟨0, by omega, rfl, trivial, HR3, HG3, HH3⟩
  case round =>
    clear HR3 HG3 HH3 HR2 HG2
    obtain ⟨i, hi, rfl, hst, HR, HG, HH⟩ := hrel
    rename World => wr
    have hcase : i = 5 ∨ i = 0 ∨ i = 1 ∨ i = 2 ∨ i = 3 ∨ i = 4 := by omega
    rcases hcase with rfl | rfl | rfl | rfl | rfl | rfl
    · clear hst
      go_wp2_with fail
      refine (HBR.out _ HR.out).mono ?_
      rintro e w9 ⟨rfl, n9, hw9⟩
      have HR9 : Hid (Rs w9 B b l k) := by rw [hw9]; exact Cu.drewN HR.out n9
      have HG9 : Hid (w.grownBy w9 (some b)) := by rw [hw9]; exact HG.out.trans (grown_drewN _ _ _)
      clear hw9
      go_wp2_with fail
      refine (HX4.out _ HR9.out).mono ?_
      rintro e w10 ⟨rfl, n10, hw10⟩
      have HR10 : Hid (Rs w10 B b l k) := by rw [hw10]; exact Cu.drewN HR9.out n10
      have HG10 : Hid (w.grownBy w10 (some b)) := by rw [hw10]; exact HG9.out.trans (grown_drewN _ _ _)
      clear hw10
      go_wp2_with fail
      refine (HG_s5.out _ HR10.out).mono ?_
      rintro e w11 ⟨rfl, n11, hw11⟩
      have HR11 : Hid (Rs w11 B b l k) := by rw [hw11]; exact Cu.drewN HR10.out n11
      have HG11 : Hid (w.grownBy w11 (some b)) := by rw [hw11]; exact HG10.out.trans (grown_drewN _ _ _)
      clear hw11
      go_wp2_with (go_at_call 53; refine (HG_s6.out _ HR11.out).mono ?_; rintro e w12 ⟨rfl, n12, hw12⟩; have HR12 : Hid (Rs w12 B b l k) := by { rw [hw12]; exact Cu.drewN HR11.out n12 }; have HG12 : Hid (w.grownBy w12 (some b)) := by { rw [hw12]; exact HG11.out.trans (grown_drewN _ _ _) }; clear hw12)
      go_ret2
      exact ⟨rfl, HR12.out, HG12.out⟩
    · have hbf : (((⟨#[102, 110, 114, 116, 118]⟩ : ByteArray)[0]'(by decide)).toNat : Int) = 102 := rfl
      go_wp2
      go_roundw
      case rel => exact ⟨1, by decide, by rfl, trivial, HR, HG, HH⟩
      case measure => simp [intOf]
    · have hbf : (((⟨#[102, 110, 114, 116, 118]⟩ : ByteArray)[1]'(by decide)).toNat : Int) = 110 := rfl
      go_wp2
      go_roundw
      case rel => exact ⟨2, by decide, by rfl, trivial, HR, HG, HH⟩
      case measure => simp [intOf]
    · have hbf : (((⟨#[102, 110, 114, 116, 118]⟩ : ByteArray)[2]'(by decide)).toNat : Int) = 114 := rfl
      go_wp2
      go_roundw
      case rel => exact ⟨3, by decide, by rfl, trivial, HR, HG, HH⟩
      case measure => simp [intOf]
    · have hbf : (((⟨#[102, 110, 114, 116, 118]⟩ : ByteArray)[3]'(by decide)).toNat : Int) = 116 := rfl
      go_wp2
      go_roundw
      case rel => exact ⟨4, by decide, by rfl, trivial, HR, HG, HH⟩
      case measure => simp [intOf]
    · have hbf : (((⟨#[102, 110, 114, 116, 118]⟩ : ByteArray)[4]'(by decide)).toNat : Int) = 118 := rfl
      go_wp2
      go_roundw
      case rel => exact ⟨5, by decide, by rfl, trivial, HR, HG, HH⟩
      case measure => simp [intOf]

set_option maxHeartbeats 3200000 in
set_option maxRecDepth 100000 in
theorem ecu_c_pos (B b : Nat) (l : List Int) (k : Nat) (w : World) (h : Rs w B b l k) (bn hi lo : Int) (hc : sgR (l.drop k) 0 = 117) (hbr : brR (l.drop (k + 1)) = (bn, 0)) (hhi : hxsR 4 (l.drop (k + 1)) = hi) (hs5 : sgR (l.drop k) 5 = 92) (hs6 : sgR (l.drop k) 6 = 117) (hlo : hxsR 4 (l.drop (k + 7)) = lo) (hpo : ¬ PairOk hi lo) (hh : 0 ≤ hi) :
    Calls Try.prog 54 #[.pointer (some ⟨b, 0, none⟩)] w (TR w B b l k hi 5) := by
  have HC := Lib.hid h
  have HS0 : Hid (Calls Try.prog 53 #[.pointer (some ⟨b, 0, none⟩), .int .i64 0] w fun e w' => e = .returned (.int .i64 (117)) ∧ ∃ n, w' = w.drewN n) := by rw [← hc]; exact sign_ref B b l k 0 w h (by omega)
  have HS1 : Hid (∀ W : World, Rs W B b l k → Calls Try.prog 53 #[.pointer (some ⟨b, 0, none⟩), .int .i64 1] W fun e w' => e = .returned (.int .i64 (sgR (l.drop k) 1)) ∧ ∃ n, w' = W.drewN n) := fun W hW => by exact sign_ref B b l k 1 W hW (by omega)
  have HBR : Hid (∀ W : World, Rs W B b l k → Calls Try.prog 60 #[.pointer (some ⟨b, 0, none⟩), .int .i64 1] W fun e w' => e = .returned (.tuple #[.int .i64 (bn), .int .i64 0]) ∧ ∃ n, w' = W.drewN n) := fun W hW => by have := brace_ref B b l k 1 W hW (by omega); rw [hbr] at this; exact this
  clear hbr
  have HX4 : Hid (∀ W : World, Rs W B b l k → Calls Try.prog 59 #[.pointer (some ⟨b, 0, none⟩), .int .i64 1, .int .i64 4] W fun e w' => e = .returned (.int .i64 (hi)) ∧ ∃ n, w' = W.drewN n) := fun W hW => by rw [← hhi]; exact hexes_ref B b l k 1 4 W hW (by omega) (by omega)
  clear hhi
  have HG_s5 : Hid (∀ W : World, Rs W B b l k → Calls Try.prog 53 #[.pointer (some ⟨b, 0, none⟩), .int .i64 5] W fun e w' => e = .returned (.int .i64 (92)) ∧ ∃ n, w' = W.drewN n) := fun W hW => by rw [← hs5]; exact sign_ref B b l k 5 W hW (by omega)
  clear hs5
  have HG_s6 : Hid (∀ W : World, Rs W B b l k → Calls Try.prog 53 #[.pointer (some ⟨b, 0, none⟩), .int .i64 6] W fun e w' => e = .returned (.int .i64 (117)) ∧ ∃ n, w' = W.drewN n) := fun W hW => by rw [← hs6]; exact sign_ref B b l k 6 W hW (by omega)
  clear hs6
  have HXL : Hid (∀ W : World, Rs W B b l k → Calls Try.prog 59 #[.pointer (some ⟨b, 0, none⟩), .int .i64 7, .int .i64 4] W fun e w' => e = .returned (.int .i64 (lo)) ∧ ∃ n, w' = W.drewN n) := fun W hW => by rw [← hlo]; exact hexes_ref B b l k 7 4 W hW (by omega) (by omega)
  clear hlo
  have HPO := Lib.hid hpo
  clear hpo
  clear h hc
  generalize sgR (l.drop k) 1 = d at HS1
  go_enter Try.func54, Try.ntmps54
  go_wp2_with fail
  refine HS0.out.mono ?_
  rintro e w1 ⟨rfl, n1, hw1⟩
  have HR1 : Hid (Rs w1 B b l k) := by rw [hw1]; exact Cu.drewN HC.out n1
  have HG1 : Hid (w.grownBy w1 (some b)) := by rw [hw1]; exact grown_drewN _ _ _
  clear hw1 HS0
  go_wp2_with fail
  refine (HS1.out _ HR1.out).mono ?_
  rintro e w2 ⟨rfl, n2, hw2⟩
  have HR2 : Hid (Rs w2 B b l k) := by rw [hw2]; exact Cu.drewN HR1.out n2
  have HG2 : Hid (w.grownBy w2 (some b)) := by rw [hw2]; exact HG1.out.trans (grown_drewN _ _ _)
  clear hw2 HS1 HR1 HG1
  have HR3 := Lib.hid (fresh_row HR2.out (.cells #[.int .i64 12, .int .i64 10, .int .i64 13, .int .i64 9, .int .i64 11] 3))
  have HG3 : Hid (w.grownBy (w2.alloc (.cells #[.int .i64 12, .int .i64 10, .int .i64 13, .int .i64 9, .int .i64 11] 3)) (some b)) := HG2.out.trans (below_grown (bl_alloc w2 _) _)
  have HH3 : Hid ((w2.alloc (.cells #[.int .i64 12, .int .i64 10, .int .i64 13, .int .i64 9, .int .i64 11] 3)).heap[w2.heap.size]? = some (.cells #[.int .i64 12, .int .i64 10, .int .i64 13, .int .i64 9, .int .i64 11] 3 (0, 0))) := (MapKept.heap_alloc w2 _).1
  go_wp2
  go_loopw [8] (fun iv wr => ∃ i : Nat, i ≤ 5 ∧ iv = .int .i64 (i : Nat) ∧ True ∧ Hid (Rs wr B b l k) ∧ Hid (w.grownBy wr (some b)) ∧ Hid (wr.heap[w2.heap.size]? = some (.cells #[.int .i64 12, .int .i64 10, .int .i64 13, .int .i64 9, .int .i64 11] 3 (0, 0)))) (fun iv _ => 5 - (intOf iv).toNat)
  case atStart => exact ⟨0, by omega, rfl, trivial, HR3, HG3, HH3⟩
  case round =>
    clear HR3 HG3 HH3 HR2 HG2
    obtain ⟨i, hi, rfl, hst, HR, HG, HH⟩ := hrel
    rename World => wr
    have hcase : i = 5 ∨ i = 0 ∨ i = 1 ∨ i = 2 ∨ i = 3 ∨ i = 4 := by omega
    rcases hcase with rfl | rfl | rfl | rfl | rfl | rfl
    · clear hst
      go_wp2_with fail
      refine (HBR.out _ HR.out).mono ?_
      rintro e w9 ⟨rfl, n9, hw9⟩
      have HR9 : Hid (Rs w9 B b l k) := by rw [hw9]; exact Cu.drewN HR.out n9
      have HG9 : Hid (w.grownBy w9 (some b)) := by rw [hw9]; exact HG.out.trans (grown_drewN _ _ _)
      clear hw9
      go_wp2_with fail
      refine (HX4.out _ HR9.out).mono ?_
      rintro e w10 ⟨rfl, n10, hw10⟩
      have HR10 : Hid (Rs w10 B b l k) := by rw [hw10]; exact Cu.drewN HR9.out n10
      have HG10 : Hid (w.grownBy w10 (some b)) := by rw [hw10]; exact HG9.out.trans (grown_drewN _ _ _)
      clear hw10
      go_wp2_with fail
      refine (HG_s5.out _ HR10.out).mono ?_
      rintro e w11 ⟨rfl, n11, hw11⟩
      have HR11 : Hid (Rs w11 B b l k) := by rw [hw11]; exact Cu.drewN HR10.out n11
      have HG11 : Hid (w.grownBy w11 (some b)) := by rw [hw11]; exact HG10.out.trans (grown_drewN _ _ _)
      clear hw11
      go_wp2_with (go_at_call 53; refine (HG_s6.out _ HR11.out).mono ?_; rintro e w12 ⟨rfl, n12, hw12⟩; have HR12 : Hid (Rs w12 B b l k) := by { rw [hw12]; exact Cu.drewN HR11.out n12 }; have HG12 : Hid (w.grownBy w12 (some b)) := by { rw [hw12]; exact HG11.out.trans (grown_drewN _ _ _) }; clear hw12)
      refine (HXL.out _ HR12.out).mono ?_
      rintro e w13 ⟨rfl, n13, hw13⟩
      have HR13 : Hid (Rs w13 B b l k) := by rw [hw13]; exact Cu.drewN HR12.out n13
      have HG13 : Hid (w.grownBy w13 (some b)) := by rw [hw13]; exact HG12.out.trans (grown_drewN _ _ _)
      clear hw13
      go_wp2_with (go_at_call 61; refine (rpair_no _ _ _ HPO.out).mono ?_; rintro e w14 ⟨rfl, rfl⟩)
      go_ret2
      exact ⟨rfl, HR13.out, HG13.out⟩
    · have hbf : (((⟨#[102, 110, 114, 116, 118]⟩ : ByteArray)[0]'(by decide)).toNat : Int) = 102 := rfl
      go_wp2
      go_roundw
      case rel => exact ⟨1, by decide, by rfl, trivial, HR, HG, HH⟩
      case measure => simp [intOf]
    · have hbf : (((⟨#[102, 110, 114, 116, 118]⟩ : ByteArray)[1]'(by decide)).toNat : Int) = 110 := rfl
      go_wp2
      go_roundw
      case rel => exact ⟨2, by decide, by rfl, trivial, HR, HG, HH⟩
      case measure => simp [intOf]
    · have hbf : (((⟨#[102, 110, 114, 116, 118]⟩ : ByteArray)[2]'(by decide)).toNat : Int) = 114 := rfl
      go_wp2
      go_roundw
      case rel => exact ⟨3, by decide, by rfl, trivial, HR, HG, HH⟩
      case measure => simp [intOf]
    · have hbf : (((⟨#[102, 110, 114, 116, 118]⟩ : ByteArray)[3]'(by decide)).toNat : Int) = 116 := rfl
      go_wp2
      go_roundw
      case rel => exact ⟨4, by decide, by rfl, trivial, HR, HG, HH⟩
      case measure => simp [intOf]
    · have hbf : (((⟨#[102, 110, 114, 116, 118]⟩ : ByteArray)[4]'(by decide)).toNat : Int) = 118 := rfl
      go_wp2
      go_roundw
      case rel => exact ⟨5, by decide, by rfl, trivial, HR, HG, HH⟩
      case measure => simp [intOf]

set_option maxHeartbeats 3200000 in
set_option maxRecDepth 100000 in
theorem ecu_c_neg (B b : Nat) (l : List Int) (k : Nat) (w : World) (h : Rs w B b l k) (bn hi lo : Int) (hc : sgR (l.drop k) 0 = 117) (hbr : brR (l.drop (k + 1)) = (bn, 0)) (hhi : hxsR 4 (l.drop (k + 1)) = hi) (hs5 : sgR (l.drop k) 5 = 92) (hs6 : sgR (l.drop k) 6 = 117) (hlo : hxsR 4 (l.drop (k + 7)) = lo) (hpo : ¬ PairOk hi lo) (hh : hi < 0) :
    Calls Try.prog 54 #[.pointer (some ⟨b, 0, none⟩)] w (TR w B b l k 0 0) := by
  have HC := Lib.hid h
  have HS0 : Hid (Calls Try.prog 53 #[.pointer (some ⟨b, 0, none⟩), .int .i64 0] w fun e w' => e = .returned (.int .i64 (117)) ∧ ∃ n, w' = w.drewN n) := by rw [← hc]; exact sign_ref B b l k 0 w h (by omega)
  have HS1 : Hid (∀ W : World, Rs W B b l k → Calls Try.prog 53 #[.pointer (some ⟨b, 0, none⟩), .int .i64 1] W fun e w' => e = .returned (.int .i64 (sgR (l.drop k) 1)) ∧ ∃ n, w' = W.drewN n) := fun W hW => by exact sign_ref B b l k 1 W hW (by omega)
  have HBR : Hid (∀ W : World, Rs W B b l k → Calls Try.prog 60 #[.pointer (some ⟨b, 0, none⟩), .int .i64 1] W fun e w' => e = .returned (.tuple #[.int .i64 (bn), .int .i64 0]) ∧ ∃ n, w' = W.drewN n) := fun W hW => by have := brace_ref B b l k 1 W hW (by omega); rw [hbr] at this; exact this
  clear hbr
  have HX4 : Hid (∀ W : World, Rs W B b l k → Calls Try.prog 59 #[.pointer (some ⟨b, 0, none⟩), .int .i64 1, .int .i64 4] W fun e w' => e = .returned (.int .i64 (hi)) ∧ ∃ n, w' = W.drewN n) := fun W hW => by rw [← hhi]; exact hexes_ref B b l k 1 4 W hW (by omega) (by omega)
  clear hhi
  have HG_s5 : Hid (∀ W : World, Rs W B b l k → Calls Try.prog 53 #[.pointer (some ⟨b, 0, none⟩), .int .i64 5] W fun e w' => e = .returned (.int .i64 (92)) ∧ ∃ n, w' = W.drewN n) := fun W hW => by rw [← hs5]; exact sign_ref B b l k 5 W hW (by omega)
  clear hs5
  have HG_s6 : Hid (∀ W : World, Rs W B b l k → Calls Try.prog 53 #[.pointer (some ⟨b, 0, none⟩), .int .i64 6] W fun e w' => e = .returned (.int .i64 (117)) ∧ ∃ n, w' = W.drewN n) := fun W hW => by rw [← hs6]; exact sign_ref B b l k 6 W hW (by omega)
  clear hs6
  have HXL : Hid (∀ W : World, Rs W B b l k → Calls Try.prog 59 #[.pointer (some ⟨b, 0, none⟩), .int .i64 7, .int .i64 4] W fun e w' => e = .returned (.int .i64 (lo)) ∧ ∃ n, w' = W.drewN n) := fun W hW => by rw [← hlo]; exact hexes_ref B b l k 7 4 W hW (by omega) (by omega)
  clear hlo
  have HPO := Lib.hid hpo
  clear hpo
  clear h hc
  generalize sgR (l.drop k) 1 = d at HS1
  go_enter Try.func54, Try.ntmps54
  go_wp2_with fail
  refine HS0.out.mono ?_
  rintro e w1 ⟨rfl, n1, hw1⟩
  have HR1 : Hid (Rs w1 B b l k) := by rw [hw1]; exact Cu.drewN HC.out n1
  have HG1 : Hid (w.grownBy w1 (some b)) := by rw [hw1]; exact grown_drewN _ _ _
  clear hw1 HS0
  go_wp2_with fail
  refine (HS1.out _ HR1.out).mono ?_
  rintro e w2 ⟨rfl, n2, hw2⟩
  have HR2 : Hid (Rs w2 B b l k) := by rw [hw2]; exact Cu.drewN HR1.out n2
  have HG2 : Hid (w.grownBy w2 (some b)) := by rw [hw2]; exact HG1.out.trans (grown_drewN _ _ _)
  clear hw2 HS1 HR1 HG1
  have HR3 := Lib.hid (fresh_row HR2.out (.cells #[.int .i64 12, .int .i64 10, .int .i64 13, .int .i64 9, .int .i64 11] 3))
  have HG3 : Hid (w.grownBy (w2.alloc (.cells #[.int .i64 12, .int .i64 10, .int .i64 13, .int .i64 9, .int .i64 11] 3)) (some b)) := HG2.out.trans (below_grown (bl_alloc w2 _) _)
  have HH3 : Hid ((w2.alloc (.cells #[.int .i64 12, .int .i64 10, .int .i64 13, .int .i64 9, .int .i64 11] 3)).heap[w2.heap.size]? = some (.cells #[.int .i64 12, .int .i64 10, .int .i64 13, .int .i64 9, .int .i64 11] 3 (0, 0))) := (MapKept.heap_alloc w2 _).1
  go_wp2
  go_loopw [8] (fun iv wr => ∃ i : Nat, i ≤ 5 ∧ iv = .int .i64 (i : Nat) ∧ True ∧ Hid (Rs wr B b l k) ∧ Hid (w.grownBy wr (some b)) ∧ Hid (wr.heap[w2.heap.size]? = some (.cells #[.int .i64 12, .int .i64 10, .int .i64 13, .int .i64 9, .int .i64 11] 3 (0, 0)))) (fun iv _ => 5 - (intOf iv).toNat)
  case atStart => exact ⟨0, by omega, rfl, trivial, HR3, HG3, HH3⟩
  case round =>
    clear HR3 HG3 HH3 HR2 HG2
    obtain ⟨i, hi, rfl, hst, HR, HG, HH⟩ := hrel
    rename World => wr
    have hcase : i = 5 ∨ i = 0 ∨ i = 1 ∨ i = 2 ∨ i = 3 ∨ i = 4 := by omega
    rcases hcase with rfl | rfl | rfl | rfl | rfl | rfl
    · clear hst
      go_wp2_with fail
      refine (HBR.out _ HR.out).mono ?_
      rintro e w9 ⟨rfl, n9, hw9⟩
      have HR9 : Hid (Rs w9 B b l k) := by rw [hw9]; exact Cu.drewN HR.out n9
      have HG9 : Hid (w.grownBy w9 (some b)) := by rw [hw9]; exact HG.out.trans (grown_drewN _ _ _)
      clear hw9
      go_wp2_with fail
      refine (HX4.out _ HR9.out).mono ?_
      rintro e w10 ⟨rfl, n10, hw10⟩
      have HR10 : Hid (Rs w10 B b l k) := by rw [hw10]; exact Cu.drewN HR9.out n10
      have HG10 : Hid (w.grownBy w10 (some b)) := by rw [hw10]; exact HG9.out.trans (grown_drewN _ _ _)
      clear hw10
      go_wp2_with fail
      refine (HG_s5.out _ HR10.out).mono ?_
      rintro e w11 ⟨rfl, n11, hw11⟩
      have HR11 : Hid (Rs w11 B b l k) := by rw [hw11]; exact Cu.drewN HR10.out n11
      have HG11 : Hid (w.grownBy w11 (some b)) := by rw [hw11]; exact HG10.out.trans (grown_drewN _ _ _)
      clear hw11
      go_wp2_with (go_at_call 53; refine (HG_s6.out _ HR11.out).mono ?_; rintro e w12 ⟨rfl, n12, hw12⟩; have HR12 : Hid (Rs w12 B b l k) := by { rw [hw12]; exact Cu.drewN HR11.out n12 }; have HG12 : Hid (w.grownBy w12 (some b)) := by { rw [hw12]; exact HG11.out.trans (grown_drewN _ _ _) }; clear hw12)
      refine (HXL.out _ HR12.out).mono ?_
      rintro e w13 ⟨rfl, n13, hw13⟩
      have HR13 : Hid (Rs w13 B b l k) := by rw [hw13]; exact Cu.drewN HR12.out n13
      have HG13 : Hid (w.grownBy w13 (some b)) := by rw [hw13]; exact HG12.out.trans (grown_drewN _ _ _)
      clear hw13
      go_wp2_with (go_at_call 61; refine (rpair_no _ _ _ HPO.out).mono ?_; rintro e w14 ⟨rfl, rfl⟩)
      go_ret2
      exact ⟨rfl, HR13.out, HG13.out⟩
    · have hbf : (((⟨#[102, 110, 114, 116, 118]⟩ : ByteArray)[0]'(by decide)).toNat : Int) = 102 := rfl
      go_wp2
      go_roundw
      case rel => exact ⟨1, by decide, by rfl, trivial, HR, HG, HH⟩
      case measure => simp [intOf]
    · have hbf : (((⟨#[102, 110, 114, 116, 118]⟩ : ByteArray)[1]'(by decide)).toNat : Int) = 110 := rfl
      go_wp2
      go_roundw
      case rel => exact ⟨2, by decide, by rfl, trivial, HR, HG, HH⟩
      case measure => simp [intOf]
    · have hbf : (((⟨#[102, 110, 114, 116, 118]⟩ : ByteArray)[2]'(by decide)).toNat : Int) = 114 := rfl
      go_wp2
      go_roundw
      case rel => exact ⟨3, by decide, by rfl, trivial, HR, HG, HH⟩
      case measure => simp [intOf]
    · have hbf : (((⟨#[102, 110, 114, 116, 118]⟩ : ByteArray)[3]'(by decide)).toNat : Int) = 116 := rfl
      go_wp2
      go_roundw
      case rel => exact ⟨4, by decide, by rfl, trivial, HR, HG, HH⟩
      case measure => simp [intOf]
    · have hbf : (((⟨#[102, 110, 114, 116, 118]⟩ : ByteArray)[4]'(by decide)).toNat : Int) = 118 := rfl
      go_wp2
      go_roundw
      case rel => exact ⟨5, by decide, by rfl, trivial, HR, HG, HH⟩
      case measure => simp [intOf]

set_option maxHeartbeats 3200000 in
set_option maxRecDepth 100000 in
theorem ecu_d (B b : Nat) (l : List Int) (k : Nat) (w : World) (h : Rs w B b l k) (bn hi lo : Int) (hc : sgR (l.drop k) 0 = 117) (hbr : brR (l.drop (k + 1)) = (bn, 0)) (hhi : hxsR 4 (l.drop (k + 1)) = hi) (hs5 : sgR (l.drop k) 5 = 92) (hs6 : sgR (l.drop k) 6 = 117) (hlo : hxsR 4 (l.drop (k + 7)) = lo) (hpo : PairOk hi lo) :
    Calls Try.prog 54 #[.pointer (some ⟨b, 0, none⟩)] w (TR w B b l k (pairV hi lo) 11) := by
  have HC := Lib.hid h
  have HS0 : Hid (Calls Try.prog 53 #[.pointer (some ⟨b, 0, none⟩), .int .i64 0] w fun e w' => e = .returned (.int .i64 (117)) ∧ ∃ n, w' = w.drewN n) := by rw [← hc]; exact sign_ref B b l k 0 w h (by omega)
  have HS1 : Hid (∀ W : World, Rs W B b l k → Calls Try.prog 53 #[.pointer (some ⟨b, 0, none⟩), .int .i64 1] W fun e w' => e = .returned (.int .i64 (sgR (l.drop k) 1)) ∧ ∃ n, w' = W.drewN n) := fun W hW => by exact sign_ref B b l k 1 W hW (by omega)
  have HBR : Hid (∀ W : World, Rs W B b l k → Calls Try.prog 60 #[.pointer (some ⟨b, 0, none⟩), .int .i64 1] W fun e w' => e = .returned (.tuple #[.int .i64 (bn), .int .i64 0]) ∧ ∃ n, w' = W.drewN n) := fun W hW => by have := brace_ref B b l k 1 W hW (by omega); rw [hbr] at this; exact this
  clear hbr
  have HX4 : Hid (∀ W : World, Rs W B b l k → Calls Try.prog 59 #[.pointer (some ⟨b, 0, none⟩), .int .i64 1, .int .i64 4] W fun e w' => e = .returned (.int .i64 (hi)) ∧ ∃ n, w' = W.drewN n) := fun W hW => by rw [← hhi]; exact hexes_ref B b l k 1 4 W hW (by omega) (by omega)
  clear hhi
  have HG_s5 : Hid (∀ W : World, Rs W B b l k → Calls Try.prog 53 #[.pointer (some ⟨b, 0, none⟩), .int .i64 5] W fun e w' => e = .returned (.int .i64 (92)) ∧ ∃ n, w' = W.drewN n) := fun W hW => by rw [← hs5]; exact sign_ref B b l k 5 W hW (by omega)
  clear hs5
  have HG_s6 : Hid (∀ W : World, Rs W B b l k → Calls Try.prog 53 #[.pointer (some ⟨b, 0, none⟩), .int .i64 6] W fun e w' => e = .returned (.int .i64 (117)) ∧ ∃ n, w' = W.drewN n) := fun W hW => by rw [← hs6]; exact sign_ref B b l k 6 W hW (by omega)
  clear hs6
  have HXL : Hid (∀ W : World, Rs W B b l k → Calls Try.prog 59 #[.pointer (some ⟨b, 0, none⟩), .int .i64 7, .int .i64 4] W fun e w' => e = .returned (.int .i64 (lo)) ∧ ∃ n, w' = W.drewN n) := fun W hW => by rw [← hlo]; exact hexes_ref B b l k 7 4 W hW (by omega) (by omega)
  clear hlo
  have HPO := Lib.hid hpo
  clear hpo
  clear h hc
  generalize sgR (l.drop k) 1 = d at HS1
  go_enter Try.func54, Try.ntmps54
  go_wp2_with fail
  refine HS0.out.mono ?_
  rintro e w1 ⟨rfl, n1, hw1⟩
  have HR1 : Hid (Rs w1 B b l k) := by rw [hw1]; exact Cu.drewN HC.out n1
  have HG1 : Hid (w.grownBy w1 (some b)) := by rw [hw1]; exact grown_drewN _ _ _
  clear hw1 HS0
  go_wp2_with fail
  refine (HS1.out _ HR1.out).mono ?_
  rintro e w2 ⟨rfl, n2, hw2⟩
  have HR2 : Hid (Rs w2 B b l k) := by rw [hw2]; exact Cu.drewN HR1.out n2
  have HG2 : Hid (w.grownBy w2 (some b)) := by rw [hw2]; exact HG1.out.trans (grown_drewN _ _ _)
  clear hw2 HS1 HR1 HG1
  have HR3 := Lib.hid (fresh_row HR2.out (.cells #[.int .i64 12, .int .i64 10, .int .i64 13, .int .i64 9, .int .i64 11] 3))
  have HG3 : Hid (w.grownBy (w2.alloc (.cells #[.int .i64 12, .int .i64 10, .int .i64 13, .int .i64 9, .int .i64 11] 3)) (some b)) := HG2.out.trans (below_grown (bl_alloc w2 _) _)
  have HH3 : Hid ((w2.alloc (.cells #[.int .i64 12, .int .i64 10, .int .i64 13, .int .i64 9, .int .i64 11] 3)).heap[w2.heap.size]? = some (.cells #[.int .i64 12, .int .i64 10, .int .i64 13, .int .i64 9, .int .i64 11] 3 (0, 0))) := (MapKept.heap_alloc w2 _).1
  go_wp2
  go_loopw [8] (fun iv wr => ∃ i : Nat, i ≤ 5 ∧ iv = .int .i64 (i : Nat) ∧ True ∧ Hid (Rs wr B b l k) ∧ Hid (w.grownBy wr (some b)) ∧ Hid (wr.heap[w2.heap.size]? = some (.cells #[.int .i64 12, .int .i64 10, .int .i64 13, .int .i64 9, .int .i64 11] 3 (0, 0)))) (fun iv _ => 5 - (intOf iv).toNat)
  case atStart => exact ⟨0, by omega, rfl, trivial, HR3, HG3, HH3⟩
  case round =>
    clear HR3 HG3 HH3 HR2 HG2
    obtain ⟨i, hi, rfl, hst, HR, HG, HH⟩ := hrel
    rename World => wr
    have hcase : i = 5 ∨ i = 0 ∨ i = 1 ∨ i = 2 ∨ i = 3 ∨ i = 4 := by omega
    rcases hcase with rfl | rfl | rfl | rfl | rfl | rfl
    · clear hst
      go_wp2_with fail
      refine (HBR.out _ HR.out).mono ?_
      rintro e w9 ⟨rfl, n9, hw9⟩
      have HR9 : Hid (Rs w9 B b l k) := by rw [hw9]; exact Cu.drewN HR.out n9
      have HG9 : Hid (w.grownBy w9 (some b)) := by rw [hw9]; exact HG.out.trans (grown_drewN _ _ _)
      clear hw9
      go_wp2_with fail
      refine (HX4.out _ HR9.out).mono ?_
      rintro e w10 ⟨rfl, n10, hw10⟩
      have HR10 : Hid (Rs w10 B b l k) := by rw [hw10]; exact Cu.drewN HR9.out n10
      have HG10 : Hid (w.grownBy w10 (some b)) := by rw [hw10]; exact HG9.out.trans (grown_drewN _ _ _)
      clear hw10
      go_wp2_with fail
      refine (HG_s5.out _ HR10.out).mono ?_
      rintro e w11 ⟨rfl, n11, hw11⟩
      have HR11 : Hid (Rs w11 B b l k) := by rw [hw11]; exact Cu.drewN HR10.out n11
      have HG11 : Hid (w.grownBy w11 (some b)) := by rw [hw11]; exact HG10.out.trans (grown_drewN _ _ _)
      clear hw11
      go_wp2_with (go_at_call 53; refine (HG_s6.out _ HR11.out).mono ?_; rintro e w12 ⟨rfl, n12, hw12⟩; have HR12 : Hid (Rs w12 B b l k) := by { rw [hw12]; exact Cu.drewN HR11.out n12 }; have HG12 : Hid (w.grownBy w12 (some b)) := by { rw [hw12]; exact HG11.out.trans (grown_drewN _ _ _) }; clear hw12)
      refine (HXL.out _ HR12.out).mono ?_
      rintro e w13 ⟨rfl, n13, hw13⟩
      have HR13 : Hid (Rs w13 B b l k) := by rw [hw13]; exact Cu.drewN HR12.out n13
      have HG13 : Hid (w.grownBy w13 (some b)) := by rw [hw13]; exact HG12.out.trans (grown_drewN _ _ _)
      clear hw13
      go_wp2_with (go_at_call 61; refine (rpair_yes _ _ _ HPO.out).mono ?_; rintro e w14 ⟨rfl, rfl⟩)
      go_ret2
      exact ⟨rfl, HR13.out, HG13.out⟩
    · have hbf : (((⟨#[102, 110, 114, 116, 118]⟩ : ByteArray)[0]'(by decide)).toNat : Int) = 102 := rfl
      go_wp2
      go_roundw
      case rel => exact ⟨1, by decide, by rfl, trivial, HR, HG, HH⟩
      case measure => simp [intOf]
    · have hbf : (((⟨#[102, 110, 114, 116, 118]⟩ : ByteArray)[1]'(by decide)).toNat : Int) = 110 := rfl
      go_wp2
      go_roundw
      case rel => exact ⟨2, by decide, by rfl, trivial, HR, HG, HH⟩
      case measure => simp [intOf]
    · have hbf : (((⟨#[102, 110, 114, 116, 118]⟩ : ByteArray)[2]'(by decide)).toNat : Int) = 114 := rfl
      go_wp2
      go_roundw
      case rel => exact ⟨3, by decide, by rfl, trivial, HR, HG, HH⟩
      case measure => simp [intOf]
    · have hbf : (((⟨#[102, 110, 114, 116, 118]⟩ : ByteArray)[3]'(by decide)).toNat : Int) = 116 := rfl
      go_wp2
      go_roundw
      case rel => exact ⟨4, by decide, by rfl, trivial, HR, HG, HH⟩
      case measure => simp [intOf]
    · have hbf : (((⟨#[102, 110, 114, 116, 118]⟩ : ByteArray)[4]'(by decide)).toNat : Int) = 118 := rfl
      go_wp2
      go_roundw
      case rel => exact ⟨5, by decide, by rfl, trivial, HR, HG, HH⟩
      case measure => simp [intOf]
end Go.Proofs.Ytkpkhjflelmdjaa
