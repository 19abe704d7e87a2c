/- The walks of the document's answer for texts: half, whole, sixes, bytes, Text. -/
import Derived.Test.YtalnfbbggmhbfaaDoorPt
import Derived.StillTailTactics
namespace Go.Proofs.YtalnfbbggmhbfaaDoor
open Go.RowKit Tnd

theorem own_lit (w : World) (B : Nat) (e : TypeId) (k : IntKind) (l : List Nat) (n : Nat) (hn : n = l.length) (hB : B ≤ w.heap.size) (hl : l.length ≤ 1000000) (C : Array Value) (hC : C = (l.map fun d => Value.int k (d : Nat)).toArray) :
    Own (w.alloc (.cells C e)) B e k (.slice (some ⟨w.heap.size, 0, none⟩) n n) l := by
  subst hn hC
  refine ⟨by simp, .inr ⟨w.heap.size, l.length, (l.map fun d => Value.int k (d : Nat)).toArray, rfl, hB, heap_alloc_new w _, Nat.le_refl _, by simp only [maxLen]; omega, by simp, ?_⟩⟩
  simp [List.take_of_length_le]

theorem half_any (c : Int) (w : World) : Calls Tryd.prog 42 #[.int .i64 c] w fun e w' => e = .returned (.bool (decide (55296 ≤ c) && decide (c ≤ 57343))) ∧ w = w' := by
  by_cases h1 : 55296 ≤ c
  · go_enter Tryd.func42, Tryd.ntmps42
    go_wp2
    go_ret
    exact ⟨ret_bool (by simp [h1]), rfl⟩
  · have HX : Hid (¬ 55296 ≤ c) := h1
    go_enter Tryd.func42, Tryd.ntmps42
    go_wp2
    go_ret
    exact ⟨ret_bool (by rw [decide_eq_false (show ¬ 55296 ≤ c by have := HX.out; omega)]; rfl), rfl⟩
theorem whole_any (c : Int) (w : World) : Calls Tryd.prog 32 #[.int .i64 c] w fun e w' => e = .returned (.bool (wrB c)) ∧ w = w' := by
  by_cases h1 : 0 ≤ c
  case neg =>
    have hb : wrB c = false := by unfold wrB; rw [decide_eq_false h1]; rfl
    have HB := Lib.hid hb
    clear hb
    go_enter Tryd.func32, Tryd.ntmps32
    go_wp2
    go_ret
    exact ⟨ret_bool HB.out.symm, rfl⟩
  by_cases h2 : c ≤ 1114111
  case neg =>
    have hb : wrB c = false := by unfold wrB; rw [decide_eq_false h2, Bool.false_and, Bool.and_false]
    have HB := Lib.hid hb
    clear hb
    go_enter Tryd.func32, Tryd.ntmps32
    go_wp2
    go_ret
    exact ⟨ret_bool HB.out.symm, rfl⟩
  rcases hh : (decide (55296 ≤ c) && decide (c ≤ 57343)) with _ | _
  · have hb : wrB c = true := by unfold wrB; rw [hh, decide_eq_true h1, decide_eq_true h2]; rfl
    have HB := Lib.hid hb
    have HC := Lib.hid (half_any c w)
    rw [hh] at HC
    clear hb hh
    go_enter Tryd.func32, Tryd.ntmps32
    go_wp2_with (go_at_call 42; refine HC.out.mono ?_; rintro e w' ⟨rfl, rfl⟩)
    go_ret
    exact ⟨ret_bool HB.out.symm, rfl⟩
  · have hb : wrB c = false := by unfold wrB; rw [hh, decide_eq_true h1, decide_eq_true h2]; rfl
    have HB := Lib.hid hb
    have HC := Lib.hid (half_any c w)
    rw [hh] at HC
    clear hb hh
    go_enter Tryd.func32, Tryd.ntmps32
    go_wp2_with (go_at_call 42; refine HC.out.mono ?_; rintro e w' ⟨rfl, rfl⟩)
    go_ret
    exact ⟨ret_bool HB.out.symm, rfl⟩

set_option maxRecDepth 100000 in
theorem sixes_any (c : Nat) (w : World) (hc : c ≤ 1114111) : Calls Tryd.prog 43 #[.int .i64 (c : Nat)] w fun e w' => e = .returned (.slice (some ⟨w.heap.size, 0, none⟩) 3 3) ∧ w' = w.alloc (.cells #[.int .u8 ((128 + c % 64 : Nat) : Int), .int .u8 ((128 + c / 64 % 64 : Nat) : Int), .int .u8 ((128 + c / 4096 % 64 : Nat) : Int)] 5) := by
  have i1 : (c : Int) ≤ 1114111 := by omega
  have i0 : (0 : Int) ≤ (c : Int) := by omega
  have j1 := Lib.hid (show (128 : Int) + (c : Int) % 64 = ((128 + c % 64 : Nat) : Int) by omega)
  have j2 := Lib.hid (show (128 : Int) + (c : Int) / 64 % 64 = ((128 + c / 64 % 64 : Nat) : Int) by omega)
  have j3 := Lib.hid (show (128 : Int) + (c : Int) / 4096 % 64 = ((128 + c / 4096 % 64 : Nat) : Int) by omega)
  go_enter Tryd.func43, Tryd.ntmps43
  go_wp2
  go_ret
  refine ⟨rfl, ?_⟩
  rw [← j1.out, ← j2.out, ← j3.out]
set_option maxHeartbeats 1600000 in
set_option maxRecDepth 100000 in
theorem bytes_1 (c : Nat) (w : World) (h1 : 0 ≤ c) (h2 : c ≤ 127) : Calls Tryd.prog 33 #[.int .i64 (c : Nat)] w fun e w' => ∃ p cp, e = .returned (.slice p (encN c).length cp) ∧ Own w' w.heap.size 5 .u8 (.slice p (encN c).length cp) (encN c) ∧ Below w.heap.size w w' := by
  have i1 : (c : Int) ≤ 127 := by omega
  have i0 : (0 : Int) ≤ (c : Int) := by omega
  have HS := Lib.hid (sixes_any c w (by omega))
  have ENC := Lib.hid (encN1 h2)
  have J0 := Lib.hid (show (c : Int) = ((c : Nat) : Int) by omega)
  obtain ⟨w1, hw1⟩ : ∃ w1, w1 = w.alloc (.cells #[.int .u8 ((128 + c % 64 : Nat) : Int), .int .u8 ((128 + c / 64 % 64 : Nat) : Int), .int .u8 ((128 + c / 4096 % 64 : Nat) : Int)] 5) := ⟨_, rfl⟩
  rw [← hw1] at HS
  have k0 : w1.cell? ⟨w.heap.size, 0, none⟩ = some (.int .u8 ((128 + c % 64 : Nat) : Int)) := by rw [hw1, World.cell?_alloc_at _ _ _ _ rfl]; rfl
  have k1 : w1.cell? ⟨w.heap.size, 1, none⟩ = some (.int .u8 ((128 + c / 64 % 64 : Nat) : Int)) := by rw [hw1, World.cell?_alloc_at _ _ _ _ rfl]; rfl
  have k2 : w1.cell? ⟨w.heap.size, 2, none⟩ = some (.int .u8 ((128 + c / 4096 % 64 : Nat) : Int)) := by rw [hw1, World.cell?_alloc_at _ _ _ _ rfl]; rfl
  have HB1 := Lib.hid (show Below w.heap.size w w1 by rw [hw1]; exact bl_alloc _ _)
  clear hw1 h1 h2
  obtain ⟨x0, hx0⟩ : ∃ x : Nat, x = 128 + c % 64 := ⟨_, rfl⟩
  obtain ⟨x1, hx1⟩ : ∃ x : Nat, x = 128 + c / 64 % 64 := ⟨_, rfl⟩
  obtain ⟨x2, hx2⟩ : ∃ x : Nat, x = 128 + c / 4096 % 64 := ⟨_, rfl⟩
  rw [← hx0] at k0
  rw [← hx1] at k1
  rw [← hx2] at k2
  have HX0 := Lib.hid hx0
  have HX1 := Lib.hid hx1
  have HX2 := Lib.hid hx2
  clear hx0 hx1 hx2
  go_enter Tryd.func33, Tryd.ntmps33
  go_wp2_with (go_at_call 43; refine HS.out.mono ?_; rintro e w' ⟨rfl, rfl⟩)
  go_ret
  refine ⟨some ⟨w'.heap.size, 0, none⟩, 1, (by rw [ENC.out]; rfl), ?_, HB1.out.alloc HB1.out.size _⟩
  rw [ENC.out]
  exact own_lit w' w.heap.size 5 .u8 [c] 1 rfl HB1.out.size (by simp) _ rfl

set_option maxHeartbeats 1600000 in
set_option maxRecDepth 100000 in
theorem bytes_2 (c : Nat) (w : World) (h1 : 128 ≤ c) (h2 : c ≤ 2047) : Calls Tryd.prog 33 #[.int .i64 (c : Nat)] w fun e w' => ∃ p cp, e = .returned (.slice p (encN c).length cp) ∧ Own w' w.heap.size 5 .u8 (.slice p (encN c).length cp) (encN c) ∧ Below w.heap.size w w' := by
  have i1 : (c : Int) ≤ 2047 := by omega
  have i0 : (128 : Int) ≤ (c : Int) := by omega
  have HS := Lib.hid (sixes_any c w (by omega))
  have ENC := Lib.hid (encN2 h1 h2)
  have J0 := Lib.hid (show (192 : Int) + (c : Int) / 64 = ((192 + c / 64 : Nat) : Int) by omega)
  obtain ⟨w1, hw1⟩ : ∃ w1, w1 = w.alloc (.cells #[.int .u8 ((128 + c % 64 : Nat) : Int), .int .u8 ((128 + c / 64 % 64 : Nat) : Int), .int .u8 ((128 + c / 4096 % 64 : Nat) : Int)] 5) := ⟨_, rfl⟩
  rw [← hw1] at HS
  have k0 : w1.cell? ⟨w.heap.size, 0, none⟩ = some (.int .u8 ((128 + c % 64 : Nat) : Int)) := by rw [hw1, World.cell?_alloc_at _ _ _ _ rfl]; rfl
  have k1 : w1.cell? ⟨w.heap.size, 1, none⟩ = some (.int .u8 ((128 + c / 64 % 64 : Nat) : Int)) := by rw [hw1, World.cell?_alloc_at _ _ _ _ rfl]; rfl
  have k2 : w1.cell? ⟨w.heap.size, 2, none⟩ = some (.int .u8 ((128 + c / 4096 % 64 : Nat) : Int)) := by rw [hw1, World.cell?_alloc_at _ _ _ _ rfl]; rfl
  have HB1 := Lib.hid (show Below w.heap.size w w1 by rw [hw1]; exact bl_alloc _ _)
  clear hw1 h1 h2
  obtain ⟨x0, hx0⟩ : ∃ x : Nat, x = 128 + c % 64 := ⟨_, rfl⟩
  obtain ⟨x1, hx1⟩ : ∃ x : Nat, x = 128 + c / 64 % 64 := ⟨_, rfl⟩
  obtain ⟨x2, hx2⟩ : ∃ x : Nat, x = 128 + c / 4096 % 64 := ⟨_, rfl⟩
  rw [← hx0] at k0
  rw [← hx1] at k1
  rw [← hx2] at k2
  have HX0 := Lib.hid hx0
  have HX1 := Lib.hid hx1
  have HX2 := Lib.hid hx2
  clear hx0 hx1 hx2
  go_enter Tryd.func33, Tryd.ntmps33
  go_wp2_with (go_at_call 43; refine HS.out.mono ?_; rintro e w' ⟨rfl, rfl⟩)
  go_ret
  refine ⟨some ⟨w'.heap.size, 0, none⟩, 2, (by rw [ENC.out]; rfl), ?_, HB1.out.alloc HB1.out.size _⟩
  rw [J0.out, ENC.out, ← HX0.out]
  exact own_lit w' w.heap.size 5 .u8 [192 + c / 64, x0] 2 rfl HB1.out.size (by simp) _ rfl

set_option maxHeartbeats 1600000 in
set_option maxRecDepth 100000 in
theorem bytes_3 (c : Nat) (w : World) (h1 : 2048 ≤ c) (h2 : c ≤ 65535) : Calls Tryd.prog 33 #[.int .i64 (c : Nat)] w fun e w' => ∃ p cp, e = .returned (.slice p (encN c).length cp) ∧ Own w' w.heap.size 5 .u8 (.slice p (encN c).length cp) (encN c) ∧ Below w.heap.size w w' := by
  have i1 : (c : Int) ≤ 65535 := by omega
  have hd0 : decide ((c:Int) < 128) = false := by rw [decide_eq_false_iff_not]; omega
  have hd1 : decide ((c:Int) < 2048) = false := by rw [decide_eq_false_iff_not]; omega
  have hd2 : decide ((c:Int) < 65536) = true := by rw [decide_eq_true_iff]; omega
  have hv1 : (0 : Int) ≤ 224 + (c : Int) / 4096 := by omega
  have hv2 : 224 + (c : Int) / 4096 ≤ 255 := by omega
  have HS := Lib.hid (sixes_any c w (by omega))
  have ENC := Lib.hid (encN3 h1 h2)
  have J0 := Lib.hid (show (224 : Int) + (c : Int) / 4096 = ((224 + c / 4096 : Nat) : Int) by omega)
  obtain ⟨w1, hw1⟩ : ∃ w1, w1 = w.alloc (.cells #[.int .u8 ((128 + c % 64 : Nat) : Int), .int .u8 ((128 + c / 64 % 64 : Nat) : Int), .int .u8 ((128 + c / 4096 % 64 : Nat) : Int)] 5) := ⟨_, rfl⟩
  rw [← hw1] at HS
  have k0 : w1.cell? ⟨w.heap.size, 0, none⟩ = some (.int .u8 ((128 + c % 64 : Nat) : Int)) := by rw [hw1, World.cell?_alloc_at _ _ _ _ rfl]; rfl
  have k1 : w1.cell? ⟨w.heap.size, 1, none⟩ = some (.int .u8 ((128 + c / 64 % 64 : Nat) : Int)) := by rw [hw1, World.cell?_alloc_at _ _ _ _ rfl]; rfl
  have k2 : w1.cell? ⟨w.heap.size, 2, none⟩ = some (.int .u8 ((128 + c / 4096 % 64 : Nat) : Int)) := by rw [hw1, World.cell?_alloc_at _ _ _ _ rfl]; rfl
  have HB1 := Lib.hid (show Below w.heap.size w w1 by rw [hw1]; exact bl_alloc _ _)
  clear hw1 h1 h2 i1
  obtain ⟨x0, hx0⟩ : ∃ x : Nat, x = 128 + c % 64 := ⟨_, rfl⟩
  obtain ⟨x1, hx1⟩ : ∃ x : Nat, x = 128 + c / 64 % 64 := ⟨_, rfl⟩
  obtain ⟨x2, hx2⟩ : ∃ x : Nat, x = 128 + c / 4096 % 64 := ⟨_, rfl⟩
  rw [← hx0] at k0
  rw [← hx1] at k1
  rw [← hx2] at k2
  have HX0 := Lib.hid hx0
  have HX1 := Lib.hid hx1
  have HX2 := Lib.hid hx2
  clear hx0 hx1 hx2
  go_enter Tryd.func33, Tryd.ntmps33
  go_wp2_with (go_at_call 43; refine HS.out.mono ?_; rintro e w' ⟨rfl, rfl⟩)
  go_region_held3 (fun W => W.cell? ⟨w.heap.size, 0, none⟩ = some (.int .u8 (x0 : Nat)) ∧ W.cell? ⟨w.heap.size, 1, none⟩ = some (.int .u8 (x1 : Nat))) (first | go_keep | exact ⟨by assumption, by assumption⟩) (fail)
  go_wp2
  go_ret
  refine ⟨some ⟨w'.heap.size, 0, none⟩, 3, (by rw [ENC.out]; rfl), ?_, (HB1.out.alloc HB1.out.size _).drew⟩
  have hv : IntKind.u8.wrap (IntKind.i64.wrap (224 + IntKind.i64.wrap ((c : Int) / 4096))) = ((224 + c / 4096 : Nat) : Int) := by rw [IntKind.wrap_i64, IntKind.wrap_i64, IntKind.wrap_u8']; omega
  rw [hv, ENC.out, ← HX1.out, ← HX0.out]
  exact own_lit w' w.heap.size 5 .u8 [224 + c / 4096, x1, x0] 3 rfl HB1.out.size (by simp) _ rfl

set_option maxHeartbeats 1600000 in
set_option maxRecDepth 100000 in
theorem bytes_4 (c : Nat) (w : World) (h1 : 65536 ≤ c) (h2 : c ≤ 1114111) : Calls Tryd.prog 33 #[.int .i64 (c : Nat)] w fun e w' => ∃ p cp, e = .returned (.slice p (encN c).length cp) ∧ Own w' w.heap.size 5 .u8 (.slice p (encN c).length cp) (encN c) ∧ Below w.heap.size w w' := by
  have i1 : (c : Int) ≤ 1114111 := by omega
  have hd0 : decide ((c:Int) < 128) = false := by rw [decide_eq_false_iff_not]; omega
  have hd1 : decide ((c:Int) < 2048) = false := by rw [decide_eq_false_iff_not]; omega
  have hd2 : decide ((c:Int) < 65536) = false := by rw [decide_eq_false_iff_not]; omega
  have hv1 : (0 : Int) ≤ 240 + (c : Int) / 262144 := by omega
  have hv2 : 240 + (c : Int) / 262144 ≤ 255 := by omega
  have HS := Lib.hid (sixes_any c w (by omega))
  have ENC := Lib.hid (encN4 h1)
  have J0 := Lib.hid (show (240 : Int) + (c : Int) / 262144 = ((240 + c / 262144 : Nat) : Int) by omega)
  obtain ⟨w1, hw1⟩ : ∃ w1, w1 = w.alloc (.cells #[.int .u8 ((128 + c % 64 : Nat) : Int), .int .u8 ((128 + c / 64 % 64 : Nat) : Int), .int .u8 ((128 + c / 4096 % 64 : Nat) : Int)] 5) := ⟨_, rfl⟩
  rw [← hw1] at HS
  have k0 : w1.cell? ⟨w.heap.size, 0, none⟩ = some (.int .u8 ((128 + c % 64 : Nat) : Int)) := by rw [hw1, World.cell?_alloc_at _ _ _ _ rfl]; rfl
  have k1 : w1.cell? ⟨w.heap.size, 1, none⟩ = some (.int .u8 ((128 + c / 64 % 64 : Nat) : Int)) := by rw [hw1, World.cell?_alloc_at _ _ _ _ rfl]; rfl
  have k2 : w1.cell? ⟨w.heap.size, 2, none⟩ = some (.int .u8 ((128 + c / 4096 % 64 : Nat) : Int)) := by rw [hw1, World.cell?_alloc_at _ _ _ _ rfl]; rfl
  have HB1 := Lib.hid (show Below w.heap.size w w1 by rw [hw1]; exact bl_alloc _ _)
  clear hw1 h1 h2 i1
  obtain ⟨x0, hx0⟩ : ∃ x : Nat, x = 128 + c % 64 := ⟨_, rfl⟩
  obtain ⟨x1, hx1⟩ : ∃ x : Nat, x = 128 + c / 64 % 64 := ⟨_, rfl⟩
  obtain ⟨x2, hx2⟩ : ∃ x : Nat, x = 128 + c / 4096 % 64 := ⟨_, rfl⟩
  rw [← hx0] at k0
  rw [← hx1] at k1
  rw [← hx2] at k2
  have HX0 := Lib.hid hx0
  have HX1 := Lib.hid hx1
  have HX2 := Lib.hid hx2
  clear hx0 hx1 hx2
  go_enter Tryd.func33, Tryd.ntmps33
  go_wp2_with (go_at_call 43; refine HS.out.mono ?_; rintro e w' ⟨rfl, rfl⟩)
  go_region_held3 (fun W => W.cell? ⟨w.heap.size, 0, none⟩ = some (.int .u8 (x0 : Nat)) ∧ W.cell? ⟨w.heap.size, 1, none⟩ = some (.int .u8 (x1 : Nat)) ∧ W.cell? ⟨w.heap.size, 2, none⟩ = some (.int .u8 (x2 : Nat))) (first | go_keep | exact ⟨by assumption, by assumption, by assumption⟩) (fail)
  go_wp2
  go_ret
  refine ⟨some ⟨w'.heap.size, 0, none⟩, 4, (by rw [ENC.out]; rfl), ?_, (HB1.out.alloc HB1.out.size _).drew⟩
  have hv : IntKind.u8.wrap (IntKind.i64.wrap (240 + IntKind.i64.wrap ((c : Int) / 262144))) = ((240 + c / 262144 : Nat) : Int) := by rw [IntKind.wrap_i64, IntKind.wrap_i64, IntKind.wrap_u8']; omega
  rw [hv, ENC.out, ← HX2.out, ← HX1.out, ← HX0.out]
  exact own_lit w' w.heap.size 5 .u8 [240 + c / 262144, x2, x1, x0] 4 rfl HB1.out.size (by simp) _ rfl

end Go.Proofs.YtalnfbbggmhbfaaDoor
