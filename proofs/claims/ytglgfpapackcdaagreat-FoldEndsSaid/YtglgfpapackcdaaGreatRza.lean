/- The walk of KeptRanges. -/
import Derived.Test.YtglgfpapackcdaaGreatRz

namespace Go.Proofs.YtglgfpapackcdaaGreat
open Go.RowKit Tnr

theorem ownR_cellN {w : World} {B g no cap : Nat} {l : List R} (h : OwnR w B (.slice (some ⟨g, 0, none⟩) no cap) l) (hn : no = l.length) (i : Nat) (hi : i < no) :
    w.cell? ⟨g, i * 2, none⟩ = some (.int .i64 (gr l i).1) ∧ w.cell? ⟨g, i * 2 + 1, none⟩ = some (.int .i64 (gr l i).2) := by
  subst hn
  unfold OwnR at h
  obtain ⟨e1, e2⟩ := encs_at l i hi
  rw [h.cellAt (i * 2) (by omega), h.cellAt (i * 2 + 1) (by omega)]
  exact ⟨e1, e2⟩
theorem keep_cell {W w6 : World} {a : Addr} {v : Value} (hb : Below W.heap.size W w6) (h : W.cell? a = some v) : w6.cell? a = some v := by rw [hb.cell (World.block_lt_of_cell? W _ h)]; exact h
theorem keep_below {w W w6 : World} (hb : Below W.heap.size W w6) (h : Hid (Below w.heap.size w W)) : Hid (Below w.heap.size w w6) := bl_trans h.out hb
theorem gr_front {l m : List R} {i : Nat} (h : i < l.length) : gr (l ++ m) i = gr l i := by
  rw [gr_get (by rw [List.length_append]; omega), gr_get h, List.getElem_append_left h]
theorem gr_marks {l : List R} {k i : Nat} (h1 : l.length ≤ i) (h2 : i < l.length + k) : gr (l ++ marksR k) i = (8000024 + ((i : Int) - l.length), 0) := by
  rw [gr_get (by rw [List.length_append, marksR_length]; omega), List.getElem_append_right h1]
  unfold marksR
  simp
  omega

set_option maxHeartbeats 6400000 in
set_option maxRecDepth 100000 in
theorem keptR_any (p : Option Addr) (cp n : Nat) (l : List R) (B g cap : Nat) (w : World) (hn : n = l.length) (hp : SlR w p l) (hl : l.length ≤ 3000000) (ho : OwnR w B (.slice (some ⟨g, 0, none⟩) (n + 12) cap) (l ++ marksR 12)) (hcap : n + 12 ≤ cap) (hcm : cap ≤ 9223372036854775807) :
    Calls Tryz.prog 60 #[.slice (some ⟨g, 0, none⟩) n cap, .slice p n cp] w fun e w' => e = .returned (.bool true) ∧ Below w.heap.size w w' := by
  have hnI : (n : Int) ≤ 3000000 := by omega
  have hcI : (n : Int) + 12 ≤ (cap : Int) := by omega
  have hcJ : (cap : Int) ≤ 9223372036854775807 := by omega
  have HN := Lib.hid hn
  have HP := Lib.hid hp
  have HO := Lib.hid ho
  have HNN : Hid (n + 12 = (l ++ marksR 12).length) := by show _ = _; rw [List.length_append, marksR_length, ← hn]
  clear hp hn hl hcap hcm ho
  go_enter Tryz.func60, Tryz.ntmps60
  go_wp2
  go_loopw [6] (fun iv wr => ∃ (k : Nat), k ≤ n + 12 ∧ iv = .int .i64 (k : Nat) ∧ Hid (Below w.heap.size w wr)) (fun iv _ => n + 12 - (intOf iv).toNat)
  case atStart => exact ⟨0, Nat.zero_le _, rfl, Below.refl _ _⟩
  case round =>
    obtain ⟨k, hk, rfl, HB⟩ := hrel
    rename World => wr
    by_cases hkn : k < n
    · obtain ⟨b1, o1, rfl, hc1, hc2⟩ := slr_at (HP.out.below HB.out) (show k < l.length by have := HN.out; omega)
      obtain ⟨hc3, hc4⟩ := ownR_cellN (ownR_below HO.out HB.out) HNN.out k (by omega)
      rw [gr_front (by have := HN.out; omega)] at hc3 hc4
      obtain ⟨x, hx⟩ : ∃ x, x = (gr l k).1 := ⟨_, rfl⟩
      obtain ⟨x', hx'⟩ : ∃ x, x = (gr l k).2 := ⟨_, rfl⟩
      rw [← hx] at hc1 hc3
      rw [← hx'] at hc2 hc4
      clear hx hx'
      have hgd := range_guard
      have heq := fun W => equal_range 9998 x x' x x' W
      rw [show (x == x && x' == x') = true by simp] at heq
      have hkI : (k : Int) < n := by omega
      have hkJ : (k : Int) < (n : Int) + 12 := by omega
      have hge : decide ((n : Int) ≤ k) = false := by rw [decide_eq_false_iff_not]; omega
      have hlt : decide ((k : Int) < n) = true := by rw [decide_eq_true_iff]; omega
      have hltN : decide (k < n) = true := by rw [decide_eq_true_iff]; omega
      have hgeN : decide (n ≤ k) = false := by rw [decide_eq_false_iff_not]; omega
      clear hkn
      go_wp2
      go_quiet (fail)
      go_wp2
      go_roundw
      case rel => exact ⟨k + 1, by omega, by go_num, bl_trans HB.out (drewN_below _ _)⟩
      case measure => simp [intOf]; omega
    · by_cases hk12 : k < n + 12
      · obtain ⟨hc3, hc4⟩ := ownR_cellN (ownR_below HO.out HB.out) HNN.out k (by omega)
        rw [gr_marks (by have := HN.out; omega) (by have := HN.out; omega), ← HN.out] at hc3 hc4
        simp only at hc3 hc4
        have hkI : (n : Int) ≤ k := by omega
        have hkJ : (k : Int) < (n : Int) + 12 := by omega
        have hge : decide ((n : Int) ≤ k) = true := by rw [decide_eq_true_iff]; omega
        have hlt : decide ((k : Int) < n) = false := by rw [decide_eq_false_iff_not]; omega
        have hltN : decide (k < n) = false := by rw [decide_eq_false_iff_not]; omega
        have hgeN : decide (n ≤ k) = true := by rw [decide_eq_true_iff]; omega
        have hd0 : (0 : Int) ≤ (k : Int) - n := by omega
        have hd1 : (k : Int) - n ≤ 100 := by omega
        clear hkn
        have hwr : IntKind.i64.wrap ((k : Int) - n) = (k : Int) - n := by rw [IntKind.wrap_i64]; omega
        obtain ⟨x, hx⟩ : ∃ x, x = 8000024 + ((k : Int) - n) := ⟨_, rfl⟩
        rw [← hx] at hc3
        have HMARK : Hid (∀ (z : Int) (W : World), z = (k : Int) - n → Calls Tryz.prog 74 #[.int .i64 1, .int .i64 z] W fun e w' => e = .returned (.agg #[.int .i64 x, .int .i64 0]) ∧ Below W.heap.size W w') := by
          rintro z W rfl
          rw [hx]
          exact markRange_any _ W hd0 hd1
        have hgd := range_guard
        have heq := fun W => equal_range 9998 x 0 x 0 W
        rw [show (x == x && (0 : Int) == 0) = true by simp] at heq
        clear hd0 hd1 hx
        go_wp2
        refine wp_region_held_drew (S := (fun W => W.cell? ⟨g, k * 2, none⟩ = some (.int .i64 x) ∧ W.cell? ⟨g, k * 2 + 1, none⟩ = some (.int .i64 0) ∧ Hid (Below w.heap.size w W))) (by kernel_rfl) ⟨hc3, hc4, bl_trans HB.out (bl_drew _)⟩ (fun hHeld => ?_)
        refine wpAnyH_take (i := 0) (oi := ⟨some 23, Op.move (.tmp 6), 3, "lent.go:322", #[], none⟩) (v := ?_) rfl (by kernel_rfl) (by kernel_rfl) (by kernel_rfl) (fun _ _ _ h => h) (Or.inl ⟨by rfl, ?_⟩) (by assumption) ?_
        rotate_left
        focus (intro w hSw; (try dsimp only at hSw); go_simp; try with_reducible rfl)
        try simp only [Act.put, sb0, sb1, sb2]
        refine wpAnyH_take (i := 1) (oi := ⟨some 24, Op.move (.tmp 1), 25, "lent.go:322", #[], none⟩) (v := ?_) rfl (by kernel_rfl) (by kernel_rfl) (by kernel_rfl) (fun _ _ _ h => h) (Or.inl ⟨by rfl, ?_⟩) (by assumption) ?_
        rotate_left
        focus (intro w hSw; (try dsimp only at hSw); go_simp; try with_reducible rfl)
        try simp only [Act.put, sb0, sb1, sb2]
        refine wpAnyH_take (i := 2) (oi := ⟨some 25, Op.call { callee := Callee.builtin Builtin.len, args := #[.tmp 24], argTypes := #[25] }, 3, "lent.go:322", #[⟨1, .data⟩], none⟩) (v := ?_) rfl (by kernel_rfl) (by kernel_rfl) (by kernel_rfl) (fun _ _ _ h => h) (Or.inl ⟨by rfl, ?_⟩) (by assumption) ?_
        rotate_left
        focus (intro w hSw; (try dsimp only at hSw); go_simp; try with_reducible rfl)
        try simp only [Act.put, sb0, sb1, sb2]
        refine wpAnyH_take (i := 3) (oi := ⟨some 26, Op.binOp BinOp.lss 3 (.tmp 23) (.tmp 25) 3, 4, "lent.go:322", #[⟨0, .data⟩, ⟨2, .data⟩], none⟩) (v := ?_) rfl (by kernel_rfl) (by kernel_rfl) (by kernel_rfl) (fun _ _ _ h => h) (Or.inl ⟨by rfl, ?_⟩) (by assumption) ?_
        rotate_left
        focus (intro w hSw; (try dsimp only at hSw); go_simp; try with_reducible rfl)
        try simp only [Act.put, sb0, sb1, sb2]
        refine wpAnyH_take (i := 4) (oi := ⟨some 27, Op.move (.tmp 26), 4, "lent.go:322", #[⟨3, .data⟩], none⟩) (v := ?_) rfl (by kernel_rfl) (by kernel_rfl) (by kernel_rfl) (fun _ _ _ h => h) (Or.inl ⟨by rfl, ?_⟩) (by assumption) ?_
        rotate_left
        focus (intro w hSw; (try dsimp only at hSw); go_simp; try with_reducible rfl)
        try simp only [Act.put, sb0, sb1, sb2]
        refine wpAnyH_take (i := 5) (oi := ⟨some 28, Op.move (.tmp 5), 25, "lent.go:322", #[⟨4, .guard⟩], some (4, true)⟩) (v := undef) rfl (by kernel_rfl) (by kernel_rfl) (by kernel_rfl) (fun _ _ _ h => h) (Or.inr ⟨by rfl, by rfl⟩) (by assumption) ?_
        try simp only [Act.put, sb0, sb1, sb2]
        refine wpAnyH_take (i := 6) (oi := ⟨some 29, Op.move (.tmp 6), 3, "lent.go:322", #[⟨4, .guard⟩], some (4, true)⟩) (v := undef) rfl (by kernel_rfl) (by kernel_rfl) (by kernel_rfl) (fun _ _ _ h => h) (Or.inr ⟨by rfl, by rfl⟩) (by assumption) ?_
        try simp only [Act.put, sb0, sb1, sb2]
        refine wpAnyH_take (i := 7) (oi := ⟨some 30, Op.indexAddr 25 (.tmp 28) (.tmp 29), 0, "lent.go:322", #[⟨5, .data⟩, ⟨6, .data⟩, ⟨4, .guard⟩], some (4, true)⟩) (v := undef) rfl (by kernel_rfl) (by kernel_rfl) (by kernel_rfl) (fun _ _ _ h => h) (Or.inr ⟨by rfl, by rfl⟩) (by assumption) ?_
        try simp only [Act.put, sb0, sb1, sb2]
        refine wpAnyH_take (i := 8) (oi := ⟨some 31, Op.load 24 (.tmp 30), 24, "lent.go:322", #[⟨7, .data⟩, ⟨4, .guard⟩], some (4, true)⟩) (v := undef) rfl (by kernel_rfl) (by kernel_rfl) (by kernel_rfl) (fun _ _ _ h => h) (Or.inr ⟨by rfl, by rfl⟩) (by assumption) ?_
        try simp only [Act.put, sb0, sb1, sb2]
        refine wpAnyH_take (i := 9) (oi := ⟨some 32, Op.move (.tmp 1), 25, "lent.go:322", #[⟨4, .guard⟩], some (4, true)⟩) (v := undef) rfl (by kernel_rfl) (by kernel_rfl) (by kernel_rfl) (fun _ _ _ h => h) (Or.inr ⟨by rfl, by rfl⟩) (by assumption) ?_
        try simp only [Act.put, sb0, sb1, sb2]
        refine wpAnyH_take (i := 10) (oi := ⟨some 33, Op.move (.tmp 6), 3, "lent.go:322", #[⟨4, .guard⟩], some (4, true)⟩) (v := undef) rfl (by kernel_rfl) (by kernel_rfl) (by kernel_rfl) (fun _ _ _ h => h) (Or.inr ⟨by rfl, by rfl⟩) (by assumption) ?_
        try simp only [Act.put, sb0, sb1, sb2]
        refine wpAnyH_take (i := 11) (oi := ⟨some 34, Op.indexAddr 25 (.tmp 32) (.tmp 33), 0, "lent.go:322", #[⟨9, .data⟩, ⟨10, .data⟩, ⟨4, .guard⟩], some (4, true)⟩) (v := undef) rfl (by kernel_rfl) (by kernel_rfl) (by kernel_rfl) (fun _ _ _ h => h) (Or.inr ⟨by rfl, by rfl⟩) (by assumption) ?_
        try simp only [Act.put, sb0, sb1, sb2]
        refine wpAnyH_take (i := 12) (oi := ⟨some 35, Op.load 24 (.tmp 34), 24, "lent.go:322", #[⟨11, .data⟩, ⟨4, .guard⟩], some (4, true)⟩) (v := undef) rfl (by kernel_rfl) (by kernel_rfl) (by kernel_rfl) (fun _ _ _ h => h) (Or.inr ⟨by rfl, by rfl⟩) (by assumption) ?_
        try simp only [Act.put, sb0, sb1, sb2]
        refine wpAnyH_take (i := 13) (oi := ⟨some 36, Op.binOp BinOp.eql 24 (.tmp 31) (.tmp 35) 24, 4, "lent.go:322", #[⟨8, .data⟩, ⟨12, .data⟩, ⟨4, .guard⟩], some (4, true)⟩) (v := undef) rfl (by kernel_rfl) (by kernel_rfl) (by kernel_rfl) (fun _ _ _ h => h) (Or.inr ⟨by rfl, by rfl⟩) (by assumption) ?_
        try simp only [Act.put, sb0, sb1, sb2]
        refine wpAnyH_take (i := 14) (oi := ⟨some 37, Op.unOp UnOp.not 4 (.tmp 36), 4, "lent.go:322", #[⟨13, .data⟩, ⟨4, .guard⟩], some (4, true)⟩) (v := undef) rfl (by kernel_rfl) (by kernel_rfl) (by kernel_rfl) (fun _ _ _ h => h) (Or.inr ⟨by rfl, by rfl⟩) (by assumption) ?_
        try simp only [Act.put, sb0, sb1, sb2]
        refine wpAnyH_take (i := 15) (oi := ⟨some 38, Op.pick (.tmp 27) (.tmp 37) (.const (Value.bool false)), 4, "lent.go:322", #[⟨4, .data⟩, ⟨14, .data⟩], none⟩) (v := ?_) rfl (by kernel_rfl) (by kernel_rfl) (by kernel_rfl) (fun _ _ _ h => h) (Or.inl ⟨by rfl, ?_⟩) (by assumption) ?_
        rotate_left
        focus (intro w hSw; (try dsimp only at hSw); go_simp; try with_reducible rfl)
        try simp only [Act.put, sb0, sb1, sb2]
        refine wpAnyH_take (i := 16) (oi := ⟨some 39, Op.move (.tmp 38), 4, "lent.go:322", #[⟨15, .data⟩, ⟨4, .chain⟩], none⟩) (v := ?_) rfl (by kernel_rfl) (by kernel_rfl) (by kernel_rfl) (fun _ _ _ h => h) (Or.inl ⟨by rfl, ?_⟩) (by assumption) ?_
        rotate_left
        focus (intro w hSw; (try dsimp only at hSw); go_simp; try with_reducible rfl)
        try simp only [Act.put, sb0, sb1, sb2]
        refine wpAnyH_take (i := 17) (oi := ⟨some 40, Op.move (.tmp 6), 3, "lent.go:322", #[⟨16, .guard⟩], some (16, false)⟩) (v := ?_) rfl (by kernel_rfl) (by kernel_rfl) (by kernel_rfl) (fun _ _ _ h => h) (Or.inl ⟨by rfl, ?_⟩) (by assumption) ?_
        rotate_left
        focus (intro w hSw; (try dsimp only at hSw); go_simp; try with_reducible rfl)
        try simp only [Act.put, sb0, sb1, sb2]
        refine wpAnyH_take (i := 18) (oi := ⟨some 41, Op.move (.tmp 1), 25, "lent.go:322", #[⟨16, .guard⟩], some (16, false)⟩) (v := ?_) rfl (by kernel_rfl) (by kernel_rfl) (by kernel_rfl) (fun _ _ _ h => h) (Or.inl ⟨by rfl, ?_⟩) (by assumption) ?_
        rotate_left
        focus (intro w hSw; (try dsimp only at hSw); go_simp; try with_reducible rfl)
        try simp only [Act.put, sb0, sb1, sb2]
        refine wpAnyH_take (i := 19) (oi := ⟨some 42, Op.call { callee := Callee.builtin Builtin.len, args := #[.tmp 41], argTypes := #[25] }, 3, "lent.go:322", #[⟨18, .data⟩, ⟨16, .guard⟩], some (16, false)⟩) (v := ?_) rfl (by kernel_rfl) (by kernel_rfl) (by kernel_rfl) (fun _ _ _ h => h) (Or.inl ⟨by rfl, ?_⟩) (by assumption) ?_
        rotate_left
        focus (intro w hSw; (try dsimp only at hSw); go_simp; try with_reducible rfl)
        try simp only [Act.put, sb0, sb1, sb2]
        refine wpAnyH_take (i := 20) (oi := ⟨some 43, Op.binOp BinOp.geq 3 (.tmp 40) (.tmp 42) 3, 4, "lent.go:322", #[⟨17, .data⟩, ⟨19, .data⟩, ⟨16, .guard⟩], some (16, false)⟩) (v := ?_) rfl (by kernel_rfl) (by kernel_rfl) (by kernel_rfl) (fun _ _ _ h => h) (Or.inl ⟨by rfl, ?_⟩) (by assumption) ?_
        rotate_left
        focus (intro w hSw; (try dsimp only at hSw); go_simp; try with_reducible rfl)
        try simp only [Act.put, sb0, sb1, sb2]
        refine wpAnyH_take (i := 21) (oi := ⟨some 44, Op.move (.tmp 43), 4, "lent.go:322", #[⟨20, .data⟩, ⟨16, .chain⟩, ⟨16, .guard⟩], some (16, false)⟩) (v := ?_) rfl (by kernel_rfl) (by kernel_rfl) (by kernel_rfl) (fun _ _ _ h => h) (Or.inl ⟨by rfl, ?_⟩) (by assumption) ?_
        rotate_left
        focus (intro w hSw; (try dsimp only at hSw); go_simp; try with_reducible rfl)
        try simp only [Act.put, sb0, sb1, sb2]
        refine wpAnyH_take (i := 22) (oi := ⟨some 45, Op.move (.tmp 5), 25, "lent.go:322", #[⟨21, .guard⟩], some (21, true)⟩) (v := ?_) rfl (by kernel_rfl) (by kernel_rfl) (by kernel_rfl) (fun _ _ _ h => h) (Or.inl ⟨by rfl, ?_⟩) (by assumption) ?_
        rotate_left
        focus (intro w hSw; (try dsimp only at hSw); go_simp; try with_reducible rfl)
        try simp only [Act.put, sb0, sb1, sb2]
        refine wpAnyH_take (i := 23) (oi := ⟨some 46, Op.move (.tmp 6), 3, "lent.go:322", #[⟨21, .guard⟩], some (21, true)⟩) (v := ?_) rfl (by kernel_rfl) (by kernel_rfl) (by kernel_rfl) (fun _ _ _ h => h) (Or.inl ⟨by rfl, ?_⟩) (by assumption) ?_
        rotate_left
        focus (intro w hSw; (try dsimp only at hSw); go_simp; try with_reducible rfl)
        try simp only [Act.put, sb0, sb1, sb2]
        refine wpAnyH_take (i := 24) (oi := ⟨some 47, Op.indexAddr 25 (.tmp 45) (.tmp 46), 0, "lent.go:322", #[⟨22, .data⟩, ⟨23, .data⟩, ⟨21, .guard⟩], some (21, true)⟩) (v := ?_) rfl (by kernel_rfl) (by kernel_rfl) (by kernel_rfl) (fun _ _ _ h => h) (Or.inl ⟨by rfl, ?_⟩) (by assumption) ?_
        rotate_left
        focus (intro w hSw; (try dsimp only at hSw); go_simp; try with_reducible rfl)
        try simp only [Act.put, sb0, sb1, sb2]
        refine wpAnyH_take (i := 25) (oi := ⟨some 48, Op.load 24 (.tmp 47), 24, "lent.go:322", #[⟨24, .data⟩, ⟨21, .guard⟩], some (21, true)⟩) (v := ?_) rfl (by kernel_rfl) (by kernel_rfl) (by kernel_rfl) (fun _ _ _ h => h) (Or.inl ⟨by rfl, ?_⟩) (by assumption) ?_
        rotate_left
        focus (intro w hSw; (try dsimp only at hSw); go_simp; try with_reducible rfl)
        try simp only [Act.put, sb0, sb1, sb2]
        refine wpAnyH_take (i := 26) (oi := ⟨some 49, Op.move (.tmp 6), 3, "lent.go:322", #[⟨21, .guard⟩], some (21, true)⟩) (v := ?_) rfl (by kernel_rfl) (by kernel_rfl) (by kernel_rfl) (fun _ _ _ h => h) (Or.inl ⟨by rfl, ?_⟩) (by assumption) ?_
        rotate_left
        focus (intro w hSw; (try dsimp only at hSw); go_simp; try with_reducible rfl)
        try simp only [Act.put, sb0, sb1, sb2]
        refine wpAnyH_take (i := 27) (oi := ⟨some 50, Op.move (.tmp 1), 25, "lent.go:322", #[⟨21, .guard⟩], some (21, true)⟩) (v := ?_) rfl (by kernel_rfl) (by kernel_rfl) (by kernel_rfl) (fun _ _ _ h => h) (Or.inl ⟨by rfl, ?_⟩) (by assumption) ?_
        rotate_left
        focus (intro w hSw; (try dsimp only at hSw); go_simp; try with_reducible rfl)
        try simp only [Act.put, sb0, sb1, sb2]
        refine wpAnyH_take (i := 28) (oi := ⟨some 51, Op.call { callee := Callee.builtin Builtin.len, args := #[.tmp 50], argTypes := #[25] }, 3, "lent.go:322", #[⟨27, .data⟩, ⟨21, .guard⟩], some (21, true)⟩) (v := ?_) rfl (by kernel_rfl) (by kernel_rfl) (by kernel_rfl) (fun _ _ _ h => h) (Or.inl ⟨by rfl, ?_⟩) (by assumption) ?_
        rotate_left
        focus (intro w hSw; (try dsimp only at hSw); go_simp; try with_reducible rfl)
        try simp only [Act.put, sb0, sb1, sb2]
        refine wpAnyH_take (i := 29) (oi := ⟨some 52, Op.binOp BinOp.sub 3 (.tmp 49) (.tmp 51) 3, 3, "lent.go:322", #[⟨26, .data⟩, ⟨28, .data⟩, ⟨21, .guard⟩], some (21, true)⟩) (v := ?_) rfl (by kernel_rfl) (by kernel_rfl) (by kernel_rfl) (fun _ _ _ h => h) (Or.inl ⟨by rfl, ?_⟩) (by assumption) ?_
        rotate_left
        focus (intro w hSw; (try dsimp only at hSw); go_simp; try with_reducible rfl)
        try simp only [Act.put, sb0, sb1, sb2]
        refine wpAnyH_ready (rs := [30]) (by kernel_rfl) (by simp) ?_
        refine AllReadyH.cons (o := ⟨some 53, Op.call ⟨.value (.func 74), #[.const (.int .i64 1), .tmp 52], #[3, 3]⟩, 24, "lent.go:322", #[⟨29, .data⟩, ⟨21, .chain⟩, ⟨21, .guard⟩], some (21, true)⟩) rfl (fun K hK => ?_) AllReadyH.nil
        go_simp
        go_at_call 74
        refine (HMARK.out _ _ (by first | rfl | exact hwr)).mono ?_
        rintro e w6 ⟨rfl, hb6⟩
        have hq1 : World.cell? w6 ⟨g, k * 2, none⟩ = some (.int .i64 x) := keep_cell hb6 hc3
        have hq2 : World.cell? w6 ⟨g, k * 2 + 1, none⟩ = some (.int .i64 0) := keep_cell hb6 hc4
        have hq3 : Hid (Below w.heap.size w w6) := keep_below hb6 (bl_trans HB.out (bl_drew _))
        clear hb6
        try go_wp2_with fail
        refine hK.out _ _ ⟨hq1, hq2, hq3⟩ (fun hHeld2 => ?_)
        clear hK K
        try simp only [Act.put, sb0, sb1, sb2]
        refine wpAnyH_take (i := 31) (oi := ⟨some 54, Op.binOp BinOp.eql 24 (.tmp 48) (.tmp 53) 24, 4, "lent.go:322", #[⟨25, .data⟩, ⟨30, .data⟩, ⟨21, .guard⟩], some (21, true)⟩) (v := ?_) rfl (by kernel_rfl) (by kernel_rfl) (by kernel_rfl) (fun _ _ _ h => h) (Or.inl ⟨by rfl, ?_⟩) (by assumption) ?_
        rotate_left
        focus (intro w hSw; (try dsimp only at hSw); go_simp; try with_reducible rfl)
        try simp only [Act.put, sb0, sb1, sb2]
        refine wpAnyH_take (i := 32) (oi := ⟨some 55, Op.unOp UnOp.not 4 (.tmp 54), 4, "lent.go:322", #[⟨31, .data⟩, ⟨21, .guard⟩], some (21, true)⟩) (v := ?_) rfl (by kernel_rfl) (by kernel_rfl) (by kernel_rfl) (fun _ _ _ h => h) (Or.inl ⟨by rfl, ?_⟩) (by assumption) ?_
        rotate_left
        focus (intro w hSw; (try dsimp only at hSw); go_simp; try with_reducible rfl)
        try simp only [Act.put, sb0, sb1, sb2]
        refine wpAnyH_take (i := 33) (oi := ⟨some 56, Op.pick (.tmp 44) (.tmp 55) (.const (Value.bool false)), 4, "lent.go:322", #[⟨21, .data⟩, ⟨32, .data⟩, ⟨16, .guard⟩], some (16, false)⟩) (v := ?_) rfl (by kernel_rfl) (by kernel_rfl) (by kernel_rfl) (fun _ _ _ h => h) (Or.inl ⟨by rfl, ?_⟩) (by assumption) ?_
        rotate_left
        focus (intro w hSw; (try dsimp only at hSw); go_simp; try with_reducible rfl)
        try simp only [Act.put, sb0, sb1, sb2]
        refine wpAnyH_take (i := 34) (oi := ⟨some 57, Op.pick (.tmp 39) (.const (Value.bool true)) (.tmp 56), 4, "lent.go:322", #[⟨16, .data⟩, ⟨33, .data⟩], none⟩) (v := ?_) rfl (by kernel_rfl) (by kernel_rfl) (by kernel_rfl) (fun _ _ _ h => h) (Or.inl ⟨by rfl, ?_⟩) (by assumption) ?_
        rotate_left
        focus (intro w hSw; (try dsimp only at hSw); go_simp; try with_reducible rfl)
        try simp only [Act.put, sb0, sb1, sb2]
        refine wpAnyH_done (by kernel_rfl) ?_ _
        go_wp2
        go_roundw
        case rel => exact ⟨k + 1, by omega, by go_num, by assumption⟩
        case measure => simp [intOf]; omega
      · have hkJ : (n : Int) + 12 ≤ k := by omega
        go_wp2
        go_ret
        exact ⟨rfl, HB.out⟩
end Go.Proofs.YtglgfpapackcdaaGreat
