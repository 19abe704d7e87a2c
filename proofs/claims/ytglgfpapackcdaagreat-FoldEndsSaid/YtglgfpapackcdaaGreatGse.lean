/- The walk of KeptProps (genkeptprops.py writes this text). -/
import Derived.Test.YtglgfpapackcdaaGreatGsd

namespace Go.Proofs.YtglgfpapackcdaaGreat
open Go.RowKit Tnr

theorem ownP_cellN {w : World} {B g no cap : Nat} {l : List PV} (h : OwnP w B (.slice (some ⟨g, 0, none⟩) no cap) l) (hn : no = l.length) (i : Nat) (hi : i < no) :
    w.cell? ⟨g, i * 2, none⟩ = some (.string (gp l i).1) ∧ w.cell? ⟨g, i * 2 + 1, none⟩ = some (.slice (gp l i).2.1 (gp l i).2.2.2.length (gp l i).2.2.1) := by
  subst hn
  unfold OwnP at h
  obtain ⟨e1, e2⟩ := encPs_at l i hi
  rw [h.cellAt (i * 2) (by have := encPs_length l; omega), h.cellAt (i * 2 + 1) (by have := encPs_length l; omega)]
  exact ⟨e1, e2⟩
theorem gp_front {l m : List PV} {i : Nat} (h : i < l.length) : gp (l ++ m) i = gp l i := by
  rw [gp_get (by rw [List.length_append]; omega), gp_get h, List.getElem_append_left h]
theorem gp_marks {l : List PV} {k i : Nat} (h1 : l.length ≤ i) (h2 : i < l.length + k) : gp (l ++ marksP k) i = markP (i - l.length) := by
  rw [gp_get (by rw [List.length_append, marksP_length]; omega), List.getElem_append_right h1]
  unfold marksP
  simp

set_option maxHeartbeats 6400000 in
set_option maxRecDepth 100000 in
theorem keptProps_any (p : Option Addr) (cp n B g cap : Nat) (xs ys : List PV) (w : World) (hn : n = xs.length) (hx : SlP w p xs) (hnm : n ≤ 3000) (hl : ∀ i, i < n → (gp xs i).2.2.2.length ≤ 3000) (ho : LPs w B n g cap xs ys) :
    Calls Tryz.prog 59 #[.slice (some ⟨g, 0, none⟩) n cap, .slice p n cp] w fun e w' => e = .returned (.bool true) ∧ Below w.heap.size w w' := by
  obtain ⟨hny, hc1, hc2, hrow, hlv⟩ := ho
  have hnI : (n : Int) ≤ 3000 := by omega
  have hcI : (n : Int) + 12 ≤ (cap : Int) := by omega
  have hcJ : (cap : Int) ≤ 9223372036854775807 := by omega
  have HN := Lib.hid hn
  have HNY := Lib.hid hny
  have HX := Lib.hid hx
  have HL := Lib.hid hl
  have HROW := Lib.hid hrow
  have HLV := Lib.hid hlv
  have HNN : Hid (n + 12 = (ys ++ marksP 12).length) := by show _ = _; rw [List.length_append, marksP_length, ← hny]
  clear hn hx hl hc1 hc2 hrow hlv hny
  go_enter Tryz.func59, Tryz.ntmps59
  go_wp2
  go_loopw [6] (fun iv wr => ∃ (k : Nat), k ≤ n + 12 ∧ iv = .int .i64 (k : Nat) ∧ Hid (Below w.heap.size w wr)) (fun iv _ => n + 12 - (intOf iv).toNat)
  case atStart => exact ⟨0, Nat.zero_le _, rfl, Below.refl _ _⟩
  case round =>
    obtain ⟨k, hk, rfl, HB⟩ := hrel
    rename World => wr
    by_cases hkn : k < n
    · have hkx : k < xs.length := by have := HN.out; omega
      obtain ⟨b1, o1, rfl, hc1, hc2⟩ := slp_at (HX.out.below HB.out) hkx
      have hA : SlR wr (gp xs k).2.1 (gp xs k).2.2.2 := by
        have h := HX.out.1 (gp xs k) (by rw [gp_get hkx]; exact List.getElem_mem hkx)
        exact h.below HB.out
      have hLA := HL.out k hkn
      obtain ⟨hc3, hc4⟩ := ownP_cellN (ownP_below HROW.out HB.out) HNN.out k (by omega)
      rw [gp_front (by have := HNY.out; omega)] at hc3 hc4
      obtain ⟨hl0, hl1, gi, hl2, hl3, hl4, hl5⟩ := (HLV.out k hkn).below HB.out
      generalize gp xs k = x at *
      generalize gp ys k = y at *
      obtain ⟨nm, qx, cx, lx⟩ := x
      obtain ⟨nm2, qy, cy, ly⟩ := y
      simp only at hl0 hl1 hl2 hl3 hl4 hl5 hc1 hc2 hc3 hc4 hA hLA
      subst hl0 hl1 hl2
      obtain ⟨m, hm⟩ : ∃ m, m = ly.length := ⟨_, rfl⟩
      rw [← hm] at hc2 hc4 hl3 hl5
      have HKN := Lib.hid (fun (W : World) (hW : Below wr.heap.size wr W) => keptProp_any nm2 qx cx m ly B gi cy W hm (hA.below hW) hLA (ownR_below hl5 hW) hl3 hl4)
      have hkI : (k : Int) < n := by omega
      have hkJ : (k : Int) < (n : Int) + 12 := by omega
      have hge : decide ((n : Int) ≤ k) = false := by rw [decide_eq_false_iff_not]; omega
      have hlt : decide ((k : Int) < n) = true := by rw [decide_eq_true_iff]; omega
      have hltN : decide (k < n) = true := by rw [decide_eq_true_iff]; omega
      have hgeN : decide (n ≤ k) = false := by rw [decide_eq_false_iff_not]; omega
      obtain ⟨v1, hv1⟩ : ∃ v, v = Value.slice qx m cx := ⟨_, rfl⟩
      obtain ⟨v3, hv3⟩ : ∃ v, v = Value.slice (some ⟨gi, 0, none⟩) m cy := ⟨_, rfl⟩
      rw [← hv1, ← hv3] at HKN
      rw [← hv1] at hc2
      rw [← hv3] at hc4
      clear hkn hl3 hl4 hl5 hA hLA hkx hv1 hv3 hm
      go_wp2
      refine wp_region_held_drew (S := (fun W => W.cell? ⟨g, k * 2, none⟩ = some (.string nm2) ∧ W.cell? ⟨g, k * 2 + 1, none⟩ = some v3 ∧ W.cell? ⟨b1, o1 + k * 2, none⟩ = some (.string nm2) ∧ W.cell? ⟨b1, o1 + k * 2 + 1, none⟩ = some v1 ∧ Hid (Below wr.heap.size wr W))) (by kernel_rfl) ⟨hc3, hc4, hc1, hc2, bl_drew _⟩ (fun hHeld => ?_)
      refine wpAnyH_take (i := 0) (oi := ⟨some 23, Op.move (.tmp 6), 3, "lent.go:399", #[], none⟩) (v := ?_) rfl (by kernel_rfl) (by kernel_rfl) (by kernel_rfl) (fun _ _ _ h => h) (Or.inl ⟨by rfl, ?_⟩) (by assumption) ?_
      rotate_left
      focus (intro w hSw; (try dsimp only at hSw); go_simp; try with_reducible rfl)
      try simp only [Act.put, sb0, sb1, sb2]
      refine wpAnyH_take (i := 1) (oi := ⟨some 24, Op.move (.tmp 1), 28, "lent.go:399", #[], none⟩) (v := ?_) rfl (by kernel_rfl) (by kernel_rfl) (by kernel_rfl) (fun _ _ _ h => h) (Or.inl ⟨by rfl, ?_⟩) (by assumption) ?_
      rotate_left
      focus (intro w hSw; (try dsimp only at hSw); go_simp; try with_reducible rfl)
      try simp only [Act.put, sb0, sb1, sb2]
      refine wpAnyH_take (i := 2) (oi := ⟨some 25, Op.call { callee := Callee.builtin Builtin.len, args := #[.tmp 24], argTypes := #[28] }, 3, "lent.go:399", #[⟨1, .data⟩], none⟩) (v := ?_) rfl (by kernel_rfl) (by kernel_rfl) (by kernel_rfl) (fun _ _ _ h => h) (Or.inl ⟨by rfl, ?_⟩) (by assumption) ?_
      rotate_left
      focus (intro w hSw; (try dsimp only at hSw); go_simp; try with_reducible rfl)
      try simp only [Act.put, sb0, sb1, sb2]
      refine wpAnyH_take (i := 3) (oi := ⟨some 26, Op.binOp BinOp.lss 3 (.tmp 23) (.tmp 25) 3, 4, "lent.go:399", #[⟨0, .data⟩, ⟨2, .data⟩], none⟩) (v := ?_) rfl (by kernel_rfl) (by kernel_rfl) (by kernel_rfl) (fun _ _ _ h => h) (Or.inl ⟨by rfl, ?_⟩) (by assumption) ?_
      rotate_left
      focus (intro w hSw; (try dsimp only at hSw); go_simp; try with_reducible rfl)
      try simp only [Act.put, sb0, sb1, sb2]
      refine wpAnyH_take (i := 4) (oi := ⟨some 27, Op.move (.tmp 26), 4, "lent.go:399", #[⟨3, .data⟩], none⟩) (v := ?_) rfl (by kernel_rfl) (by kernel_rfl) (by kernel_rfl) (fun _ _ _ h => h) (Or.inl ⟨by rfl, ?_⟩) (by assumption) ?_
      rotate_left
      focus (intro w hSw; (try dsimp only at hSw); go_simp; try with_reducible rfl)
      try simp only [Act.put, sb0, sb1, sb2]
      refine wpAnyH_take (i := 5) (oi := ⟨some 28, Op.move (.tmp 5), 28, "lent.go:399", #[⟨4, .guard⟩], some (4, true)⟩) (v := ?_) rfl (by kernel_rfl) (by kernel_rfl) (by kernel_rfl) (fun _ _ _ h => h) (Or.inl ⟨by rfl, ?_⟩) (by assumption) ?_
      rotate_left
      focus (intro w hSw; (try dsimp only at hSw); go_simp; try with_reducible rfl)
      try simp only [Act.put, sb0, sb1, sb2]
      refine wpAnyH_take (i := 6) (oi := ⟨some 29, Op.move (.tmp 6), 3, "lent.go:399", #[⟨4, .guard⟩], some (4, true)⟩) (v := ?_) rfl (by kernel_rfl) (by kernel_rfl) (by kernel_rfl) (fun _ _ _ h => h) (Or.inl ⟨by rfl, ?_⟩) (by assumption) ?_
      rotate_left
      focus (intro w hSw; (try dsimp only at hSw); go_simp; try with_reducible rfl)
      try simp only [Act.put, sb0, sb1, sb2]
      refine wpAnyH_take (i := 7) (oi := ⟨some 30, Op.indexAddr 28 (.tmp 28) (.tmp 29), 0, "lent.go:399", #[⟨5, .data⟩, ⟨6, .data⟩, ⟨4, .guard⟩], some (4, true)⟩) (v := ?_) rfl (by kernel_rfl) (by kernel_rfl) (by kernel_rfl) (fun _ _ _ h => h) (Or.inl ⟨by rfl, ?_⟩) (by assumption) ?_
      rotate_left
      focus (intro w hSw; (try dsimp only at hSw); go_simp; try with_reducible rfl)
      try simp only [Act.put, sb0, sb1, sb2]
      refine wpAnyH_take (i := 8) (oi := ⟨some 31, Op.load 37 (.tmp 30), 37, "lent.go:399", #[⟨7, .data⟩, ⟨4, .guard⟩], some (4, true)⟩) (v := ?_) rfl (by kernel_rfl) (by kernel_rfl) (by kernel_rfl) (fun _ _ _ h => h) (Or.inl ⟨by rfl, ?_⟩) (by assumption) ?_
      rotate_left
      focus (intro w hSw; (try dsimp only at hSw); go_simp; try with_reducible rfl)
      try simp only [Act.put, sb0, sb1, sb2]
      refine wpAnyH_take (i := 9) (oi := ⟨some 32, Op.move (.tmp 1), 28, "lent.go:399", #[⟨4, .guard⟩], some (4, true)⟩) (v := ?_) rfl (by kernel_rfl) (by kernel_rfl) (by kernel_rfl) (fun _ _ _ h => h) (Or.inl ⟨by rfl, ?_⟩) (by assumption) ?_
      rotate_left
      focus (intro w hSw; (try dsimp only at hSw); go_simp; try with_reducible rfl)
      try simp only [Act.put, sb0, sb1, sb2]
      refine wpAnyH_take (i := 10) (oi := ⟨some 33, Op.move (.tmp 6), 3, "lent.go:399", #[⟨4, .guard⟩], some (4, true)⟩) (v := ?_) rfl (by kernel_rfl) (by kernel_rfl) (by kernel_rfl) (fun _ _ _ h => h) (Or.inl ⟨by rfl, ?_⟩) (by assumption) ?_
      rotate_left
      focus (intro w hSw; (try dsimp only at hSw); go_simp; try with_reducible rfl)
      try simp only [Act.put, sb0, sb1, sb2]
      refine wpAnyH_take (i := 11) (oi := ⟨some 34, Op.indexAddr 28 (.tmp 32) (.tmp 33), 0, "lent.go:399", #[⟨9, .data⟩, ⟨10, .data⟩, ⟨4, .guard⟩], some (4, true)⟩) (v := ?_) rfl (by kernel_rfl) (by kernel_rfl) (by kernel_rfl) (fun _ _ _ h => h) (Or.inl ⟨by rfl, ?_⟩) (by assumption) ?_
      rotate_left
      focus (intro w hSw; (try dsimp only at hSw); go_simp; try with_reducible rfl)
      try simp only [Act.put, sb0, sb1, sb2]
      refine wpAnyH_take (i := 12) (oi := ⟨some 35, Op.load 37 (.tmp 34), 37, "lent.go:399", #[⟨11, .data⟩, ⟨4, .guard⟩], some (4, true)⟩) (v := ?_) rfl (by kernel_rfl) (by kernel_rfl) (by kernel_rfl) (fun _ _ _ h => h) (Or.inl ⟨by rfl, ?_⟩) (by assumption) ?_
      rotate_left
      focus (intro w hSw; (try dsimp only at hSw); go_simp; try with_reducible rfl)
      try simp only [Act.put, sb0, sb1, sb2]
      refine wpAnyH_ready (rs := [13]) (by kernel_rfl) (by simp) ?_
      refine AllReadyH.cons (o := ⟨some 36, Op.call ⟨.value (.func 88), #[.tmp 31, .tmp 35], #[37, 37]⟩, 4, "lent.go:399", #[⟨8, .data⟩, ⟨12, .data⟩, ⟨4, .chain⟩, ⟨4, .guard⟩], some (4, true)⟩) rfl (fun K hK => ?_) AllReadyH.nil
      go_simp
      go_at_call 88
      refine (HKN.out _ (bl_drew _)).mono ?_
      rintro e w6 ⟨rfl, hb6⟩
      have hq1 := keep_cell hb6 hc3
      have hq2 := keep_cell hb6 hc4
      have hq3 := keep_cell hb6 hc1
      have hq4 := keep_cell hb6 hc2
      have hq5 : Hid (Below wr.heap.size wr w6) := bl_trans (bl_drew _) hb6
      clear hb6
      try go_wp2_with fail
      refine hK.out _ _ ⟨hq1, hq2, hq3, hq4, hq5⟩ (fun hHeld2 => ?_)
      clear hK K
      try simp only [Act.put, sb0, sb1, sb2]
      refine wpAnyH_take (i := 14) (oi := ⟨some 37, Op.unOp UnOp.not 4 (.tmp 36), 4, "lent.go:399", #[⟨13, .data⟩, ⟨4, .guard⟩], some (4, true)⟩) (v := ?_) rfl (by kernel_rfl) (by kernel_rfl) (by kernel_rfl) (fun _ _ _ h => h) (Or.inl ⟨by rfl, ?_⟩) (by assumption) ?_
      rotate_left
      focus (intro w hSw; (try dsimp only at hSw); go_simp; try with_reducible rfl)
      try simp only [Act.put, sb0, sb1, sb2]
      refine wpAnyH_take (i := 15) (oi := ⟨some 38, Op.pick (.tmp 27) (.tmp 37) (.const (Value.bool false)), 4, "lent.go:399", #[⟨4, .data⟩, ⟨14, .data⟩], none⟩) (v := ?_) rfl (by kernel_rfl) (by kernel_rfl) (by kernel_rfl) (fun _ _ _ h => h) (Or.inl ⟨by rfl, ?_⟩) (by assumption) ?_
      rotate_left
      focus (intro w hSw; (try dsimp only at hSw); go_simp; try with_reducible rfl)
      try simp only [Act.put, sb0, sb1, sb2]
      refine wpAnyH_take (i := 16) (oi := ⟨some 39, Op.move (.tmp 38), 4, "lent.go:399", #[⟨15, .data⟩, ⟨13, .chain⟩], none⟩) (v := ?_) rfl (by kernel_rfl) (by kernel_rfl) (by kernel_rfl) (fun _ _ _ h => h) (Or.inl ⟨by rfl, ?_⟩) (by assumption) ?_
      rotate_left
      focus (intro w hSw; (try dsimp only at hSw); go_simp; try with_reducible rfl)
      try simp only [Act.put, sb0, sb1, sb2]
      refine wpAnyH_take (i := 17) (oi := ⟨some 40, Op.move (.tmp 6), 3, "lent.go:399", #[⟨16, .guard⟩], some (16, false)⟩) (v := ?_) rfl (by kernel_rfl) (by kernel_rfl) (by kernel_rfl) (fun _ _ _ h => h) (Or.inl ⟨by rfl, ?_⟩) (by assumption) ?_
      rotate_left
      focus (intro w hSw; (try dsimp only at hSw); go_simp; try with_reducible rfl)
      try simp only [Act.put, sb0, sb1, sb2]
      refine wpAnyH_take (i := 18) (oi := ⟨some 41, Op.move (.tmp 1), 28, "lent.go:399", #[⟨16, .guard⟩], some (16, false)⟩) (v := ?_) rfl (by kernel_rfl) (by kernel_rfl) (by kernel_rfl) (fun _ _ _ h => h) (Or.inl ⟨by rfl, ?_⟩) (by assumption) ?_
      rotate_left
      focus (intro w hSw; (try dsimp only at hSw); go_simp; try with_reducible rfl)
      try simp only [Act.put, sb0, sb1, sb2]
      refine wpAnyH_take (i := 19) (oi := ⟨some 42, Op.call { callee := Callee.builtin Builtin.len, args := #[.tmp 41], argTypes := #[28] }, 3, "lent.go:399", #[⟨18, .data⟩, ⟨16, .guard⟩], some (16, false)⟩) (v := ?_) rfl (by kernel_rfl) (by kernel_rfl) (by kernel_rfl) (fun _ _ _ h => h) (Or.inl ⟨by rfl, ?_⟩) (by assumption) ?_
      rotate_left
      focus (intro w hSw; (try dsimp only at hSw); go_simp; try with_reducible rfl)
      try simp only [Act.put, sb0, sb1, sb2]
      refine wpAnyH_take (i := 20) (oi := ⟨some 43, Op.binOp BinOp.geq 3 (.tmp 40) (.tmp 42) 3, 4, "lent.go:399", #[⟨17, .data⟩, ⟨19, .data⟩, ⟨16, .guard⟩], some (16, false)⟩) (v := ?_) rfl (by kernel_rfl) (by kernel_rfl) (by kernel_rfl) (fun _ _ _ h => h) (Or.inl ⟨by rfl, ?_⟩) (by assumption) ?_
      rotate_left
      focus (intro w hSw; (try dsimp only at hSw); go_simp; try with_reducible rfl)
      try simp only [Act.put, sb0, sb1, sb2]
      refine wpAnyH_take (i := 21) (oi := ⟨some 44, Op.move (.tmp 43), 4, "lent.go:399", #[⟨20, .data⟩, ⟨16, .chain⟩, ⟨16, .guard⟩], some (16, false)⟩) (v := ?_) rfl (by kernel_rfl) (by kernel_rfl) (by kernel_rfl) (fun _ _ _ h => h) (Or.inl ⟨by rfl, ?_⟩) (by assumption) ?_
      rotate_left
      focus (intro w hSw; (try dsimp only at hSw); go_simp; try with_reducible rfl)
      try simp only [Act.put, sb0, sb1, sb2]
      refine wpAnyH_take (i := 22) (oi := ⟨some 45, Op.move (.tmp 5), 28, "lent.go:399", #[⟨21, .guard⟩], some (21, true)⟩) (v := undef) rfl (by kernel_rfl) (by kernel_rfl) (by kernel_rfl) (fun _ _ _ h => h) (Or.inr ⟨by rfl, by rfl⟩) (by assumption) ?_
      try simp only [Act.put, sb0, sb1, sb2]
      refine wpAnyH_take (i := 23) (oi := ⟨some 46, Op.move (.tmp 6), 3, "lent.go:399", #[⟨21, .guard⟩], some (21, true)⟩) (v := undef) rfl (by kernel_rfl) (by kernel_rfl) (by kernel_rfl) (fun _ _ _ h => h) (Or.inr ⟨by rfl, by rfl⟩) (by assumption) ?_
      try simp only [Act.put, sb0, sb1, sb2]
      refine wpAnyH_take (i := 24) (oi := ⟨some 47, Op.indexAddr 28 (.tmp 45) (.tmp 46), 0, "lent.go:399", #[⟨22, .data⟩, ⟨23, .data⟩, ⟨21, .guard⟩], some (21, true)⟩) (v := undef) rfl (by kernel_rfl) (by kernel_rfl) (by kernel_rfl) (fun _ _ _ h => h) (Or.inr ⟨by rfl, by rfl⟩) (by assumption) ?_
      try simp only [Act.put, sb0, sb1, sb2]
      refine wpAnyH_take (i := 25) (oi := ⟨some 48, Op.load 37 (.tmp 47), 37, "lent.go:399", #[⟨24, .data⟩, ⟨21, .guard⟩], some (21, true)⟩) (v := undef) rfl (by kernel_rfl) (by kernel_rfl) (by kernel_rfl) (fun _ _ _ h => h) (Or.inr ⟨by rfl, by rfl⟩) (by assumption) ?_
      try simp only [Act.put, sb0, sb1, sb2]
      refine wpAnyH_take (i := 26) (oi := ⟨some 49, Op.move (.tmp 6), 3, "lent.go:399", #[⟨21, .guard⟩], some (21, true)⟩) (v := undef) rfl (by kernel_rfl) (by kernel_rfl) (by kernel_rfl) (fun _ _ _ h => h) (Or.inr ⟨by rfl, by rfl⟩) (by assumption) ?_
      try simp only [Act.put, sb0, sb1, sb2]
      refine wpAnyH_take (i := 27) (oi := ⟨some 50, Op.move (.tmp 1), 28, "lent.go:399", #[⟨21, .guard⟩], some (21, true)⟩) (v := undef) rfl (by kernel_rfl) (by kernel_rfl) (by kernel_rfl) (fun _ _ _ h => h) (Or.inr ⟨by rfl, by rfl⟩) (by assumption) ?_
      try simp only [Act.put, sb0, sb1, sb2]
      refine wpAnyH_take (i := 28) (oi := ⟨some 51, Op.call { callee := Callee.builtin Builtin.len, args := #[.tmp 50], argTypes := #[28] }, 3, "lent.go:399", #[⟨27, .data⟩, ⟨21, .guard⟩], some (21, true)⟩) (v := undef) rfl (by kernel_rfl) (by kernel_rfl) (by kernel_rfl) (fun _ _ _ h => h) (Or.inr ⟨by rfl, by rfl⟩) (by assumption) ?_
      try simp only [Act.put, sb0, sb1, sb2]
      refine wpAnyH_take (i := 29) (oi := ⟨some 52, Op.binOp BinOp.sub 3 (.tmp 49) (.tmp 51) 3, 3, "lent.go:399", #[⟨26, .data⟩, ⟨28, .data⟩, ⟨21, .guard⟩], some (21, true)⟩) (v := undef) rfl (by kernel_rfl) (by kernel_rfl) (by kernel_rfl) (fun _ _ _ h => h) (Or.inr ⟨by rfl, by rfl⟩) (by assumption) ?_
      try simp only [Act.put, sb0, sb1, sb2]
      refine wpAnyH_take (i := 30) (oi := ⟨some 53, Op.call ⟨.value (.func 73), #[.const (.int .i64 1), .tmp 52], #[3, 3]⟩, 37, "lent.go:399", #[⟨29, .data⟩, ⟨21, .chain⟩, ⟨21, .guard⟩], some (21, true)⟩) (v := undef) rfl (by kernel_rfl) (by kernel_rfl) (by kernel_rfl) (fun _ _ _ h => h) (Or.inr ⟨by rfl, by rfl⟩) (by assumption) ?_
      try simp only [Act.put, sb0, sb1, sb2]
      refine wpAnyH_take (i := 31) (oi := ⟨some 54, Op.call ⟨.value (.func 89), #[.tmp 48, .tmp 53], #[37, 37]⟩, 4, "lent.go:399", #[⟨25, .data⟩, ⟨30, .data⟩, ⟨30, .chain⟩, ⟨21, .guard⟩], some (21, true)⟩) (v := undef) rfl (by kernel_rfl) (by kernel_rfl) (by kernel_rfl) (fun _ _ _ h => h) (Or.inr ⟨by rfl, by rfl⟩) (by assumption) ?_
      try simp only [Act.put, sb0, sb1, sb2]
      refine wpAnyH_take (i := 32) (oi := ⟨some 55, Op.unOp UnOp.not 4 (.tmp 54), 4, "lent.go:399", #[⟨31, .data⟩, ⟨21, .guard⟩], some (21, true)⟩) (v := undef) rfl (by kernel_rfl) (by kernel_rfl) (by kernel_rfl) (fun _ _ _ h => h) (Or.inr ⟨by rfl, by rfl⟩) (by assumption) ?_
      try simp only [Act.put, sb0, sb1, sb2]
      refine wpAnyH_take (i := 33) (oi := ⟨some 56, Op.pick (.tmp 44) (.tmp 55) (.const (Value.bool false)), 4, "lent.go:399", #[⟨21, .data⟩, ⟨32, .data⟩, ⟨16, .guard⟩], some (16, false)⟩) (v := ?_) rfl (by kernel_rfl) (by kernel_rfl) (by kernel_rfl) (fun _ _ _ h => h) (Or.inl ⟨by rfl, ?_⟩) (by assumption) ?_
      rotate_left
      focus (intro w hSw; (try dsimp only at hSw); go_simp; try with_reducible rfl)
      try simp only [Act.put, sb0, sb1, sb2]
      refine wpAnyH_take (i := 34) (oi := ⟨some 57, Op.pick (.tmp 39) (.const (Value.bool true)) (.tmp 56), 4, "lent.go:399", #[⟨16, .data⟩, ⟨33, .data⟩], none⟩) (v := ?_) rfl (by kernel_rfl) (by kernel_rfl) (by kernel_rfl) (fun _ _ _ h => h) (Or.inl ⟨by rfl, ?_⟩) (by assumption) ?_
      rotate_left
      focus (intro w hSw; (try dsimp only at hSw); go_simp; try with_reducible rfl)
      try simp only [Act.put, sb0, sb1, sb2]
      refine wpAnyH_done (by kernel_rfl) ?_ _
      go_wp2
      go_roundw
      case rel => exact ⟨k + 1, by omega, by go_num, bl_trans HB.out hq5.out⟩
      case measure => simp [intOf]; omega
    · by_cases hk12 : k < n + 12
      · obtain ⟨hc3, hc4⟩ := ownP_cellN (ownP_below HROW.out HB.out) HNN.out k (by omega)
        rw [gp_marks (by have := HNY.out; omega) (by have := HNY.out; omega), ← HNY.out] at hc3 hc4
        simp only [markP, List.length_nil] at hc3 hc4
        have hkI : (n : Int) ≤ k := by omega
        have hkJ : (k : Int) < (n : Int) + 12 := by omega
        have hge : decide ((n : Int) ≤ k) = true := by rw [decide_eq_true_iff]; omega
        have hlt : decide ((k : Int) < n) = false := by rw [decide_eq_false_iff_not]; omega
        have hltN : decide (k < n) = false := by rw [decide_eq_false_iff_not]; omega
        have hgeN : decide (n ≤ k) = true := by rw [decide_eq_true_iff]; omega
        have hwr : IntKind.i64.wrap ((k : Int) - n) = ((k - n : Nat) : Int) := by rw [IntKind.wrap_i64]; omega
        have hwr2 : ((k : Int) - n) = ((k - n : Nat) : Int) := by omega
        obtain ⟨tx, htx⟩ : ∃ tx, tx = mt (k - n) := ⟨_, rfl⟩
        rw [← htx] at hc3
        have HMARK : Hid (∀ (z : Int) (W : World), z = ((k - n : Nat) : Int) → Calls Tryz.prog 73 #[.int .i64 1, .int .i64 z] W fun e w' => e = .returned (.agg #[.string tx, .slice none 0 0]) ∧ Below W.heap.size W w') := by
          rintro z W rfl
          rw [htx]
          exact markProp_any _ W (by omega)
        have HSM : Hid (∀ W : World, Calls Tryz.prog 89 #[.agg #[.string tx, .slice none 0 0], .agg #[.string tx, .slice none 0 0]] W fun e w' => e = .returned (.bool true) ∧ Below W.heap.size W w') := fun W => sameProp_any tx none none 0 0 0 [] W rfl (.inl rfl) (.inl rfl) (Nat.zero_le _)
        have HWR := Lib.hid hwr
        have HWR2 := Lib.hid hwr2
        clear hkn hwr hwr2 htx
        go_wp2
        refine wp_region_held_drew (S := (fun W => W.cell? ⟨g, k * 2, none⟩ = some (.string tx) ∧ W.cell? ⟨g, k * 2 + 1, none⟩ = some (.slice none 0 0) ∧ Hid (Below w.heap.size w W))) (by kernel_rfl) ⟨hc3, hc4, bl_trans HB.out (bl_drew _)⟩ (fun hHeld => ?_)
        refine wpAnyH_take (i := 0) (oi := ⟨some 23, Op.move (.tmp 6), 3, "lent.go:399", #[], none⟩) (v := ?_) rfl (by kernel_rfl) (by kernel_rfl) (by kernel_rfl) (fun _ _ _ h => h) (Or.inl ⟨by rfl, ?_⟩) (by assumption) ?_
        rotate_left
        focus (intro w hSw; (try dsimp only at hSw); go_simp; try with_reducible rfl)
        try simp only [Act.put, sb0, sb1, sb2]
        refine wpAnyH_take (i := 1) (oi := ⟨some 24, Op.move (.tmp 1), 28, "lent.go:399", #[], none⟩) (v := ?_) rfl (by kernel_rfl) (by kernel_rfl) (by kernel_rfl) (fun _ _ _ h => h) (Or.inl ⟨by rfl, ?_⟩) (by assumption) ?_
        rotate_left
        focus (intro w hSw; (try dsimp only at hSw); go_simp; try with_reducible rfl)
        try simp only [Act.put, sb0, sb1, sb2]
        refine wpAnyH_take (i := 2) (oi := ⟨some 25, Op.call { callee := Callee.builtin Builtin.len, args := #[.tmp 24], argTypes := #[28] }, 3, "lent.go:399", #[⟨1, .data⟩], none⟩) (v := ?_) rfl (by kernel_rfl) (by kernel_rfl) (by kernel_rfl) (fun _ _ _ h => h) (Or.inl ⟨by rfl, ?_⟩) (by assumption) ?_
        rotate_left
        focus (intro w hSw; (try dsimp only at hSw); go_simp; try with_reducible rfl)
        try simp only [Act.put, sb0, sb1, sb2]
        refine wpAnyH_take (i := 3) (oi := ⟨some 26, Op.binOp BinOp.lss 3 (.tmp 23) (.tmp 25) 3, 4, "lent.go:399", #[⟨0, .data⟩, ⟨2, .data⟩], none⟩) (v := ?_) rfl (by kernel_rfl) (by kernel_rfl) (by kernel_rfl) (fun _ _ _ h => h) (Or.inl ⟨by rfl, ?_⟩) (by assumption) ?_
        rotate_left
        focus (intro w hSw; (try dsimp only at hSw); go_simp; try with_reducible rfl)
        try simp only [Act.put, sb0, sb1, sb2]
        refine wpAnyH_take (i := 4) (oi := ⟨some 27, Op.move (.tmp 26), 4, "lent.go:399", #[⟨3, .data⟩], none⟩) (v := ?_) rfl (by kernel_rfl) (by kernel_rfl) (by kernel_rfl) (fun _ _ _ h => h) (Or.inl ⟨by rfl, ?_⟩) (by assumption) ?_
        rotate_left
        focus (intro w hSw; (try dsimp only at hSw); go_simp; try with_reducible rfl)
        try simp only [Act.put, sb0, sb1, sb2]
        refine wpAnyH_take (i := 5) (oi := ⟨some 28, Op.move (.tmp 5), 28, "lent.go:399", #[⟨4, .guard⟩], some (4, true)⟩) (v := undef) rfl (by kernel_rfl) (by kernel_rfl) (by kernel_rfl) (fun _ _ _ h => h) (Or.inr ⟨by rfl, by rfl⟩) (by assumption) ?_
        try simp only [Act.put, sb0, sb1, sb2]
        refine wpAnyH_take (i := 6) (oi := ⟨some 29, Op.move (.tmp 6), 3, "lent.go:399", #[⟨4, .guard⟩], some (4, true)⟩) (v := undef) rfl (by kernel_rfl) (by kernel_rfl) (by kernel_rfl) (fun _ _ _ h => h) (Or.inr ⟨by rfl, by rfl⟩) (by assumption) ?_
        try simp only [Act.put, sb0, sb1, sb2]
        refine wpAnyH_take (i := 7) (oi := ⟨some 30, Op.indexAddr 28 (.tmp 28) (.tmp 29), 0, "lent.go:399", #[⟨5, .data⟩, ⟨6, .data⟩, ⟨4, .guard⟩], some (4, true)⟩) (v := undef) rfl (by kernel_rfl) (by kernel_rfl) (by kernel_rfl) (fun _ _ _ h => h) (Or.inr ⟨by rfl, by rfl⟩) (by assumption) ?_
        try simp only [Act.put, sb0, sb1, sb2]
        refine wpAnyH_take (i := 8) (oi := ⟨some 31, Op.load 37 (.tmp 30), 37, "lent.go:399", #[⟨7, .data⟩, ⟨4, .guard⟩], some (4, true)⟩) (v := undef) rfl (by kernel_rfl) (by kernel_rfl) (by kernel_rfl) (fun _ _ _ h => h) (Or.inr ⟨by rfl, by rfl⟩) (by assumption) ?_
        try simp only [Act.put, sb0, sb1, sb2]
        refine wpAnyH_take (i := 9) (oi := ⟨some 32, Op.move (.tmp 1), 28, "lent.go:399", #[⟨4, .guard⟩], some (4, true)⟩) (v := undef) rfl (by kernel_rfl) (by kernel_rfl) (by kernel_rfl) (fun _ _ _ h => h) (Or.inr ⟨by rfl, by rfl⟩) (by assumption) ?_
        try simp only [Act.put, sb0, sb1, sb2]
        refine wpAnyH_take (i := 10) (oi := ⟨some 33, Op.move (.tmp 6), 3, "lent.go:399", #[⟨4, .guard⟩], some (4, true)⟩) (v := undef) rfl (by kernel_rfl) (by kernel_rfl) (by kernel_rfl) (fun _ _ _ h => h) (Or.inr ⟨by rfl, by rfl⟩) (by assumption) ?_
        try simp only [Act.put, sb0, sb1, sb2]
        refine wpAnyH_take (i := 11) (oi := ⟨some 34, Op.indexAddr 28 (.tmp 32) (.tmp 33), 0, "lent.go:399", #[⟨9, .data⟩, ⟨10, .data⟩, ⟨4, .guard⟩], some (4, true)⟩) (v := undef) rfl (by kernel_rfl) (by kernel_rfl) (by kernel_rfl) (fun _ _ _ h => h) (Or.inr ⟨by rfl, by rfl⟩) (by assumption) ?_
        try simp only [Act.put, sb0, sb1, sb2]
        refine wpAnyH_take (i := 12) (oi := ⟨some 35, Op.load 37 (.tmp 34), 37, "lent.go:399", #[⟨11, .data⟩, ⟨4, .guard⟩], some (4, true)⟩) (v := undef) rfl (by kernel_rfl) (by kernel_rfl) (by kernel_rfl) (fun _ _ _ h => h) (Or.inr ⟨by rfl, by rfl⟩) (by assumption) ?_
        try simp only [Act.put, sb0, sb1, sb2]
        refine wpAnyH_take (i := 13) (oi := ⟨some 36, Op.call ⟨.value (.func 88), #[.tmp 31, .tmp 35], #[37, 37]⟩, 4, "lent.go:399", #[⟨8, .data⟩, ⟨12, .data⟩, ⟨4, .chain⟩, ⟨4, .guard⟩], some (4, true)⟩) (v := undef) rfl (by kernel_rfl) (by kernel_rfl) (by kernel_rfl) (fun _ _ _ h => h) (Or.inr ⟨by rfl, by rfl⟩) (by assumption) ?_
        try simp only [Act.put, sb0, sb1, sb2]
        refine wpAnyH_take (i := 14) (oi := ⟨some 37, Op.unOp UnOp.not 4 (.tmp 36), 4, "lent.go:399", #[⟨13, .data⟩, ⟨4, .guard⟩], some (4, true)⟩) (v := undef) rfl (by kernel_rfl) (by kernel_rfl) (by kernel_rfl) (fun _ _ _ h => h) (Or.inr ⟨by rfl, by rfl⟩) (by assumption) ?_
        try simp only [Act.put, sb0, sb1, sb2]
        refine wpAnyH_take (i := 15) (oi := ⟨some 38, Op.pick (.tmp 27) (.tmp 37) (.const (Value.bool false)), 4, "lent.go:399", #[⟨4, .data⟩, ⟨14, .data⟩], none⟩) (v := ?_) rfl (by kernel_rfl) (by kernel_rfl) (by kernel_rfl) (fun _ _ _ h => h) (Or.inl ⟨by rfl, ?_⟩) (by assumption) ?_
        rotate_left
        focus (intro w hSw; (try dsimp only at hSw); go_simp; try with_reducible rfl)
        try simp only [Act.put, sb0, sb1, sb2]
        refine wpAnyH_take (i := 16) (oi := ⟨some 39, Op.move (.tmp 38), 4, "lent.go:399", #[⟨15, .data⟩, ⟨13, .chain⟩], none⟩) (v := ?_) rfl (by kernel_rfl) (by kernel_rfl) (by kernel_rfl) (fun _ _ _ h => h) (Or.inl ⟨by rfl, ?_⟩) (by assumption) ?_
        rotate_left
        focus (intro w hSw; (try dsimp only at hSw); go_simp; try with_reducible rfl)
        try simp only [Act.put, sb0, sb1, sb2]
        refine wpAnyH_take (i := 17) (oi := ⟨some 40, Op.move (.tmp 6), 3, "lent.go:399", #[⟨16, .guard⟩], some (16, false)⟩) (v := ?_) rfl (by kernel_rfl) (by kernel_rfl) (by kernel_rfl) (fun _ _ _ h => h) (Or.inl ⟨by rfl, ?_⟩) (by assumption) ?_
        rotate_left
        focus (intro w hSw; (try dsimp only at hSw); go_simp; try with_reducible rfl)
        try simp only [Act.put, sb0, sb1, sb2]
        refine wpAnyH_take (i := 18) (oi := ⟨some 41, Op.move (.tmp 1), 28, "lent.go:399", #[⟨16, .guard⟩], some (16, false)⟩) (v := ?_) rfl (by kernel_rfl) (by kernel_rfl) (by kernel_rfl) (fun _ _ _ h => h) (Or.inl ⟨by rfl, ?_⟩) (by assumption) ?_
        rotate_left
        focus (intro w hSw; (try dsimp only at hSw); go_simp; try with_reducible rfl)
        try simp only [Act.put, sb0, sb1, sb2]
        refine wpAnyH_take (i := 19) (oi := ⟨some 42, Op.call { callee := Callee.builtin Builtin.len, args := #[.tmp 41], argTypes := #[28] }, 3, "lent.go:399", #[⟨18, .data⟩, ⟨16, .guard⟩], some (16, false)⟩) (v := ?_) rfl (by kernel_rfl) (by kernel_rfl) (by kernel_rfl) (fun _ _ _ h => h) (Or.inl ⟨by rfl, ?_⟩) (by assumption) ?_
        rotate_left
        focus (intro w hSw; (try dsimp only at hSw); go_simp; try with_reducible rfl)
        try simp only [Act.put, sb0, sb1, sb2]
        refine wpAnyH_take (i := 20) (oi := ⟨some 43, Op.binOp BinOp.geq 3 (.tmp 40) (.tmp 42) 3, 4, "lent.go:399", #[⟨17, .data⟩, ⟨19, .data⟩, ⟨16, .guard⟩], some (16, false)⟩) (v := ?_) rfl (by kernel_rfl) (by kernel_rfl) (by kernel_rfl) (fun _ _ _ h => h) (Or.inl ⟨by rfl, ?_⟩) (by assumption) ?_
        rotate_left
        focus (intro w hSw; (try dsimp only at hSw); go_simp; try with_reducible rfl)
        try simp only [Act.put, sb0, sb1, sb2]
        refine wpAnyH_take (i := 21) (oi := ⟨some 44, Op.move (.tmp 43), 4, "lent.go:399", #[⟨20, .data⟩, ⟨16, .chain⟩, ⟨16, .guard⟩], some (16, false)⟩) (v := ?_) rfl (by kernel_rfl) (by kernel_rfl) (by kernel_rfl) (fun _ _ _ h => h) (Or.inl ⟨by rfl, ?_⟩) (by assumption) ?_
        rotate_left
        focus (intro w hSw; (try dsimp only at hSw); go_simp; try with_reducible rfl)
        try simp only [Act.put, sb0, sb1, sb2]
        refine wpAnyH_take (i := 22) (oi := ⟨some 45, Op.move (.tmp 5), 28, "lent.go:399", #[⟨21, .guard⟩], some (21, true)⟩) (v := ?_) rfl (by kernel_rfl) (by kernel_rfl) (by kernel_rfl) (fun _ _ _ h => h) (Or.inl ⟨by rfl, ?_⟩) (by assumption) ?_
        rotate_left
        focus (intro w hSw; (try dsimp only at hSw); go_simp; try with_reducible rfl)
        try simp only [Act.put, sb0, sb1, sb2]
        refine wpAnyH_take (i := 23) (oi := ⟨some 46, Op.move (.tmp 6), 3, "lent.go:399", #[⟨21, .guard⟩], some (21, true)⟩) (v := ?_) rfl (by kernel_rfl) (by kernel_rfl) (by kernel_rfl) (fun _ _ _ h => h) (Or.inl ⟨by rfl, ?_⟩) (by assumption) ?_
        rotate_left
        focus (intro w hSw; (try dsimp only at hSw); go_simp; try with_reducible rfl)
        try simp only [Act.put, sb0, sb1, sb2]
        refine wpAnyH_take (i := 24) (oi := ⟨some 47, Op.indexAddr 28 (.tmp 45) (.tmp 46), 0, "lent.go:399", #[⟨22, .data⟩, ⟨23, .data⟩, ⟨21, .guard⟩], some (21, true)⟩) (v := ?_) rfl (by kernel_rfl) (by kernel_rfl) (by kernel_rfl) (fun _ _ _ h => h) (Or.inl ⟨by rfl, ?_⟩) (by assumption) ?_
        rotate_left
        focus (intro w hSw; (try dsimp only at hSw); go_simp; try with_reducible rfl)
        try simp only [Act.put, sb0, sb1, sb2]
        refine wpAnyH_take (i := 25) (oi := ⟨some 48, Op.load 37 (.tmp 47), 37, "lent.go:399", #[⟨24, .data⟩, ⟨21, .guard⟩], some (21, true)⟩) (v := ?_) rfl (by kernel_rfl) (by kernel_rfl) (by kernel_rfl) (fun _ _ _ h => h) (Or.inl ⟨by rfl, ?_⟩) (by assumption) ?_
        rotate_left
        focus (intro w hSw; (try dsimp only at hSw); go_simp; try with_reducible rfl)
        try simp only [Act.put, sb0, sb1, sb2]
        refine wpAnyH_take (i := 26) (oi := ⟨some 49, Op.move (.tmp 6), 3, "lent.go:399", #[⟨21, .guard⟩], some (21, true)⟩) (v := ?_) rfl (by kernel_rfl) (by kernel_rfl) (by kernel_rfl) (fun _ _ _ h => h) (Or.inl ⟨by rfl, ?_⟩) (by assumption) ?_
        rotate_left
        focus (intro w hSw; (try dsimp only at hSw); go_simp; try with_reducible rfl)
        try simp only [Act.put, sb0, sb1, sb2]
        refine wpAnyH_take (i := 27) (oi := ⟨some 50, Op.move (.tmp 1), 28, "lent.go:399", #[⟨21, .guard⟩], some (21, true)⟩) (v := ?_) rfl (by kernel_rfl) (by kernel_rfl) (by kernel_rfl) (fun _ _ _ h => h) (Or.inl ⟨by rfl, ?_⟩) (by assumption) ?_
        rotate_left
        focus (intro w hSw; (try dsimp only at hSw); go_simp; try with_reducible rfl)
        try simp only [Act.put, sb0, sb1, sb2]
        refine wpAnyH_take (i := 28) (oi := ⟨some 51, Op.call { callee := Callee.builtin Builtin.len, args := #[.tmp 50], argTypes := #[28] }, 3, "lent.go:399", #[⟨27, .data⟩, ⟨21, .guard⟩], some (21, true)⟩) (v := ?_) rfl (by kernel_rfl) (by kernel_rfl) (by kernel_rfl) (fun _ _ _ h => h) (Or.inl ⟨by rfl, ?_⟩) (by assumption) ?_
        rotate_left
        focus (intro w hSw; (try dsimp only at hSw); go_simp; try with_reducible rfl)
        try simp only [Act.put, sb0, sb1, sb2]
        refine wpAnyH_take (i := 29) (oi := ⟨some 52, Op.binOp BinOp.sub 3 (.tmp 49) (.tmp 51) 3, 3, "lent.go:399", #[⟨26, .data⟩, ⟨28, .data⟩, ⟨21, .guard⟩], some (21, true)⟩) (v := ?_) rfl (by kernel_rfl) (by kernel_rfl) (by kernel_rfl) (fun _ _ _ h => h) (Or.inl ⟨by rfl, ?_⟩) (by assumption) ?_
        rotate_left
        focus (intro w hSw; (try dsimp only at hSw); go_simp; try with_reducible rfl)
        try simp only [Act.put, sb0, sb1, sb2]
        refine wpAnyH_ready (rs := [30]) (by kernel_rfl) (by simp) ?_
        refine AllReadyH.cons (o := ⟨some 53, Op.call ⟨.value (.func 73), #[.const (.int .i64 1), .tmp 52], #[3, 3]⟩, 37, "lent.go:399", #[⟨29, .data⟩, ⟨21, .chain⟩, ⟨21, .guard⟩], some (21, true)⟩) rfl (fun K hK => ?_) AllReadyH.nil
        go_simp
        go_at_call 73
        refine (HMARK.out _ _ (by first | rfl | exact HWR.out | exact HWR2.out)).mono ?_
        rintro e w6 ⟨rfl, hb6⟩
        have hq1 := keep_cell hb6 hc3
        have hq2 := keep_cell hb6 hc4
        have hq3 : Hid (Below w.heap.size w w6) := keep_below hb6 (bl_trans HB.out (bl_drew _))
        clear hb6
        try go_wp2_with fail
        refine hK.out _ _ ⟨hq1, hq2, hq3⟩ (fun hHeld2 => ?_)
        clear hK K
        try simp only [Act.put, sb0, sb1, sb2]
        refine wpAnyH_ready (rs := [31]) (by kernel_rfl) (by simp) ?_
        refine AllReadyH.cons (o := ⟨some 54, Op.call ⟨.value (.func 89), #[.tmp 48, .tmp 53], #[37, 37]⟩, 4, "lent.go:399", #[⟨25, .data⟩, ⟨30, .data⟩, ⟨30, .chain⟩, ⟨21, .guard⟩], some (21, true)⟩) rfl (fun K hK => ?_) AllReadyH.nil
        go_simp
        go_at_call 89
        refine (HSM.out _).mono ?_
        rintro e w7 ⟨rfl, hb7⟩
        have hr1 := keep_cell hb7 hq1
        have hr2 := keep_cell hb7 hq2
        have hr3 : Hid (Below w.heap.size w w7) := keep_below hb7 hq3
        clear hb7
        try go_wp2_with fail
        refine hK.out _ _ ⟨hr1, hr2, hr3⟩ (fun hHeld3 => ?_)
        clear hK K
        try simp only [Act.put, sb0, sb1, sb2]
        refine wpAnyH_take (i := 32) (oi := ⟨some 55, Op.unOp UnOp.not 4 (.tmp 54), 4, "lent.go:399", #[⟨31, .data⟩, ⟨21, .guard⟩], some (21, true)⟩) (v := ?_) rfl (by kernel_rfl) (by kernel_rfl) (by kernel_rfl) (fun _ _ _ h => h) (Or.inl ⟨by rfl, ?_⟩) (by assumption) ?_
        rotate_left
        focus (intro w hSw; (try dsimp only at hSw); go_simp; try with_reducible rfl)
        try simp only [Act.put, sb0, sb1, sb2]
        refine wpAnyH_take (i := 33) (oi := ⟨some 56, Op.pick (.tmp 44) (.tmp 55) (.const (Value.bool false)), 4, "lent.go:399", #[⟨21, .data⟩, ⟨32, .data⟩, ⟨16, .guard⟩], some (16, false)⟩) (v := ?_) rfl (by kernel_rfl) (by kernel_rfl) (by kernel_rfl) (fun _ _ _ h => h) (Or.inl ⟨by rfl, ?_⟩) (by assumption) ?_
        rotate_left
        focus (intro w hSw; (try dsimp only at hSw); go_simp; try with_reducible rfl)
        try simp only [Act.put, sb0, sb1, sb2]
        refine wpAnyH_take (i := 34) (oi := ⟨some 57, Op.pick (.tmp 39) (.const (Value.bool true)) (.tmp 56), 4, "lent.go:399", #[⟨16, .data⟩, ⟨33, .data⟩], none⟩) (v := ?_) rfl (by kernel_rfl) (by kernel_rfl) (by kernel_rfl) (fun _ _ _ h => h) (Or.inl ⟨by rfl, ?_⟩) (by assumption) ?_
        rotate_left
        focus (intro w hSw; (try dsimp only at hSw); go_simp; try with_reducible rfl)
        try simp only [Act.put, sb0, sb1, sb2]
        refine wpAnyH_done (by kernel_rfl) ?_ _
        go_wp2
        go_roundw
        case rel => exact ⟨k + 1, by omega, by go_num, by assumption⟩
        case measure => simp [intOf]; omega
      · have hkJ : (n : Int) + 12 ≤ k := by omega
        go_wp2
        go_ret
        exact ⟨rfl, HB.out⟩
end Go.Proofs.YtglgfpapackcdaaGreat
