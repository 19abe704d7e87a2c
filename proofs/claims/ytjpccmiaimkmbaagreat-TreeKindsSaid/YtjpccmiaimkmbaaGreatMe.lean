/- The walk of written: a drawn region of guarded calls. -/
import Derived.Test.YtjpccmiaimkmbaaGreatMd

namespace Go.Proofs.YtjpccmiaimkmbaaGreat
open Go.RowKit Tnr Tnt

def writtenB (xs : List NV) (l : List (Nat × Nat)) (nm : Nat) : Bool := decide ((gf l (xs.length - 1)).2 ≤ 60) && (allB neverB xs [12, 13] && (countB xs (fsZ l) nm && allB (upToB nm) xs [8]))
set_option maxHeartbeats 6400000 in
set_option maxRecDepth 100000 in
theorem written_any (p : Option Addr) (n c : Nat) (xs : List NV) (pf pd : Option Addr) (cf cd nm : Nat) (l : List (Nat × Nat)) (B : Nat) (w : World) (hn : n = xs.length) (h1 : 1 ≤ n) (h4 : n ≤ 4000) (hl : n = l.length) (hL : SlN w p xs) (hfs : OwnZ w B (.slice pf n cf) (fsZ l)) (hds : OwnZ w B (.slice pd n cd) (dsZ l)) :
    Calls Tryz.prog 61 #[.agg #[.slice p n c, .slice pf n cf, .slice pd n cd], .int .i64 (nm : Nat)] w fun e w' => e = .returned (.bool (writtenB xs l nm)) ∧ Below w.heap.size w w' := by
  obtain ⟨W0, hW0⟩ : ∃ W, W = (w.alloc (.cells #[.slice p n c, .slice pf n cf, .slice pd n cd] 67)).drew := ⟨_, rfl⟩
  obtain ⟨b0, hb0⟩ : ∃ b, b = w.heap.size := ⟨_, rfl⟩
  have hbl : Below w.heap.size w W0 := by rw [hW0]; exact (bl_alloc _ _).drew
  have hT : Bx W0 b0 67 #[.slice p n c, .slice pf n cf, .slice pd n cd] := by rw [hW0, hb0]; exact Bx.new w _ _
  have hS : (fun (V : World) => V.cell? ⟨b0, 0, none⟩ = some (.slice p n c) ∧ V.cell? ⟨b0, 1, none⟩ = some (.slice pf n cf) ∧ V.cell? ⟨b0, 2, none⟩ = some (.slice pd n cd)) W0 := ⟨hT.cell rfl, hT.cell rfl, hT.cell rfl⟩
  have HBL := Lib.hid hbl
  have HBW0 : Hid (Below W0.heap.size W0 W0) := Below.refl _ _
  have HL := Lib.hid (hL.below hbl)
  have HOF := Lib.hid (And.intro (ownZ_below hfs hbl) (ownZ_below hds hbl))
  have HN := Lib.hid (And.intro hn (And.intro h1 (And.intro h4 hl)))
  have HW0 := Lib.hid (And.intro hW0 hb0)
  obtain ⟨dp, hdp⟩ : ∃ d, d = (gf l (xs.length - 1)).2 := ⟨_, rfl⟩
  obtain ⟨ab, hab⟩ : ∃ b : Bool, b = allB neverB xs [12, 13] := ⟨_, rfl⟩
  obtain ⟨cb, hcb⟩ : ∃ b : Bool, b = countB xs (fsZ l) nm := ⟨_, rfl⟩
  obtain ⟨ub, hub⟩ : ∃ b : Bool, b = allB (upToB nm) xs [8] := ⟨_, rfl⟩
  have HV : Hid (writtenB xs l nm = (decide (dp ≤ 60) && (ab && (cb && ub)))) := by show _ = _; unfold writtenB; rw [← hdp, ← hab, ← hcb, ← hub]
  have HDC : Hid (∀ V, Below W0.heap.size W0 V → Calls Tryz.prog 63 #[.agg #[.slice p n c, .slice pf n cf, .slice pd n cd]] V fun e w' => e = .returned (.int .i64 (dp : Nat)) ∧ Below V.heap.size V w') := fun V hV => by
    have := deep_any (.slice p n c) pf pd n cf cd l B V hl h1 h4 (ownZ_below HOF.out.2 hV)
    rw [hn, ← hdp] at this; rw [hn]; exact this
  have HAC : Hid (∀ V q, Below W0.heap.size W0 V → SlU V (some ⟨q, 0, none⟩) [12, 13] → Calls Tryz.prog 108 #[.slice p n c, .func (.func 109) #[] #[], .slice (some ⟨q, 0, none⟩) 2 2] V fun e w' => e = .returned (.bool ab) ∧ Below V.heap.size V w') := fun V q hV hU => by
    rw [hab]; exact allNever_any p n c xs (some ⟨q, 0, none⟩) 2 2 [12, 13] V hn (by omega) rfl (by omega) (HL.out.below hV) hU
  have HCC : Hid (∀ V, Below W0.heap.size W0 V → Calls Tryz.prog 110 #[.agg #[.slice p n c, .slice pf n cf, .slice pd n cd], .int .i64 (nm : Nat)] V fun e w' => e = .returned (.bool cb) ∧ Below V.heap.size V w') := fun V hV => by
    rw [hcb]; exact counted_any p n c xs pf pd cf cd nm (fsZ l) V hn h1 (by omega) (HL.out.below hV) (by rw [fsZ_length]; exact hl) (ownZ_slz (ownZ_below HOF.out.1 hV))
  have HUC : Hid (∀ V q g, Below W0.heap.size W0 V → SlU V (some ⟨q, 0, none⟩) [8] → Bx V g 3 #[.int .i64 (nm : Nat)] → Calls Tryz.prog 108 #[.slice p n c, .func (.func 144) #[] #[.pointer (some ⟨g, 0, none⟩)], .slice (some ⟨q, 0, none⟩) 1 1] V fun e w' => e = .returned (.bool ub) ∧ Below V.heap.size V w') := fun V q g hV hU hG => by
    rw [hub]; exact allUpTo_any nm g p n c xs (some ⟨q, 0, none⟩) 1 1 [8] V hn (by omega) rfl (by omega) hG (HL.out.below hV) hU
  clear hdp hab hcb hub
  by_cases h60 : dp ≤ 60
  · have e60 : decide (((dp : Nat) : Int) ≤ 60) = true := by simp; omega
    have e61 : decide (dp ≤ 60) = true := by simp; omega
    rw [e61] at HV
    clear h60
    cases ab with
    | false =>
      have HF : Hid (writtenB xs l nm = false) := HV.out
      clear hbl hT hL hfs hds hn h1 h4 hl hW0 hb0
      have hS0 := hS
      clear hS
      go_enter Tryz.func61, Tryz.ntmps61
      go_wp2
      rw [← HW0.out.2]
      refine wp_region_L (S := fun (V : World) => V.cell? ⟨b0, 0, none⟩ = some (.slice p n c) ∧ V.cell? ⟨b0, 1, none⟩ = some (.slice pf n cf) ∧ V.cell? ⟨b0, 2, none⟩ = some (.slice pd n cd)) (S2 := fun (V : World) => V.cell? ⟨b0, 0, none⟩ = some (.slice p n c) ∧ V.cell? ⟨b0, 1, none⟩ = some (.slice pf n cf) ∧ V.cell? ⟨b0, 2, none⟩ = some (.slice pd n cd)) 22 22 (by kernel_rfl) ?_
      rw [show (w.alloc (.cells #[.slice p n c, .slice pf n cf, .slice pd n cd] 67)).drew = W0 from HW0.out.1.symm]
      have hS := hS0
      have hS2 := hS0
      clear hS0
      refine anyL_take1 (i := 0) (oi := ⟨some 5, Op.load 67 (.tmp 2), 67, "written.go:15", #[], none⟩) (u := ?_) rfl (by kernel_rfl) (fun _ _ _ h => h) (Or.inl ⟨by kernel_rfl, ?_⟩) ⟨fun _ => hS, fun _ => hS2⟩ ?_
      rotate_left
      focus (intro w hSw; (try dsimp only at hSw); go_simp; with_reducible rfl)
      try simp only [Act.put, sb0, sb1, sb2]
      refine anyL_one (i := 1) (o := ⟨some 6, Op.call ⟨.value (.func 63), #[.tmp 5], #[67]⟩, 3, "written.go:15", #[⟨0, .data⟩], none⟩) (by kernel_rfl) rfl (fun K hK => ?_)
      go_simp
      refine (HDC.out W0 HBW0.out).mono ?_
      rintro e w1 ⟨rfl, hbw1⟩
      have HBw1 := Lib.hid (HBW0.out.trans (hbw1.mono HBW0.out.size))
      have hSw1 : (fun (V : World) => V.cell? ⟨b0, 0, none⟩ = some (.slice p n c) ∧ V.cell? ⟨b0, 1, none⟩ = some (.slice pf n cf) ∧ V.cell? ⟨b0, 2, none⟩ = some (.slice pd n cd)) w1 := ⟨cell_below hS.1 hbw1, cell_below hS.2.1 hbw1, cell_below hS.2.2 hbw1⟩
      refine hK.out _ _ ⟨fun _ => hSw1, fun _ => hSw1⟩ ?_
      clear hK K hS hS2 hbw1
      have hS := hSw1
      have hS2 := hSw1
      clear hSw1
      try simp only [Act.put, sb0, sb1, sb2]
      refine anyL_take1 (i := 2) (oi := ⟨some 7, Op.binOp BinOp.leq 3 (.tmp 6) (.const (.int .i64 60)) 3, 4, "written.go:15", #[⟨1, .data⟩], none⟩) (u := ?_) rfl (by kernel_rfl) (fun _ _ _ h => h) (Or.inl ⟨by kernel_rfl, ?_⟩) ⟨fun _ => hS, fun _ => hS2⟩ ?_
      rotate_left
      focus (intro w hSw; (try dsimp only at hSw); go_simp; with_reducible rfl)
      try simp only [Act.put, sb0, sb1, sb2]
      refine anyL_take1 (i := 3) (oi := ⟨some 8, Op.move (.tmp 7), 4, "written.go:15", #[⟨2, .data⟩, ⟨1, .chain⟩], none⟩) (u := ?_) rfl (by kernel_rfl) (fun _ _ _ h => h) (Or.inl ⟨by kernel_rfl, ?_⟩) ⟨fun _ => hS, fun _ => hS2⟩ ?_
      rotate_left
      focus (intro w hSw; (try dsimp only at hSw); go_simp; with_reducible rfl)
      try simp only [Act.put, sb0, sb1, sb2]
      refine anyL_take1 (i := 4) (oi := ⟨some 9, Op.fieldAddr 67 (.tmp 2) 0, 0, "written.go:15", #[⟨3, .guard⟩], some (3, true)⟩) (u := ?_) rfl (by kernel_rfl) (fun _ _ _ h => h) (Or.inl ⟨by kernel_rfl, ?_⟩) ⟨fun _ => hS, fun _ => hS2⟩ ?_
      rotate_left
      focus (intro w hSw; (try dsimp only at hSw); go_simp; with_reducible rfl)
      try simp only [Act.put, sb0, sb1, sb2]
      refine anyL_take1 (i := 5) (oi := ⟨some 10, Op.load 63 (.tmp 9), 63, "written.go:15", #[⟨4, .data⟩, ⟨3, .guard⟩], some (3, true)⟩) (u := ?_) rfl (by kernel_rfl) (fun _ _ _ h => h) (Or.inl ⟨by kernel_rfl, ?_⟩) ⟨fun _ => hS, fun _ => hS2⟩ ?_
      rotate_left
      focus (intro w hSw; (try dsimp only at hSw); go_simp; with_reducible rfl)
      try simp only [Act.put, sb0, sb1, sb2]
      refine anyL_one (i := 6) (o := ⟨some 11, Op.buildSlice 136 2 #[(0, .const (.int .u8 12)), (1, .const (.int .u8 13))], 136, "written.go:15", #[⟨3, .guard⟩], some (3, true)⟩) (by kernel_rfl) rfl (fun K hK => ?_)
      go_simp
      obtain ⟨w2, hww2⟩ : ∃ W, W = w1.alloc (.cells #[.int .u8 12, .int .u8 13] 22) := ⟨_, rfl⟩
      rw [← hww2]
      have hbw2 : Below w1.heap.size w1 w2 := by rw [hww2]; exact bl_alloc _ _
      have HUw2 : Hid (SlU w2 (some ⟨w1.heap.size, 0, none⟩) [12, 13]) := by show SlU _ _ _; rw [hww2]; exact slu_new _ _ _ _ rfl
      clear hww2
      have HBw2 := Lib.hid (HBw1.out.trans (hbw2.mono HBw1.out.size))
      have hSw2 : (fun (V : World) => V.cell? ⟨b0, 0, none⟩ = some (.slice p n c) ∧ V.cell? ⟨b0, 1, none⟩ = some (.slice pf n cf) ∧ V.cell? ⟨b0, 2, none⟩ = some (.slice pd n cd)) w2 := ⟨cell_below hS.1 hbw2, cell_below hS.2.1 hbw2, cell_below hS.2.2 hbw2⟩
      refine hK.out _ _ ⟨fun _ => hSw2, fun _ => hSw2⟩ ?_
      clear hK K hS hS2 hbw2
      have hS := hSw2
      have hS2 := hSw2
      clear hSw2
      try simp only [Act.put, sb0, sb1, sb2]
      refine anyL_one (i := 7) (o := ⟨some 12, Op.call { callee := Callee.value (.func 108), args := #[.tmp 10, .func 109, .tmp 11], argTypes := #[63, 141, 136] }, 4, "written.go:15", #[⟨5, .data⟩, ⟨6, .data⟩, ⟨3, .chain⟩, ⟨3, .guard⟩], some (3, true)⟩) (by kernel_rfl) rfl (fun K hK => ?_)
      go_simp
      refine (HAC.out w2 _ HBw2.out HUw2.out).mono ?_
      rintro e w3 ⟨rfl, hbw3⟩
      have HBw3 := Lib.hid (HBw2.out.trans (hbw3.mono HBw2.out.size))
      have hSw3 : (fun (V : World) => V.cell? ⟨b0, 0, none⟩ = some (.slice p n c) ∧ V.cell? ⟨b0, 1, none⟩ = some (.slice pf n cf) ∧ V.cell? ⟨b0, 2, none⟩ = some (.slice pd n cd)) w3 := ⟨cell_below hS.1 hbw3, cell_below hS.2.1 hbw3, cell_below hS.2.2 hbw3⟩
      refine hK.out _ _ ⟨fun _ => hSw3, fun _ => hSw3⟩ ?_
      clear hK K hS hS2 hbw3
      have hS := hSw3
      have hS2 := hSw3
      clear hSw3
      try simp only [Act.put, sb0, sb1, sb2]
      refine anyL_take1 (i := 8) (oi := ⟨some 13, Op.pick (.tmp 8) (.tmp 12) (.const (Value.bool false)), 4, "written.go:15", #[⟨3, .data⟩, ⟨7, .data⟩], none⟩) (u := ?_) rfl (by kernel_rfl) (fun _ _ _ h => h) (Or.inl ⟨by kernel_rfl, ?_⟩) ⟨fun _ => hS, fun _ => hS2⟩ ?_
      rotate_left
      focus (intro w hSw; (try dsimp only at hSw); go_simp; with_reducible rfl)
      try simp only [Act.put, sb0, sb1, sb2]
      refine anyL_take1 (i := 9) (oi := ⟨some 14, Op.move (.tmp 13), 4, "written.go:15", #[⟨8, .data⟩, ⟨7, .chain⟩], none⟩) (u := ?_) rfl (by kernel_rfl) (fun _ _ _ h => h) (Or.inl ⟨by kernel_rfl, ?_⟩) ⟨fun _ => hS, fun _ => hS2⟩ ?_
      rotate_left
      focus (intro w hSw; (try dsimp only at hSw); go_simp; with_reducible rfl)
      try simp only [Act.put, sb0, sb1, sb2]
      refine anyL_take1 (i := 10) (oi := ⟨some 15, Op.load 67 (.tmp 2), 67, "written.go:15", #[⟨9, .guard⟩], some (9, true)⟩) (u := undef) rfl (by kernel_rfl) (fun _ _ _ h => h) (Or.inr ⟨?_, rfl⟩) ⟨fun _ => ?_, fun _ => ?_⟩ ?_
      rotate_left 3
      try simp only [Act.put, sb0, sb1, sb2]
      rotate_left 1
      focus kernel_rfl
      focus exact hS
      focus exact hS2
      refine anyL_take1 (i := 11) (oi := ⟨some 16, Op.move (.tmp 1), 3, "written.go:15", #[⟨9, .guard⟩], some (9, true)⟩) (u := undef) rfl (by kernel_rfl) (fun _ _ _ h => h) (Or.inr ⟨?_, rfl⟩) ⟨fun _ => ?_, fun _ => ?_⟩ ?_
      rotate_left 3
      try simp only [Act.put, sb0, sb1, sb2]
      rotate_left 1
      focus kernel_rfl
      focus exact hS
      focus exact hS2
      refine anyL_take1 (i := 12) (oi := ⟨some 17, Op.call ⟨.value (.func 110), #[.tmp 15, .tmp 16], #[67, 3]⟩, 4, "written.go:15", #[⟨10, .data⟩, ⟨11, .data⟩, ⟨9, .chain⟩, ⟨9, .guard⟩], some (9, true)⟩) (u := undef) rfl (by kernel_rfl) (fun _ _ _ h => h) (Or.inr ⟨?_, rfl⟩) ⟨fun _ => ?_, fun _ => ?_⟩ ?_
      rotate_left 3
      try simp only [Act.put, sb0, sb1, sb2]
      rotate_left 1
      focus kernel_rfl
      focus exact hS
      focus exact hS2
      refine anyL_take1 (i := 13) (oi := ⟨some 18, Op.pick (.tmp 14) (.tmp 17) (.const (Value.bool false)), 4, "written.go:15", #[⟨9, .data⟩, ⟨12, .data⟩], none⟩) (u := ?_) rfl (by kernel_rfl) (fun _ _ _ h => h) (Or.inl ⟨by kernel_rfl, ?_⟩) ⟨fun _ => hS, fun _ => hS2⟩ ?_
      rotate_left
      focus (intro w hSw; (try dsimp only at hSw); go_simp; with_reducible rfl)
      try simp only [Act.put, sb0, sb1, sb2]
      refine anyL_take1 (i := 14) (oi := ⟨some 19, Op.move (.tmp 18), 4, "written.go:15", #[⟨13, .data⟩, ⟨12, .chain⟩], none⟩) (u := ?_) rfl (by kernel_rfl) (fun _ _ _ h => h) (Or.inl ⟨by kernel_rfl, ?_⟩) ⟨fun _ => hS, fun _ => hS2⟩ ?_
      rotate_left
      focus (intro w hSw; (try dsimp only at hSw); go_simp; with_reducible rfl)
      try simp only [Act.put, sb0, sb1, sb2]
      refine anyL_take1 (i := 15) (oi := ⟨some 20, Op.fieldAddr 67 (.tmp 2) 0, 0, "written.go:15", #[⟨14, .guard⟩], some (14, true)⟩) (u := undef) rfl (by kernel_rfl) (fun _ _ _ h => h) (Or.inr ⟨?_, rfl⟩) ⟨fun _ => ?_, fun _ => ?_⟩ ?_
      rotate_left 3
      try simp only [Act.put, sb0, sb1, sb2]
      rotate_left 1
      focus kernel_rfl
      focus exact hS
      focus exact hS2
      refine anyL_take1 (i := 16) (oi := ⟨some 21, Op.load 63 (.tmp 20), 63, "written.go:15", #[⟨15, .data⟩, ⟨14, .guard⟩], some (14, true)⟩) (u := undef) rfl (by kernel_rfl) (fun _ _ _ h => h) (Or.inr ⟨?_, rfl⟩) ⟨fun _ => ?_, fun _ => ?_⟩ ?_
      rotate_left 3
      try simp only [Act.put, sb0, sb1, sb2]
      rotate_left 1
      focus kernel_rfl
      focus exact hS
      focus exact hS2
      refine anyL_take1 (i := 17) (oi := ⟨some 22, Op.move (.tmp 1), 3, "written.go:15", #[⟨14, .guard⟩], some (14, true)⟩) (u := undef) rfl (by kernel_rfl) (fun _ _ _ h => h) (Or.inr ⟨?_, rfl⟩) ⟨fun _ => ?_, fun _ => ?_⟩ ?_
      rotate_left 3
      try simp only [Act.put, sb0, sb1, sb2]
      rotate_left 1
      focus kernel_rfl
      focus exact hS
      focus exact hS2
      refine anyL_take1 (i := 18) (oi := ⟨some 23, Op.call ⟨.value (.func 111), #[.tmp 22], #[3]⟩, 141, "written.go:15", #[⟨17, .data⟩, ⟨14, .chain⟩, ⟨14, .guard⟩], some (14, true)⟩) (u := undef) rfl (by kernel_rfl) (fun _ _ _ h => h) (Or.inr ⟨?_, rfl⟩) ⟨fun _ => ?_, fun _ => ?_⟩ ?_
      rotate_left 3
      try simp only [Act.put, sb0, sb1, sb2]
      rotate_left 1
      focus kernel_rfl
      focus exact hS
      focus exact hS2
      refine anyL_take1 (i := 19) (oi := ⟨some 24, Op.buildSlice 136 1 #[(0, .const (.int .u8 8))], 136, "written.go:15", #[⟨14, .guard⟩], some (14, true)⟩) (u := undef) rfl (by kernel_rfl) (fun _ _ _ h => h) (Or.inr ⟨?_, rfl⟩) ⟨fun _ => ?_, fun _ => ?_⟩ ?_
      rotate_left 3
      try simp only [Act.put, sb0, sb1, sb2]
      rotate_left 1
      focus kernel_rfl
      focus exact hS
      focus exact hS2
      refine anyL_take1 (i := 20) (oi := ⟨some 25, Op.call { callee := Callee.value (.func 108), args := #[.tmp 21, .tmp 23, .tmp 24], argTypes := #[63, 141, 136] }, 4, "written.go:15", #[⟨16, .data⟩, ⟨18, .data⟩, ⟨19, .data⟩, ⟨18, .chain⟩, ⟨14, .guard⟩], some (14, true)⟩) (u := undef) rfl (by kernel_rfl) (fun _ _ _ h => h) (Or.inr ⟨?_, rfl⟩) ⟨fun _ => ?_, fun _ => ?_⟩ ?_
      rotate_left 3
      try simp only [Act.put, sb0, sb1, sb2]
      rotate_left 1
      focus kernel_rfl
      focus exact hS
      focus exact hS2
      refine anyL_take1 (i := 21) (oi := ⟨some 26, Op.pick (.tmp 19) (.tmp 25) (.const (Value.bool false)), 4, "written.go:15", #[⟨14, .data⟩, ⟨20, .data⟩], none⟩) (u := ?_) rfl (by kernel_rfl) (fun _ _ _ h => h) (Or.inl ⟨by kernel_rfl, ?_⟩) ⟨fun _ => hS, fun _ => hS2⟩ ?_
      rotate_left
      focus (intro w hSw; (try dsimp only at hSw); go_simp; with_reducible rfl)
      try simp only [Act.put, sb0, sb1, sb2]
      refine anyL_one (i := 22) (o := ⟨some 4, Op.assign (.tmp 26), 4, "written.go:15", #[⟨21, .data⟩, ⟨20, .chain⟩, ⟨0, .phase⟩, ⟨1, .phase⟩, ⟨2, .phase⟩, ⟨3, .phase⟩, ⟨4, .phase⟩, ⟨5, .phase⟩, ⟨6, .phase⟩, ⟨7, .phase⟩, ⟨8, .phase⟩, ⟨9, .phase⟩, ⟨10, .phase⟩, ⟨11, .phase⟩, ⟨12, .phase⟩, ⟨13, .phase⟩, ⟨14, .phase⟩, ⟨15, .phase⟩, ⟨16, .phase⟩, ⟨17, .phase⟩, ⟨18, .phase⟩, ⟨19, .phase⟩, ⟨20, .phase⟩, ⟨21, .phase⟩], none⟩) (by kernel_rfl) rfl (fun K hK => ?_)
      go_simp
      refine hK.out _ _ ⟨fun h => absurd h (by decide), fun h => absurd h (by decide)⟩ ?_
      clear hK K hS hS2
      try simp only [Act.put, sb0, sb1, sb2]
      refine anyL_done (by kernel_rfl) (show onlyN _ .normal _ _ from ?_) _
      dsimp only [onlyN]
      go_wp2
      go_ret
      exact ⟨by rw [HF.out]; rfl, HBL.out.trans (HBw3.out.mono HBL.out.size)⟩
    | true =>
      cases cb with
      | false =>
        have HF : Hid (writtenB xs l nm = false) := HV.out
        clear hbl hT hL hfs hds hn h1 h4 hl hW0 hb0
        have hS0 := hS
        clear hS
        go_enter Tryz.func61, Tryz.ntmps61
        go_wp2
        rw [← HW0.out.2]
        refine wp_region_L (S := fun (V : World) => V.cell? ⟨b0, 0, none⟩ = some (.slice p n c) ∧ V.cell? ⟨b0, 1, none⟩ = some (.slice pf n cf) ∧ V.cell? ⟨b0, 2, none⟩ = some (.slice pd n cd)) (S2 := fun (V : World) => V.cell? ⟨b0, 0, none⟩ = some (.slice p n c) ∧ V.cell? ⟨b0, 1, none⟩ = some (.slice pf n cf) ∧ V.cell? ⟨b0, 2, none⟩ = some (.slice pd n cd)) 22 22 (by kernel_rfl) ?_
        rw [show (w.alloc (.cells #[.slice p n c, .slice pf n cf, .slice pd n cd] 67)).drew = W0 from HW0.out.1.symm]
        have hS := hS0
        have hS2 := hS0
        clear hS0
        refine anyL_take1 (i := 0) (oi := ⟨some 5, Op.load 67 (.tmp 2), 67, "written.go:15", #[], none⟩) (u := ?_) rfl (by kernel_rfl) (fun _ _ _ h => h) (Or.inl ⟨by kernel_rfl, ?_⟩) ⟨fun _ => hS, fun _ => hS2⟩ ?_
        rotate_left
        focus (intro w hSw; (try dsimp only at hSw); go_simp; with_reducible rfl)
        try simp only [Act.put, sb0, sb1, sb2]
        refine anyL_one (i := 1) (o := ⟨some 6, Op.call ⟨.value (.func 63), #[.tmp 5], #[67]⟩, 3, "written.go:15", #[⟨0, .data⟩], none⟩) (by kernel_rfl) rfl (fun K hK => ?_)
        go_simp
        refine (HDC.out W0 HBW0.out).mono ?_
        rintro e w1 ⟨rfl, hbw1⟩
        have HBw1 := Lib.hid (HBW0.out.trans (hbw1.mono HBW0.out.size))
        have hSw1 : (fun (V : World) => V.cell? ⟨b0, 0, none⟩ = some (.slice p n c) ∧ V.cell? ⟨b0, 1, none⟩ = some (.slice pf n cf) ∧ V.cell? ⟨b0, 2, none⟩ = some (.slice pd n cd)) w1 := ⟨cell_below hS.1 hbw1, cell_below hS.2.1 hbw1, cell_below hS.2.2 hbw1⟩
        refine hK.out _ _ ⟨fun _ => hSw1, fun _ => hSw1⟩ ?_
        clear hK K hS hS2 hbw1
        have hS := hSw1
        have hS2 := hSw1
        clear hSw1
        try simp only [Act.put, sb0, sb1, sb2]
        refine anyL_take1 (i := 2) (oi := ⟨some 7, Op.binOp BinOp.leq 3 (.tmp 6) (.const (.int .i64 60)) 3, 4, "written.go:15", #[⟨1, .data⟩], none⟩) (u := ?_) rfl (by kernel_rfl) (fun _ _ _ h => h) (Or.inl ⟨by kernel_rfl, ?_⟩) ⟨fun _ => hS, fun _ => hS2⟩ ?_
        rotate_left
        focus (intro w hSw; (try dsimp only at hSw); go_simp; with_reducible rfl)
        try simp only [Act.put, sb0, sb1, sb2]
        refine anyL_take1 (i := 3) (oi := ⟨some 8, Op.move (.tmp 7), 4, "written.go:15", #[⟨2, .data⟩, ⟨1, .chain⟩], none⟩) (u := ?_) rfl (by kernel_rfl) (fun _ _ _ h => h) (Or.inl ⟨by kernel_rfl, ?_⟩) ⟨fun _ => hS, fun _ => hS2⟩ ?_
        rotate_left
        focus (intro w hSw; (try dsimp only at hSw); go_simp; with_reducible rfl)
        try simp only [Act.put, sb0, sb1, sb2]
        refine anyL_take1 (i := 4) (oi := ⟨some 9, Op.fieldAddr 67 (.tmp 2) 0, 0, "written.go:15", #[⟨3, .guard⟩], some (3, true)⟩) (u := ?_) rfl (by kernel_rfl) (fun _ _ _ h => h) (Or.inl ⟨by kernel_rfl, ?_⟩) ⟨fun _ => hS, fun _ => hS2⟩ ?_
        rotate_left
        focus (intro w hSw; (try dsimp only at hSw); go_simp; with_reducible rfl)
        try simp only [Act.put, sb0, sb1, sb2]
        refine anyL_take1 (i := 5) (oi := ⟨some 10, Op.load 63 (.tmp 9), 63, "written.go:15", #[⟨4, .data⟩, ⟨3, .guard⟩], some (3, true)⟩) (u := ?_) rfl (by kernel_rfl) (fun _ _ _ h => h) (Or.inl ⟨by kernel_rfl, ?_⟩) ⟨fun _ => hS, fun _ => hS2⟩ ?_
        rotate_left
        focus (intro w hSw; (try dsimp only at hSw); go_simp; with_reducible rfl)
        try simp only [Act.put, sb0, sb1, sb2]
        refine anyL_one (i := 6) (o := ⟨some 11, Op.buildSlice 136 2 #[(0, .const (.int .u8 12)), (1, .const (.int .u8 13))], 136, "written.go:15", #[⟨3, .guard⟩], some (3, true)⟩) (by kernel_rfl) rfl (fun K hK => ?_)
        go_simp
        obtain ⟨w2, hww2⟩ : ∃ W, W = w1.alloc (.cells #[.int .u8 12, .int .u8 13] 22) := ⟨_, rfl⟩
        rw [← hww2]
        have hbw2 : Below w1.heap.size w1 w2 := by rw [hww2]; exact bl_alloc _ _
        have HUw2 : Hid (SlU w2 (some ⟨w1.heap.size, 0, none⟩) [12, 13]) := by show SlU _ _ _; rw [hww2]; exact slu_new _ _ _ _ rfl
        clear hww2
        have HBw2 := Lib.hid (HBw1.out.trans (hbw2.mono HBw1.out.size))
        have hSw2 : (fun (V : World) => V.cell? ⟨b0, 0, none⟩ = some (.slice p n c) ∧ V.cell? ⟨b0, 1, none⟩ = some (.slice pf n cf) ∧ V.cell? ⟨b0, 2, none⟩ = some (.slice pd n cd)) w2 := ⟨cell_below hS.1 hbw2, cell_below hS.2.1 hbw2, cell_below hS.2.2 hbw2⟩
        refine hK.out _ _ ⟨fun _ => hSw2, fun _ => hSw2⟩ ?_
        clear hK K hS hS2 hbw2
        have hS := hSw2
        have hS2 := hSw2
        clear hSw2
        try simp only [Act.put, sb0, sb1, sb2]
        refine anyL_one (i := 7) (o := ⟨some 12, Op.call { callee := Callee.value (.func 108), args := #[.tmp 10, .func 109, .tmp 11], argTypes := #[63, 141, 136] }, 4, "written.go:15", #[⟨5, .data⟩, ⟨6, .data⟩, ⟨3, .chain⟩, ⟨3, .guard⟩], some (3, true)⟩) (by kernel_rfl) rfl (fun K hK => ?_)
        go_simp
        refine (HAC.out w2 _ HBw2.out HUw2.out).mono ?_
        rintro e w3 ⟨rfl, hbw3⟩
        have HBw3 := Lib.hid (HBw2.out.trans (hbw3.mono HBw2.out.size))
        have hSw3 : (fun (V : World) => V.cell? ⟨b0, 0, none⟩ = some (.slice p n c) ∧ V.cell? ⟨b0, 1, none⟩ = some (.slice pf n cf) ∧ V.cell? ⟨b0, 2, none⟩ = some (.slice pd n cd)) w3 := ⟨cell_below hS.1 hbw3, cell_below hS.2.1 hbw3, cell_below hS.2.2 hbw3⟩
        refine hK.out _ _ ⟨fun _ => hSw3, fun _ => hSw3⟩ ?_
        clear hK K hS hS2 hbw3
        have hS := hSw3
        have hS2 := hSw3
        clear hSw3
        try simp only [Act.put, sb0, sb1, sb2]
        refine anyL_take1 (i := 8) (oi := ⟨some 13, Op.pick (.tmp 8) (.tmp 12) (.const (Value.bool false)), 4, "written.go:15", #[⟨3, .data⟩, ⟨7, .data⟩], none⟩) (u := ?_) rfl (by kernel_rfl) (fun _ _ _ h => h) (Or.inl ⟨by kernel_rfl, ?_⟩) ⟨fun _ => hS, fun _ => hS2⟩ ?_
        rotate_left
        focus (intro w hSw; (try dsimp only at hSw); go_simp; with_reducible rfl)
        try simp only [Act.put, sb0, sb1, sb2]
        refine anyL_take1 (i := 9) (oi := ⟨some 14, Op.move (.tmp 13), 4, "written.go:15", #[⟨8, .data⟩, ⟨7, .chain⟩], none⟩) (u := ?_) rfl (by kernel_rfl) (fun _ _ _ h => h) (Or.inl ⟨by kernel_rfl, ?_⟩) ⟨fun _ => hS, fun _ => hS2⟩ ?_
        rotate_left
        focus (intro w hSw; (try dsimp only at hSw); go_simp; with_reducible rfl)
        try simp only [Act.put, sb0, sb1, sb2]
        refine anyL_take1 (i := 10) (oi := ⟨some 15, Op.load 67 (.tmp 2), 67, "written.go:15", #[⟨9, .guard⟩], some (9, true)⟩) (u := ?_) rfl (by kernel_rfl) (fun _ _ _ h => h) (Or.inl ⟨by kernel_rfl, ?_⟩) ⟨fun _ => hS, fun _ => hS2⟩ ?_
        rotate_left
        focus (intro w hSw; (try dsimp only at hSw); go_simp; with_reducible rfl)
        try simp only [Act.put, sb0, sb1, sb2]
        refine anyL_take1 (i := 11) (oi := ⟨some 16, Op.move (.tmp 1), 3, "written.go:15", #[⟨9, .guard⟩], some (9, true)⟩) (u := ?_) rfl (by kernel_rfl) (fun _ _ _ h => h) (Or.inl ⟨by kernel_rfl, ?_⟩) ⟨fun _ => hS, fun _ => hS2⟩ ?_
        rotate_left
        focus (intro w hSw; (try dsimp only at hSw); go_simp; with_reducible rfl)
        try simp only [Act.put, sb0, sb1, sb2]
        refine anyL_one (i := 12) (o := ⟨some 17, Op.call ⟨.value (.func 110), #[.tmp 15, .tmp 16], #[67, 3]⟩, 4, "written.go:15", #[⟨10, .data⟩, ⟨11, .data⟩, ⟨9, .chain⟩, ⟨9, .guard⟩], some (9, true)⟩) (by kernel_rfl) rfl (fun K hK => ?_)
        go_simp
        refine (HCC.out w3 HBw3.out).mono ?_
        rintro e w4 ⟨rfl, hbw4⟩
        have HBw4 := Lib.hid (HBw3.out.trans (hbw4.mono HBw3.out.size))
        have hSw4 : (fun (V : World) => V.cell? ⟨b0, 0, none⟩ = some (.slice p n c) ∧ V.cell? ⟨b0, 1, none⟩ = some (.slice pf n cf) ∧ V.cell? ⟨b0, 2, none⟩ = some (.slice pd n cd)) w4 := ⟨cell_below hS.1 hbw4, cell_below hS.2.1 hbw4, cell_below hS.2.2 hbw4⟩
        refine hK.out _ _ ⟨fun _ => hSw4, fun _ => hSw4⟩ ?_
        clear hK K hS hS2 hbw4
        have hS := hSw4
        have hS2 := hSw4
        clear hSw4
        try simp only [Act.put, sb0, sb1, sb2]
        refine anyL_take1 (i := 13) (oi := ⟨some 18, Op.pick (.tmp 14) (.tmp 17) (.const (Value.bool false)), 4, "written.go:15", #[⟨9, .data⟩, ⟨12, .data⟩], none⟩) (u := ?_) rfl (by kernel_rfl) (fun _ _ _ h => h) (Or.inl ⟨by kernel_rfl, ?_⟩) ⟨fun _ => hS, fun _ => hS2⟩ ?_
        rotate_left
        focus (intro w hSw; (try dsimp only at hSw); go_simp; with_reducible rfl)
        try simp only [Act.put, sb0, sb1, sb2]
        refine anyL_take1 (i := 14) (oi := ⟨some 19, Op.move (.tmp 18), 4, "written.go:15", #[⟨13, .data⟩, ⟨12, .chain⟩], none⟩) (u := ?_) rfl (by kernel_rfl) (fun _ _ _ h => h) (Or.inl ⟨by kernel_rfl, ?_⟩) ⟨fun _ => hS, fun _ => hS2⟩ ?_
        rotate_left
        focus (intro w hSw; (try dsimp only at hSw); go_simp; with_reducible rfl)
        try simp only [Act.put, sb0, sb1, sb2]
        refine anyL_take1 (i := 15) (oi := ⟨some 20, Op.fieldAddr 67 (.tmp 2) 0, 0, "written.go:15", #[⟨14, .guard⟩], some (14, true)⟩) (u := undef) rfl (by kernel_rfl) (fun _ _ _ h => h) (Or.inr ⟨?_, rfl⟩) ⟨fun _ => ?_, fun _ => ?_⟩ ?_
        rotate_left 3
        try simp only [Act.put, sb0, sb1, sb2]
        rotate_left 1
        focus kernel_rfl
        focus exact hS
        focus exact hS2
        refine anyL_take1 (i := 16) (oi := ⟨some 21, Op.load 63 (.tmp 20), 63, "written.go:15", #[⟨15, .data⟩, ⟨14, .guard⟩], some (14, true)⟩) (u := undef) rfl (by kernel_rfl) (fun _ _ _ h => h) (Or.inr ⟨?_, rfl⟩) ⟨fun _ => ?_, fun _ => ?_⟩ ?_
        rotate_left 3
        try simp only [Act.put, sb0, sb1, sb2]
        rotate_left 1
        focus kernel_rfl
        focus exact hS
        focus exact hS2
        refine anyL_take1 (i := 17) (oi := ⟨some 22, Op.move (.tmp 1), 3, "written.go:15", #[⟨14, .guard⟩], some (14, true)⟩) (u := undef) rfl (by kernel_rfl) (fun _ _ _ h => h) (Or.inr ⟨?_, rfl⟩) ⟨fun _ => ?_, fun _ => ?_⟩ ?_
        rotate_left 3
        try simp only [Act.put, sb0, sb1, sb2]
        rotate_left 1
        focus kernel_rfl
        focus exact hS
        focus exact hS2
        refine anyL_take1 (i := 18) (oi := ⟨some 23, Op.call ⟨.value (.func 111), #[.tmp 22], #[3]⟩, 141, "written.go:15", #[⟨17, .data⟩, ⟨14, .chain⟩, ⟨14, .guard⟩], some (14, true)⟩) (u := undef) rfl (by kernel_rfl) (fun _ _ _ h => h) (Or.inr ⟨?_, rfl⟩) ⟨fun _ => ?_, fun _ => ?_⟩ ?_
        rotate_left 3
        try simp only [Act.put, sb0, sb1, sb2]
        rotate_left 1
        focus kernel_rfl
        focus exact hS
        focus exact hS2
        refine anyL_take1 (i := 19) (oi := ⟨some 24, Op.buildSlice 136 1 #[(0, .const (.int .u8 8))], 136, "written.go:15", #[⟨14, .guard⟩], some (14, true)⟩) (u := undef) rfl (by kernel_rfl) (fun _ _ _ h => h) (Or.inr ⟨?_, rfl⟩) ⟨fun _ => ?_, fun _ => ?_⟩ ?_
        rotate_left 3
        try simp only [Act.put, sb0, sb1, sb2]
        rotate_left 1
        focus kernel_rfl
        focus exact hS
        focus exact hS2
        refine anyL_take1 (i := 20) (oi := ⟨some 25, Op.call { callee := Callee.value (.func 108), args := #[.tmp 21, .tmp 23, .tmp 24], argTypes := #[63, 141, 136] }, 4, "written.go:15", #[⟨16, .data⟩, ⟨18, .data⟩, ⟨19, .data⟩, ⟨18, .chain⟩, ⟨14, .guard⟩], some (14, true)⟩) (u := undef) rfl (by kernel_rfl) (fun _ _ _ h => h) (Or.inr ⟨?_, rfl⟩) ⟨fun _ => ?_, fun _ => ?_⟩ ?_
        rotate_left 3
        try simp only [Act.put, sb0, sb1, sb2]
        rotate_left 1
        focus kernel_rfl
        focus exact hS
        focus exact hS2
        refine anyL_take1 (i := 21) (oi := ⟨some 26, Op.pick (.tmp 19) (.tmp 25) (.const (Value.bool false)), 4, "written.go:15", #[⟨14, .data⟩, ⟨20, .data⟩], none⟩) (u := ?_) rfl (by kernel_rfl) (fun _ _ _ h => h) (Or.inl ⟨by kernel_rfl, ?_⟩) ⟨fun _ => hS, fun _ => hS2⟩ ?_
        rotate_left
        focus (intro w hSw; (try dsimp only at hSw); go_simp; with_reducible rfl)
        try simp only [Act.put, sb0, sb1, sb2]
        refine anyL_one (i := 22) (o := ⟨some 4, Op.assign (.tmp 26), 4, "written.go:15", #[⟨21, .data⟩, ⟨20, .chain⟩, ⟨0, .phase⟩, ⟨1, .phase⟩, ⟨2, .phase⟩, ⟨3, .phase⟩, ⟨4, .phase⟩, ⟨5, .phase⟩, ⟨6, .phase⟩, ⟨7, .phase⟩, ⟨8, .phase⟩, ⟨9, .phase⟩, ⟨10, .phase⟩, ⟨11, .phase⟩, ⟨12, .phase⟩, ⟨13, .phase⟩, ⟨14, .phase⟩, ⟨15, .phase⟩, ⟨16, .phase⟩, ⟨17, .phase⟩, ⟨18, .phase⟩, ⟨19, .phase⟩, ⟨20, .phase⟩, ⟨21, .phase⟩], none⟩) (by kernel_rfl) rfl (fun K hK => ?_)
        go_simp
        refine hK.out _ _ ⟨fun h => absurd h (by decide), fun h => absurd h (by decide)⟩ ?_
        clear hK K hS hS2
        try simp only [Act.put, sb0, sb1, sb2]
        refine anyL_done (by kernel_rfl) (show onlyN _ .normal _ _ from ?_) _
        dsimp only [onlyN]
        go_wp2
        go_ret
        exact ⟨by rw [HF.out]; rfl, HBL.out.trans (HBw4.out.mono HBL.out.size)⟩
      | true =>
        cases ub with
        | false =>
          have HF : Hid (writtenB xs l nm = false) := HV.out
          clear hbl hT hL hfs hds hn h1 h4 hl hW0 hb0
          have hS0 := hS
          clear hS
          go_enter Tryz.func61, Tryz.ntmps61
          go_wp2
          rw [← HW0.out.2]
          refine wp_region_L (S := fun (V : World) => V.cell? ⟨b0, 0, none⟩ = some (.slice p n c) ∧ V.cell? ⟨b0, 1, none⟩ = some (.slice pf n cf) ∧ V.cell? ⟨b0, 2, none⟩ = some (.slice pd n cd)) (S2 := fun (V : World) => V.cell? ⟨b0, 0, none⟩ = some (.slice p n c) ∧ V.cell? ⟨b0, 1, none⟩ = some (.slice pf n cf) ∧ V.cell? ⟨b0, 2, none⟩ = some (.slice pd n cd)) 22 22 (by kernel_rfl) ?_
          rw [show (w.alloc (.cells #[.slice p n c, .slice pf n cf, .slice pd n cd] 67)).drew = W0 from HW0.out.1.symm]
          have hS := hS0
          have hS2 := hS0
          clear hS0
          refine anyL_take1 (i := 0) (oi := ⟨some 5, Op.load 67 (.tmp 2), 67, "written.go:15", #[], none⟩) (u := ?_) rfl (by kernel_rfl) (fun _ _ _ h => h) (Or.inl ⟨by kernel_rfl, ?_⟩) ⟨fun _ => hS, fun _ => hS2⟩ ?_
          rotate_left
          focus (intro w hSw; (try dsimp only at hSw); go_simp; with_reducible rfl)
          try simp only [Act.put, sb0, sb1, sb2]
          refine anyL_one (i := 1) (o := ⟨some 6, Op.call ⟨.value (.func 63), #[.tmp 5], #[67]⟩, 3, "written.go:15", #[⟨0, .data⟩], none⟩) (by kernel_rfl) rfl (fun K hK => ?_)
          go_simp
          refine (HDC.out W0 HBW0.out).mono ?_
          rintro e w1 ⟨rfl, hbw1⟩
          have HBw1 := Lib.hid (HBW0.out.trans (hbw1.mono HBW0.out.size))
          have hSw1 : (fun (V : World) => V.cell? ⟨b0, 0, none⟩ = some (.slice p n c) ∧ V.cell? ⟨b0, 1, none⟩ = some (.slice pf n cf) ∧ V.cell? ⟨b0, 2, none⟩ = some (.slice pd n cd)) w1 := ⟨cell_below hS.1 hbw1, cell_below hS.2.1 hbw1, cell_below hS.2.2 hbw1⟩
          refine hK.out _ _ ⟨fun _ => hSw1, fun _ => hSw1⟩ ?_
          clear hK K hS hS2 hbw1
          have hS := hSw1
          have hS2 := hSw1
          clear hSw1
          try simp only [Act.put, sb0, sb1, sb2]
          refine anyL_take1 (i := 2) (oi := ⟨some 7, Op.binOp BinOp.leq 3 (.tmp 6) (.const (.int .i64 60)) 3, 4, "written.go:15", #[⟨1, .data⟩], none⟩) (u := ?_) rfl (by kernel_rfl) (fun _ _ _ h => h) (Or.inl ⟨by kernel_rfl, ?_⟩) ⟨fun _ => hS, fun _ => hS2⟩ ?_
          rotate_left
          focus (intro w hSw; (try dsimp only at hSw); go_simp; with_reducible rfl)
          try simp only [Act.put, sb0, sb1, sb2]
          refine anyL_take1 (i := 3) (oi := ⟨some 8, Op.move (.tmp 7), 4, "written.go:15", #[⟨2, .data⟩, ⟨1, .chain⟩], none⟩) (u := ?_) rfl (by kernel_rfl) (fun _ _ _ h => h) (Or.inl ⟨by kernel_rfl, ?_⟩) ⟨fun _ => hS, fun _ => hS2⟩ ?_
          rotate_left
          focus (intro w hSw; (try dsimp only at hSw); go_simp; with_reducible rfl)
          try simp only [Act.put, sb0, sb1, sb2]
          refine anyL_take1 (i := 4) (oi := ⟨some 9, Op.fieldAddr 67 (.tmp 2) 0, 0, "written.go:15", #[⟨3, .guard⟩], some (3, true)⟩) (u := ?_) rfl (by kernel_rfl) (fun _ _ _ h => h) (Or.inl ⟨by kernel_rfl, ?_⟩) ⟨fun _ => hS, fun _ => hS2⟩ ?_
          rotate_left
          focus (intro w hSw; (try dsimp only at hSw); go_simp; with_reducible rfl)
          try simp only [Act.put, sb0, sb1, sb2]
          refine anyL_take1 (i := 5) (oi := ⟨some 10, Op.load 63 (.tmp 9), 63, "written.go:15", #[⟨4, .data⟩, ⟨3, .guard⟩], some (3, true)⟩) (u := ?_) rfl (by kernel_rfl) (fun _ _ _ h => h) (Or.inl ⟨by kernel_rfl, ?_⟩) ⟨fun _ => hS, fun _ => hS2⟩ ?_
          rotate_left
          focus (intro w hSw; (try dsimp only at hSw); go_simp; with_reducible rfl)
          try simp only [Act.put, sb0, sb1, sb2]
          refine anyL_one (i := 6) (o := ⟨some 11, Op.buildSlice 136 2 #[(0, .const (.int .u8 12)), (1, .const (.int .u8 13))], 136, "written.go:15", #[⟨3, .guard⟩], some (3, true)⟩) (by kernel_rfl) rfl (fun K hK => ?_)
          go_simp
          obtain ⟨w2, hww2⟩ : ∃ W, W = w1.alloc (.cells #[.int .u8 12, .int .u8 13] 22) := ⟨_, rfl⟩
          rw [← hww2]
          have hbw2 : Below w1.heap.size w1 w2 := by rw [hww2]; exact bl_alloc _ _
          have HUw2 : Hid (SlU w2 (some ⟨w1.heap.size, 0, none⟩) [12, 13]) := by show SlU _ _ _; rw [hww2]; exact slu_new _ _ _ _ rfl
          clear hww2
          have HBw2 := Lib.hid (HBw1.out.trans (hbw2.mono HBw1.out.size))
          have hSw2 : (fun (V : World) => V.cell? ⟨b0, 0, none⟩ = some (.slice p n c) ∧ V.cell? ⟨b0, 1, none⟩ = some (.slice pf n cf) ∧ V.cell? ⟨b0, 2, none⟩ = some (.slice pd n cd)) w2 := ⟨cell_below hS.1 hbw2, cell_below hS.2.1 hbw2, cell_below hS.2.2 hbw2⟩
          refine hK.out _ _ ⟨fun _ => hSw2, fun _ => hSw2⟩ ?_
          clear hK K hS hS2 hbw2
          have hS := hSw2
          have hS2 := hSw2
          clear hSw2
          try simp only [Act.put, sb0, sb1, sb2]
          refine anyL_one (i := 7) (o := ⟨some 12, Op.call { callee := Callee.value (.func 108), args := #[.tmp 10, .func 109, .tmp 11], argTypes := #[63, 141, 136] }, 4, "written.go:15", #[⟨5, .data⟩, ⟨6, .data⟩, ⟨3, .chain⟩, ⟨3, .guard⟩], some (3, true)⟩) (by kernel_rfl) rfl (fun K hK => ?_)
          go_simp
          refine (HAC.out w2 _ HBw2.out HUw2.out).mono ?_
          rintro e w3 ⟨rfl, hbw3⟩
          have HBw3 := Lib.hid (HBw2.out.trans (hbw3.mono HBw2.out.size))
          have hSw3 : (fun (V : World) => V.cell? ⟨b0, 0, none⟩ = some (.slice p n c) ∧ V.cell? ⟨b0, 1, none⟩ = some (.slice pf n cf) ∧ V.cell? ⟨b0, 2, none⟩ = some (.slice pd n cd)) w3 := ⟨cell_below hS.1 hbw3, cell_below hS.2.1 hbw3, cell_below hS.2.2 hbw3⟩
          refine hK.out _ _ ⟨fun _ => hSw3, fun _ => hSw3⟩ ?_
          clear hK K hS hS2 hbw3
          have hS := hSw3
          have hS2 := hSw3
          clear hSw3
          try simp only [Act.put, sb0, sb1, sb2]
          refine anyL_take1 (i := 8) (oi := ⟨some 13, Op.pick (.tmp 8) (.tmp 12) (.const (Value.bool false)), 4, "written.go:15", #[⟨3, .data⟩, ⟨7, .data⟩], none⟩) (u := ?_) rfl (by kernel_rfl) (fun _ _ _ h => h) (Or.inl ⟨by kernel_rfl, ?_⟩) ⟨fun _ => hS, fun _ => hS2⟩ ?_
          rotate_left
          focus (intro w hSw; (try dsimp only at hSw); go_simp; with_reducible rfl)
          try simp only [Act.put, sb0, sb1, sb2]
          refine anyL_take1 (i := 9) (oi := ⟨some 14, Op.move (.tmp 13), 4, "written.go:15", #[⟨8, .data⟩, ⟨7, .chain⟩], none⟩) (u := ?_) rfl (by kernel_rfl) (fun _ _ _ h => h) (Or.inl ⟨by kernel_rfl, ?_⟩) ⟨fun _ => hS, fun _ => hS2⟩ ?_
          rotate_left
          focus (intro w hSw; (try dsimp only at hSw); go_simp; with_reducible rfl)
          try simp only [Act.put, sb0, sb1, sb2]
          refine anyL_take1 (i := 10) (oi := ⟨some 15, Op.load 67 (.tmp 2), 67, "written.go:15", #[⟨9, .guard⟩], some (9, true)⟩) (u := ?_) rfl (by kernel_rfl) (fun _ _ _ h => h) (Or.inl ⟨by kernel_rfl, ?_⟩) ⟨fun _ => hS, fun _ => hS2⟩ ?_
          rotate_left
          focus (intro w hSw; (try dsimp only at hSw); go_simp; with_reducible rfl)
          try simp only [Act.put, sb0, sb1, sb2]
          refine anyL_take1 (i := 11) (oi := ⟨some 16, Op.move (.tmp 1), 3, "written.go:15", #[⟨9, .guard⟩], some (9, true)⟩) (u := ?_) rfl (by kernel_rfl) (fun _ _ _ h => h) (Or.inl ⟨by kernel_rfl, ?_⟩) ⟨fun _ => hS, fun _ => hS2⟩ ?_
          rotate_left
          focus (intro w hSw; (try dsimp only at hSw); go_simp; with_reducible rfl)
          try simp only [Act.put, sb0, sb1, sb2]
          refine anyL_one (i := 12) (o := ⟨some 17, Op.call ⟨.value (.func 110), #[.tmp 15, .tmp 16], #[67, 3]⟩, 4, "written.go:15", #[⟨10, .data⟩, ⟨11, .data⟩, ⟨9, .chain⟩, ⟨9, .guard⟩], some (9, true)⟩) (by kernel_rfl) rfl (fun K hK => ?_)
          go_simp
          refine (HCC.out w3 HBw3.out).mono ?_
          rintro e w4 ⟨rfl, hbw4⟩
          have HBw4 := Lib.hid (HBw3.out.trans (hbw4.mono HBw3.out.size))
          have hSw4 : (fun (V : World) => V.cell? ⟨b0, 0, none⟩ = some (.slice p n c) ∧ V.cell? ⟨b0, 1, none⟩ = some (.slice pf n cf) ∧ V.cell? ⟨b0, 2, none⟩ = some (.slice pd n cd)) w4 := ⟨cell_below hS.1 hbw4, cell_below hS.2.1 hbw4, cell_below hS.2.2 hbw4⟩
          refine hK.out _ _ ⟨fun _ => hSw4, fun _ => hSw4⟩ ?_
          clear hK K hS hS2 hbw4
          have hS := hSw4
          have hS2 := hSw4
          clear hSw4
          try simp only [Act.put, sb0, sb1, sb2]
          refine anyL_take1 (i := 13) (oi := ⟨some 18, Op.pick (.tmp 14) (.tmp 17) (.const (Value.bool false)), 4, "written.go:15", #[⟨9, .data⟩, ⟨12, .data⟩], none⟩) (u := ?_) rfl (by kernel_rfl) (fun _ _ _ h => h) (Or.inl ⟨by kernel_rfl, ?_⟩) ⟨fun _ => hS, fun _ => hS2⟩ ?_
          rotate_left
          focus (intro w hSw; (try dsimp only at hSw); go_simp; with_reducible rfl)
          try simp only [Act.put, sb0, sb1, sb2]
          refine anyL_take1 (i := 14) (oi := ⟨some 19, Op.move (.tmp 18), 4, "written.go:15", #[⟨13, .data⟩, ⟨12, .chain⟩], none⟩) (u := ?_) rfl (by kernel_rfl) (fun _ _ _ h => h) (Or.inl ⟨by kernel_rfl, ?_⟩) ⟨fun _ => hS, fun _ => hS2⟩ ?_
          rotate_left
          focus (intro w hSw; (try dsimp only at hSw); go_simp; with_reducible rfl)
          try simp only [Act.put, sb0, sb1, sb2]
          refine anyL_take1 (i := 15) (oi := ⟨some 20, Op.fieldAddr 67 (.tmp 2) 0, 0, "written.go:15", #[⟨14, .guard⟩], some (14, true)⟩) (u := ?_) rfl (by kernel_rfl) (fun _ _ _ h => h) (Or.inl ⟨by kernel_rfl, ?_⟩) ⟨fun _ => hS, fun _ => hS2⟩ ?_
          rotate_left
          focus (intro w hSw; (try dsimp only at hSw); go_simp; with_reducible rfl)
          try simp only [Act.put, sb0, sb1, sb2]
          refine anyL_take1 (i := 16) (oi := ⟨some 21, Op.load 63 (.tmp 20), 63, "written.go:15", #[⟨15, .data⟩, ⟨14, .guard⟩], some (14, true)⟩) (u := ?_) rfl (by kernel_rfl) (fun _ _ _ h => h) (Or.inl ⟨by kernel_rfl, ?_⟩) ⟨fun _ => hS, fun _ => hS2⟩ ?_
          rotate_left
          focus (intro w hSw; (try dsimp only at hSw); go_simp; with_reducible rfl)
          try simp only [Act.put, sb0, sb1, sb2]
          refine anyL_take1 (i := 17) (oi := ⟨some 22, Op.move (.tmp 1), 3, "written.go:15", #[⟨14, .guard⟩], some (14, true)⟩) (u := ?_) rfl (by kernel_rfl) (fun _ _ _ h => h) (Or.inl ⟨by kernel_rfl, ?_⟩) ⟨fun _ => hS, fun _ => hS2⟩ ?_
          rotate_left
          focus (intro w hSw; (try dsimp only at hSw); go_simp; with_reducible rfl)
          try simp only [Act.put, sb0, sb1, sb2]
          refine anyL_two (i := 18) (k := 19) (o := ⟨some 23, Op.call ⟨.value (.func 111), #[.tmp 22], #[3]⟩, 141, "written.go:15", #[⟨17, .data⟩, ⟨14, .chain⟩, ⟨14, .guard⟩], some (14, true)⟩) (o' := ⟨some 24, Op.buildSlice 136 1 #[(0, .const (.int .u8 8))], 136, "written.go:15", #[⟨14, .guard⟩], some (14, true)⟩) (by kernel_rfl) rfl rfl (fun K hK => ?_) (fun K hK => ?_)
          · skip
            go_simp
            refine (upTo_any nm w4).mono ?_
            rintro e w5 ⟨rfl, hww5⟩
            have hbw5 : Below w4.heap.size w4 w5 := by rw [hww5]; exact bl_alloc _ _
            have HGw5 : Hid (Bx w5 w4.heap.size 3 #[.int .i64 (nm : Nat)]) := by show Bx _ _ _ _; rw [hww5]; exact Bx.new _ _ _
            clear hww5
            have HBw5 := Lib.hid (HBw4.out.trans (hbw5.mono HBw4.out.size))
            have hSw5 : (fun (V : World) => V.cell? ⟨b0, 0, none⟩ = some (.slice p n c) ∧ V.cell? ⟨b0, 1, none⟩ = some (.slice pf n cf) ∧ V.cell? ⟨b0, 2, none⟩ = some (.slice pd n cd)) w5 := ⟨cell_below hS.1 hbw5, cell_below hS.2.1 hbw5, cell_below hS.2.2 hbw5⟩
            refine hK.out _ _ ⟨fun _ => hSw5, fun _ => hSw5⟩ ?_
            clear hK K hS hS2 hbw5
            have hS := hSw5
            have hS2 := hSw5
            clear hSw5
            try simp only [Act.put, sb0, sb1, sb2]
            refine anyL_one (i := 19) (o := ⟨some 24, Op.buildSlice 136 1 #[(0, .const (.int .u8 8))], 136, "written.go:15", #[⟨14, .guard⟩], some (14, true)⟩) (by kernel_rfl) rfl (fun K hK => ?_)
            go_simp
            obtain ⟨w6, hww6⟩ : ∃ W, W = w5.alloc (.cells #[.int .u8 8] 22) := ⟨_, rfl⟩
            rw [← hww6]
            have hbw6 : Below w5.heap.size w5 w6 := by rw [hww6]; exact bl_alloc _ _
            have HUw6 : Hid (SlU w6 (some ⟨w5.heap.size, 0, none⟩) [8]) := by show SlU _ _ _; rw [hww6]; exact slu_new _ _ _ _ rfl
            have HBX := Lib.hid hbw6
            clear hww6
            have HBw6 := Lib.hid (HBw5.out.trans (hbw6.mono HBw5.out.size))
            have hSw6 : (fun (V : World) => V.cell? ⟨b0, 0, none⟩ = some (.slice p n c) ∧ V.cell? ⟨b0, 1, none⟩ = some (.slice pf n cf) ∧ V.cell? ⟨b0, 2, none⟩ = some (.slice pd n cd)) w6 := ⟨cell_below hS.1 hbw6, cell_below hS.2.1 hbw6, cell_below hS.2.2 hbw6⟩
            refine hK.out _ _ ⟨fun _ => hSw6, fun _ => hSw6⟩ ?_
            clear hK K hS hS2 hbw6
            have hS := hSw6
            have hS2 := hSw6
            clear hSw6
            try simp only [Act.put, sb0, sb1, sb2]
            refine anyL_one (i := 20) (o := ⟨some 25, Op.call { callee := Callee.value (.func 108), args := #[.tmp 21, .tmp 23, .tmp 24], argTypes := #[63, 141, 136] }, 4, "written.go:15", #[⟨16, .data⟩, ⟨18, .data⟩, ⟨19, .data⟩, ⟨18, .chain⟩, ⟨14, .guard⟩], some (14, true)⟩) (by kernel_rfl) rfl (fun K hK => ?_)
            go_simp
            refine (HUC.out w6 _ _ HBw6.out HUw6.out (HGw5.out.below (by have := HBw6.out; exact HBX.out))).mono ?_
            rintro e w7 ⟨rfl, hbw7⟩
            have HBw7 := Lib.hid (HBw6.out.trans (hbw7.mono HBw6.out.size))
            have hSw7 : (fun (V : World) => V.cell? ⟨b0, 0, none⟩ = some (.slice p n c) ∧ V.cell? ⟨b0, 1, none⟩ = some (.slice pf n cf) ∧ V.cell? ⟨b0, 2, none⟩ = some (.slice pd n cd)) w7 := ⟨cell_below hS.1 hbw7, cell_below hS.2.1 hbw7, cell_below hS.2.2 hbw7⟩
            refine hK.out _ _ ⟨fun _ => hSw7, fun _ => hSw7⟩ ?_
            clear hK K hS hS2 hbw7
            have hS := hSw7
            have hS2 := hSw7
            clear hSw7
            try simp only [Act.put, sb0, sb1, sb2]
            refine anyL_take1 (i := 21) (oi := ⟨some 26, Op.pick (.tmp 19) (.tmp 25) (.const (Value.bool false)), 4, "written.go:15", #[⟨14, .data⟩, ⟨20, .data⟩], none⟩) (u := ?_) rfl (by kernel_rfl) (fun _ _ _ h => h) (Or.inl ⟨by kernel_rfl, ?_⟩) ⟨fun _ => hS, fun _ => hS2⟩ ?_
            rotate_left
            focus (intro w hSw; (try dsimp only at hSw); go_simp; with_reducible rfl)
            try simp only [Act.put, sb0, sb1, sb2]
            refine anyL_one (i := 22) (o := ⟨some 4, Op.assign (.tmp 26), 4, "written.go:15", #[⟨21, .data⟩, ⟨20, .chain⟩, ⟨0, .phase⟩, ⟨1, .phase⟩, ⟨2, .phase⟩, ⟨3, .phase⟩, ⟨4, .phase⟩, ⟨5, .phase⟩, ⟨6, .phase⟩, ⟨7, .phase⟩, ⟨8, .phase⟩, ⟨9, .phase⟩, ⟨10, .phase⟩, ⟨11, .phase⟩, ⟨12, .phase⟩, ⟨13, .phase⟩, ⟨14, .phase⟩, ⟨15, .phase⟩, ⟨16, .phase⟩, ⟨17, .phase⟩, ⟨18, .phase⟩, ⟨19, .phase⟩, ⟨20, .phase⟩, ⟨21, .phase⟩], none⟩) (by kernel_rfl) rfl (fun K hK => ?_)
            go_simp
            refine hK.out _ _ ⟨fun h => absurd h (by decide), fun h => absurd h (by decide)⟩ ?_
            clear hK K hS hS2
            try simp only [Act.put, sb0, sb1, sb2]
            refine anyL_done (by kernel_rfl) (show onlyN _ .normal _ _ from ?_) _
            dsimp only [onlyN]
            go_wp2
            go_ret
            exact ⟨by rw [HF.out]; rfl, HBL.out.trans (HBw7.out.mono HBL.out.size)⟩
          · skip
            go_simp
            obtain ⟨w5, hww5⟩ : ∃ W, W = w4.alloc (.cells #[.int .u8 8] 22) := ⟨_, rfl⟩
            rw [← hww5]
            have hbw5 : Below w4.heap.size w4 w5 := by rw [hww5]; exact bl_alloc _ _
            have HUw5 : Hid (SlU w5 (some ⟨w4.heap.size, 0, none⟩) [8]) := by show SlU _ _ _; rw [hww5]; exact slu_new _ _ _ _ rfl
            clear hww5
            have HBw5 := Lib.hid (HBw4.out.trans (hbw5.mono HBw4.out.size))
            have hSw5 : (fun (V : World) => V.cell? ⟨b0, 0, none⟩ = some (.slice p n c) ∧ V.cell? ⟨b0, 1, none⟩ = some (.slice pf n cf) ∧ V.cell? ⟨b0, 2, none⟩ = some (.slice pd n cd)) w5 := ⟨cell_below hS.1 hbw5, cell_below hS.2.1 hbw5, cell_below hS.2.2 hbw5⟩
            refine hK.out _ _ ⟨fun _ => hSw5, fun _ => hSw5⟩ ?_
            clear hK K hS hS2 hbw5
            have hS := hSw5
            have hS2 := hSw5
            clear hSw5
            try simp only [Act.put, sb0, sb1, sb2]
            refine anyL_one (i := 18) (o := ⟨some 23, Op.call ⟨.value (.func 111), #[.tmp 22], #[3]⟩, 141, "written.go:15", #[⟨17, .data⟩, ⟨14, .chain⟩, ⟨14, .guard⟩], some (14, true)⟩) (by kernel_rfl) rfl (fun K hK => ?_)
            go_simp
            refine (upTo_any nm w5).mono ?_
            rintro e w6 ⟨rfl, hww6⟩
            have hbw6 : Below w5.heap.size w5 w6 := by rw [hww6]; exact bl_alloc _ _
            have HGw6 : Hid (Bx w6 w5.heap.size 3 #[.int .i64 (nm : Nat)]) := by show Bx _ _ _ _; rw [hww6]; exact Bx.new _ _ _
            have HBX := Lib.hid hbw6
            clear hww6
            have HBw6 := Lib.hid (HBw5.out.trans (hbw6.mono HBw5.out.size))
            have hSw6 : (fun (V : World) => V.cell? ⟨b0, 0, none⟩ = some (.slice p n c) ∧ V.cell? ⟨b0, 1, none⟩ = some (.slice pf n cf) ∧ V.cell? ⟨b0, 2, none⟩ = some (.slice pd n cd)) w6 := ⟨cell_below hS.1 hbw6, cell_below hS.2.1 hbw6, cell_below hS.2.2 hbw6⟩
            refine hK.out _ _ ⟨fun _ => hSw6, fun _ => hSw6⟩ ?_
            clear hK K hS hS2 hbw6
            have hS := hSw6
            have hS2 := hSw6
            clear hSw6
            try simp only [Act.put, sb0, sb1, sb2]
            refine anyL_one (i := 20) (o := ⟨some 25, Op.call { callee := Callee.value (.func 108), args := #[.tmp 21, .tmp 23, .tmp 24], argTypes := #[63, 141, 136] }, 4, "written.go:15", #[⟨16, .data⟩, ⟨18, .data⟩, ⟨19, .data⟩, ⟨18, .chain⟩, ⟨14, .guard⟩], some (14, true)⟩) (by kernel_rfl) rfl (fun K hK => ?_)
            go_simp
            refine (HUC.out w6 _ _ HBw6.out (HUw5.out.below HBX.out) HGw6.out).mono ?_
            rintro e w7 ⟨rfl, hbw7⟩
            have HBw7 := Lib.hid (HBw6.out.trans (hbw7.mono HBw6.out.size))
            have hSw7 : (fun (V : World) => V.cell? ⟨b0, 0, none⟩ = some (.slice p n c) ∧ V.cell? ⟨b0, 1, none⟩ = some (.slice pf n cf) ∧ V.cell? ⟨b0, 2, none⟩ = some (.slice pd n cd)) w7 := ⟨cell_below hS.1 hbw7, cell_below hS.2.1 hbw7, cell_below hS.2.2 hbw7⟩
            refine hK.out _ _ ⟨fun _ => hSw7, fun _ => hSw7⟩ ?_
            clear hK K hS hS2 hbw7
            have hS := hSw7
            have hS2 := hSw7
            clear hSw7
            try simp only [Act.put, sb0, sb1, sb2]
            refine anyL_take1 (i := 21) (oi := ⟨some 26, Op.pick (.tmp 19) (.tmp 25) (.const (Value.bool false)), 4, "written.go:15", #[⟨14, .data⟩, ⟨20, .data⟩], none⟩) (u := ?_) rfl (by kernel_rfl) (fun _ _ _ h => h) (Or.inl ⟨by kernel_rfl, ?_⟩) ⟨fun _ => hS, fun _ => hS2⟩ ?_
            rotate_left
            focus (intro w hSw; (try dsimp only at hSw); go_simp; with_reducible rfl)
            try simp only [Act.put, sb0, sb1, sb2]
            refine anyL_one (i := 22) (o := ⟨some 4, Op.assign (.tmp 26), 4, "written.go:15", #[⟨21, .data⟩, ⟨20, .chain⟩, ⟨0, .phase⟩, ⟨1, .phase⟩, ⟨2, .phase⟩, ⟨3, .phase⟩, ⟨4, .phase⟩, ⟨5, .phase⟩, ⟨6, .phase⟩, ⟨7, .phase⟩, ⟨8, .phase⟩, ⟨9, .phase⟩, ⟨10, .phase⟩, ⟨11, .phase⟩, ⟨12, .phase⟩, ⟨13, .phase⟩, ⟨14, .phase⟩, ⟨15, .phase⟩, ⟨16, .phase⟩, ⟨17, .phase⟩, ⟨18, .phase⟩, ⟨19, .phase⟩, ⟨20, .phase⟩, ⟨21, .phase⟩], none⟩) (by kernel_rfl) rfl (fun K hK => ?_)
            go_simp
            refine hK.out _ _ ⟨fun h => absurd h (by decide), fun h => absurd h (by decide)⟩ ?_
            clear hK K hS hS2
            try simp only [Act.put, sb0, sb1, sb2]
            refine anyL_done (by kernel_rfl) (show onlyN _ .normal _ _ from ?_) _
            dsimp only [onlyN]
            go_wp2
            go_ret
            exact ⟨by rw [HF.out]; rfl, HBL.out.trans (HBw7.out.mono HBL.out.size)⟩
        | true =>
          have HF : Hid (writtenB xs l nm = true) := HV.out
          clear hbl hT hL hfs hds hn h1 h4 hl hW0 hb0
          have hS0 := hS
          clear hS
          go_enter Tryz.func61, Tryz.ntmps61
          go_wp2
          rw [← HW0.out.2]
          refine wp_region_L (S := fun (V : World) => V.cell? ⟨b0, 0, none⟩ = some (.slice p n c) ∧ V.cell? ⟨b0, 1, none⟩ = some (.slice pf n cf) ∧ V.cell? ⟨b0, 2, none⟩ = some (.slice pd n cd)) (S2 := fun (V : World) => V.cell? ⟨b0, 0, none⟩ = some (.slice p n c) ∧ V.cell? ⟨b0, 1, none⟩ = some (.slice pf n cf) ∧ V.cell? ⟨b0, 2, none⟩ = some (.slice pd n cd)) 22 22 (by kernel_rfl) ?_
          rw [show (w.alloc (.cells #[.slice p n c, .slice pf n cf, .slice pd n cd] 67)).drew = W0 from HW0.out.1.symm]
          have hS := hS0
          have hS2 := hS0
          clear hS0
          refine anyL_take1 (i := 0) (oi := ⟨some 5, Op.load 67 (.tmp 2), 67, "written.go:15", #[], none⟩) (u := ?_) rfl (by kernel_rfl) (fun _ _ _ h => h) (Or.inl ⟨by kernel_rfl, ?_⟩) ⟨fun _ => hS, fun _ => hS2⟩ ?_
          rotate_left
          focus (intro w hSw; (try dsimp only at hSw); go_simp; with_reducible rfl)
          try simp only [Act.put, sb0, sb1, sb2]
          refine anyL_one (i := 1) (o := ⟨some 6, Op.call ⟨.value (.func 63), #[.tmp 5], #[67]⟩, 3, "written.go:15", #[⟨0, .data⟩], none⟩) (by kernel_rfl) rfl (fun K hK => ?_)
          go_simp
          refine (HDC.out W0 HBW0.out).mono ?_
          rintro e w1 ⟨rfl, hbw1⟩
          have HBw1 := Lib.hid (HBW0.out.trans (hbw1.mono HBW0.out.size))
          have hSw1 : (fun (V : World) => V.cell? ⟨b0, 0, none⟩ = some (.slice p n c) ∧ V.cell? ⟨b0, 1, none⟩ = some (.slice pf n cf) ∧ V.cell? ⟨b0, 2, none⟩ = some (.slice pd n cd)) w1 := ⟨cell_below hS.1 hbw1, cell_below hS.2.1 hbw1, cell_below hS.2.2 hbw1⟩
          refine hK.out _ _ ⟨fun _ => hSw1, fun _ => hSw1⟩ ?_
          clear hK K hS hS2 hbw1
          have hS := hSw1
          have hS2 := hSw1
          clear hSw1
          try simp only [Act.put, sb0, sb1, sb2]
          refine anyL_take1 (i := 2) (oi := ⟨some 7, Op.binOp BinOp.leq 3 (.tmp 6) (.const (.int .i64 60)) 3, 4, "written.go:15", #[⟨1, .data⟩], none⟩) (u := ?_) rfl (by kernel_rfl) (fun _ _ _ h => h) (Or.inl ⟨by kernel_rfl, ?_⟩) ⟨fun _ => hS, fun _ => hS2⟩ ?_
          rotate_left
          focus (intro w hSw; (try dsimp only at hSw); go_simp; with_reducible rfl)
          try simp only [Act.put, sb0, sb1, sb2]
          refine anyL_take1 (i := 3) (oi := ⟨some 8, Op.move (.tmp 7), 4, "written.go:15", #[⟨2, .data⟩, ⟨1, .chain⟩], none⟩) (u := ?_) rfl (by kernel_rfl) (fun _ _ _ h => h) (Or.inl ⟨by kernel_rfl, ?_⟩) ⟨fun _ => hS, fun _ => hS2⟩ ?_
          rotate_left
          focus (intro w hSw; (try dsimp only at hSw); go_simp; with_reducible rfl)
          try simp only [Act.put, sb0, sb1, sb2]
          refine anyL_take1 (i := 4) (oi := ⟨some 9, Op.fieldAddr 67 (.tmp 2) 0, 0, "written.go:15", #[⟨3, .guard⟩], some (3, true)⟩) (u := ?_) rfl (by kernel_rfl) (fun _ _ _ h => h) (Or.inl ⟨by kernel_rfl, ?_⟩) ⟨fun _ => hS, fun _ => hS2⟩ ?_
          rotate_left
          focus (intro w hSw; (try dsimp only at hSw); go_simp; with_reducible rfl)
          try simp only [Act.put, sb0, sb1, sb2]
          refine anyL_take1 (i := 5) (oi := ⟨some 10, Op.load 63 (.tmp 9), 63, "written.go:15", #[⟨4, .data⟩, ⟨3, .guard⟩], some (3, true)⟩) (u := ?_) rfl (by kernel_rfl) (fun _ _ _ h => h) (Or.inl ⟨by kernel_rfl, ?_⟩) ⟨fun _ => hS, fun _ => hS2⟩ ?_
          rotate_left
          focus (intro w hSw; (try dsimp only at hSw); go_simp; with_reducible rfl)
          try simp only [Act.put, sb0, sb1, sb2]
          refine anyL_one (i := 6) (o := ⟨some 11, Op.buildSlice 136 2 #[(0, .const (.int .u8 12)), (1, .const (.int .u8 13))], 136, "written.go:15", #[⟨3, .guard⟩], some (3, true)⟩) (by kernel_rfl) rfl (fun K hK => ?_)
          go_simp
          obtain ⟨w2, hww2⟩ : ∃ W, W = w1.alloc (.cells #[.int .u8 12, .int .u8 13] 22) := ⟨_, rfl⟩
          rw [← hww2]
          have hbw2 : Below w1.heap.size w1 w2 := by rw [hww2]; exact bl_alloc _ _
          have HUw2 : Hid (SlU w2 (some ⟨w1.heap.size, 0, none⟩) [12, 13]) := by show SlU _ _ _; rw [hww2]; exact slu_new _ _ _ _ rfl
          clear hww2
          have HBw2 := Lib.hid (HBw1.out.trans (hbw2.mono HBw1.out.size))
          have hSw2 : (fun (V : World) => V.cell? ⟨b0, 0, none⟩ = some (.slice p n c) ∧ V.cell? ⟨b0, 1, none⟩ = some (.slice pf n cf) ∧ V.cell? ⟨b0, 2, none⟩ = some (.slice pd n cd)) w2 := ⟨cell_below hS.1 hbw2, cell_below hS.2.1 hbw2, cell_below hS.2.2 hbw2⟩
          refine hK.out _ _ ⟨fun _ => hSw2, fun _ => hSw2⟩ ?_
          clear hK K hS hS2 hbw2
          have hS := hSw2
          have hS2 := hSw2
          clear hSw2
          try simp only [Act.put, sb0, sb1, sb2]
          refine anyL_one (i := 7) (o := ⟨some 12, Op.call { callee := Callee.value (.func 108), args := #[.tmp 10, .func 109, .tmp 11], argTypes := #[63, 141, 136] }, 4, "written.go:15", #[⟨5, .data⟩, ⟨6, .data⟩, ⟨3, .chain⟩, ⟨3, .guard⟩], some (3, true)⟩) (by kernel_rfl) rfl (fun K hK => ?_)
          go_simp
          refine (HAC.out w2 _ HBw2.out HUw2.out).mono ?_
          rintro e w3 ⟨rfl, hbw3⟩
          have HBw3 := Lib.hid (HBw2.out.trans (hbw3.mono HBw2.out.size))
          have hSw3 : (fun (V : World) => V.cell? ⟨b0, 0, none⟩ = some (.slice p n c) ∧ V.cell? ⟨b0, 1, none⟩ = some (.slice pf n cf) ∧ V.cell? ⟨b0, 2, none⟩ = some (.slice pd n cd)) w3 := ⟨cell_below hS.1 hbw3, cell_below hS.2.1 hbw3, cell_below hS.2.2 hbw3⟩
          refine hK.out _ _ ⟨fun _ => hSw3, fun _ => hSw3⟩ ?_
          clear hK K hS hS2 hbw3
          have hS := hSw3
          have hS2 := hSw3
          clear hSw3
          try simp only [Act.put, sb0, sb1, sb2]
          refine anyL_take1 (i := 8) (oi := ⟨some 13, Op.pick (.tmp 8) (.tmp 12) (.const (Value.bool false)), 4, "written.go:15", #[⟨3, .data⟩, ⟨7, .data⟩], none⟩) (u := ?_) rfl (by kernel_rfl) (fun _ _ _ h => h) (Or.inl ⟨by kernel_rfl, ?_⟩) ⟨fun _ => hS, fun _ => hS2⟩ ?_
          rotate_left
          focus (intro w hSw; (try dsimp only at hSw); go_simp; with_reducible rfl)
          try simp only [Act.put, sb0, sb1, sb2]
          refine anyL_take1 (i := 9) (oi := ⟨some 14, Op.move (.tmp 13), 4, "written.go:15", #[⟨8, .data⟩, ⟨7, .chain⟩], none⟩) (u := ?_) rfl (by kernel_rfl) (fun _ _ _ h => h) (Or.inl ⟨by kernel_rfl, ?_⟩) ⟨fun _ => hS, fun _ => hS2⟩ ?_
          rotate_left
          focus (intro w hSw; (try dsimp only at hSw); go_simp; with_reducible rfl)
          try simp only [Act.put, sb0, sb1, sb2]
          refine anyL_take1 (i := 10) (oi := ⟨some 15, Op.load 67 (.tmp 2), 67, "written.go:15", #[⟨9, .guard⟩], some (9, true)⟩) (u := ?_) rfl (by kernel_rfl) (fun _ _ _ h => h) (Or.inl ⟨by kernel_rfl, ?_⟩) ⟨fun _ => hS, fun _ => hS2⟩ ?_
          rotate_left
          focus (intro w hSw; (try dsimp only at hSw); go_simp; with_reducible rfl)
          try simp only [Act.put, sb0, sb1, sb2]
          refine anyL_take1 (i := 11) (oi := ⟨some 16, Op.move (.tmp 1), 3, "written.go:15", #[⟨9, .guard⟩], some (9, true)⟩) (u := ?_) rfl (by kernel_rfl) (fun _ _ _ h => h) (Or.inl ⟨by kernel_rfl, ?_⟩) ⟨fun _ => hS, fun _ => hS2⟩ ?_
          rotate_left
          focus (intro w hSw; (try dsimp only at hSw); go_simp; with_reducible rfl)
          try simp only [Act.put, sb0, sb1, sb2]
          refine anyL_one (i := 12) (o := ⟨some 17, Op.call ⟨.value (.func 110), #[.tmp 15, .tmp 16], #[67, 3]⟩, 4, "written.go:15", #[⟨10, .data⟩, ⟨11, .data⟩, ⟨9, .chain⟩, ⟨9, .guard⟩], some (9, true)⟩) (by kernel_rfl) rfl (fun K hK => ?_)
          go_simp
          refine (HCC.out w3 HBw3.out).mono ?_
          rintro e w4 ⟨rfl, hbw4⟩
          have HBw4 := Lib.hid (HBw3.out.trans (hbw4.mono HBw3.out.size))
          have hSw4 : (fun (V : World) => V.cell? ⟨b0, 0, none⟩ = some (.slice p n c) ∧ V.cell? ⟨b0, 1, none⟩ = some (.slice pf n cf) ∧ V.cell? ⟨b0, 2, none⟩ = some (.slice pd n cd)) w4 := ⟨cell_below hS.1 hbw4, cell_below hS.2.1 hbw4, cell_below hS.2.2 hbw4⟩
          refine hK.out _ _ ⟨fun _ => hSw4, fun _ => hSw4⟩ ?_
          clear hK K hS hS2 hbw4
          have hS := hSw4
          have hS2 := hSw4
          clear hSw4
          try simp only [Act.put, sb0, sb1, sb2]
          refine anyL_take1 (i := 13) (oi := ⟨some 18, Op.pick (.tmp 14) (.tmp 17) (.const (Value.bool false)), 4, "written.go:15", #[⟨9, .data⟩, ⟨12, .data⟩], none⟩) (u := ?_) rfl (by kernel_rfl) (fun _ _ _ h => h) (Or.inl ⟨by kernel_rfl, ?_⟩) ⟨fun _ => hS, fun _ => hS2⟩ ?_
          rotate_left
          focus (intro w hSw; (try dsimp only at hSw); go_simp; with_reducible rfl)
          try simp only [Act.put, sb0, sb1, sb2]
          refine anyL_take1 (i := 14) (oi := ⟨some 19, Op.move (.tmp 18), 4, "written.go:15", #[⟨13, .data⟩, ⟨12, .chain⟩], none⟩) (u := ?_) rfl (by kernel_rfl) (fun _ _ _ h => h) (Or.inl ⟨by kernel_rfl, ?_⟩) ⟨fun _ => hS, fun _ => hS2⟩ ?_
          rotate_left
          focus (intro w hSw; (try dsimp only at hSw); go_simp; with_reducible rfl)
          try simp only [Act.put, sb0, sb1, sb2]
          refine anyL_take1 (i := 15) (oi := ⟨some 20, Op.fieldAddr 67 (.tmp 2) 0, 0, "written.go:15", #[⟨14, .guard⟩], some (14, true)⟩) (u := ?_) rfl (by kernel_rfl) (fun _ _ _ h => h) (Or.inl ⟨by kernel_rfl, ?_⟩) ⟨fun _ => hS, fun _ => hS2⟩ ?_
          rotate_left
          focus (intro w hSw; (try dsimp only at hSw); go_simp; with_reducible rfl)
          try simp only [Act.put, sb0, sb1, sb2]
          refine anyL_take1 (i := 16) (oi := ⟨some 21, Op.load 63 (.tmp 20), 63, "written.go:15", #[⟨15, .data⟩, ⟨14, .guard⟩], some (14, true)⟩) (u := ?_) rfl (by kernel_rfl) (fun _ _ _ h => h) (Or.inl ⟨by kernel_rfl, ?_⟩) ⟨fun _ => hS, fun _ => hS2⟩ ?_
          rotate_left
          focus (intro w hSw; (try dsimp only at hSw); go_simp; with_reducible rfl)
          try simp only [Act.put, sb0, sb1, sb2]
          refine anyL_take1 (i := 17) (oi := ⟨some 22, Op.move (.tmp 1), 3, "written.go:15", #[⟨14, .guard⟩], some (14, true)⟩) (u := ?_) rfl (by kernel_rfl) (fun _ _ _ h => h) (Or.inl ⟨by kernel_rfl, ?_⟩) ⟨fun _ => hS, fun _ => hS2⟩ ?_
          rotate_left
          focus (intro w hSw; (try dsimp only at hSw); go_simp; with_reducible rfl)
          try simp only [Act.put, sb0, sb1, sb2]
          refine anyL_two (i := 18) (k := 19) (o := ⟨some 23, Op.call ⟨.value (.func 111), #[.tmp 22], #[3]⟩, 141, "written.go:15", #[⟨17, .data⟩, ⟨14, .chain⟩, ⟨14, .guard⟩], some (14, true)⟩) (o' := ⟨some 24, Op.buildSlice 136 1 #[(0, .const (.int .u8 8))], 136, "written.go:15", #[⟨14, .guard⟩], some (14, true)⟩) (by kernel_rfl) rfl rfl (fun K hK => ?_) (fun K hK => ?_)
          · skip
            go_simp
            refine (upTo_any nm w4).mono ?_
            rintro e w5 ⟨rfl, hww5⟩
            have hbw5 : Below w4.heap.size w4 w5 := by rw [hww5]; exact bl_alloc _ _
            have HGw5 : Hid (Bx w5 w4.heap.size 3 #[.int .i64 (nm : Nat)]) := by show Bx _ _ _ _; rw [hww5]; exact Bx.new _ _ _
            clear hww5
            have HBw5 := Lib.hid (HBw4.out.trans (hbw5.mono HBw4.out.size))
            have hSw5 : (fun (V : World) => V.cell? ⟨b0, 0, none⟩ = some (.slice p n c) ∧ V.cell? ⟨b0, 1, none⟩ = some (.slice pf n cf) ∧ V.cell? ⟨b0, 2, none⟩ = some (.slice pd n cd)) w5 := ⟨cell_below hS.1 hbw5, cell_below hS.2.1 hbw5, cell_below hS.2.2 hbw5⟩
            refine hK.out _ _ ⟨fun _ => hSw5, fun _ => hSw5⟩ ?_
            clear hK K hS hS2 hbw5
            have hS := hSw5
            have hS2 := hSw5
            clear hSw5
            try simp only [Act.put, sb0, sb1, sb2]
            refine anyL_one (i := 19) (o := ⟨some 24, Op.buildSlice 136 1 #[(0, .const (.int .u8 8))], 136, "written.go:15", #[⟨14, .guard⟩], some (14, true)⟩) (by kernel_rfl) rfl (fun K hK => ?_)
            go_simp
            obtain ⟨w6, hww6⟩ : ∃ W, W = w5.alloc (.cells #[.int .u8 8] 22) := ⟨_, rfl⟩
            rw [← hww6]
            have hbw6 : Below w5.heap.size w5 w6 := by rw [hww6]; exact bl_alloc _ _
            have HUw6 : Hid (SlU w6 (some ⟨w5.heap.size, 0, none⟩) [8]) := by show SlU _ _ _; rw [hww6]; exact slu_new _ _ _ _ rfl
            have HBX := Lib.hid hbw6
            clear hww6
            have HBw6 := Lib.hid (HBw5.out.trans (hbw6.mono HBw5.out.size))
            have hSw6 : (fun (V : World) => V.cell? ⟨b0, 0, none⟩ = some (.slice p n c) ∧ V.cell? ⟨b0, 1, none⟩ = some (.slice pf n cf) ∧ V.cell? ⟨b0, 2, none⟩ = some (.slice pd n cd)) w6 := ⟨cell_below hS.1 hbw6, cell_below hS.2.1 hbw6, cell_below hS.2.2 hbw6⟩
            refine hK.out _ _ ⟨fun _ => hSw6, fun _ => hSw6⟩ ?_
            clear hK K hS hS2 hbw6
            have hS := hSw6
            have hS2 := hSw6
            clear hSw6
            try simp only [Act.put, sb0, sb1, sb2]
            refine anyL_one (i := 20) (o := ⟨some 25, Op.call { callee := Callee.value (.func 108), args := #[.tmp 21, .tmp 23, .tmp 24], argTypes := #[63, 141, 136] }, 4, "written.go:15", #[⟨16, .data⟩, ⟨18, .data⟩, ⟨19, .data⟩, ⟨18, .chain⟩, ⟨14, .guard⟩], some (14, true)⟩) (by kernel_rfl) rfl (fun K hK => ?_)
            go_simp
            refine (HUC.out w6 _ _ HBw6.out HUw6.out (HGw5.out.below (by have := HBw6.out; exact HBX.out))).mono ?_
            rintro e w7 ⟨rfl, hbw7⟩
            have HBw7 := Lib.hid (HBw6.out.trans (hbw7.mono HBw6.out.size))
            have hSw7 : (fun (V : World) => V.cell? ⟨b0, 0, none⟩ = some (.slice p n c) ∧ V.cell? ⟨b0, 1, none⟩ = some (.slice pf n cf) ∧ V.cell? ⟨b0, 2, none⟩ = some (.slice pd n cd)) w7 := ⟨cell_below hS.1 hbw7, cell_below hS.2.1 hbw7, cell_below hS.2.2 hbw7⟩
            refine hK.out _ _ ⟨fun _ => hSw7, fun _ => hSw7⟩ ?_
            clear hK K hS hS2 hbw7
            have hS := hSw7
            have hS2 := hSw7
            clear hSw7
            try simp only [Act.put, sb0, sb1, sb2]
            refine anyL_take1 (i := 21) (oi := ⟨some 26, Op.pick (.tmp 19) (.tmp 25) (.const (Value.bool false)), 4, "written.go:15", #[⟨14, .data⟩, ⟨20, .data⟩], none⟩) (u := ?_) rfl (by kernel_rfl) (fun _ _ _ h => h) (Or.inl ⟨by kernel_rfl, ?_⟩) ⟨fun _ => hS, fun _ => hS2⟩ ?_
            rotate_left
            focus (intro w hSw; (try dsimp only at hSw); go_simp; with_reducible rfl)
            try simp only [Act.put, sb0, sb1, sb2]
            refine anyL_one (i := 22) (o := ⟨some 4, Op.assign (.tmp 26), 4, "written.go:15", #[⟨21, .data⟩, ⟨20, .chain⟩, ⟨0, .phase⟩, ⟨1, .phase⟩, ⟨2, .phase⟩, ⟨3, .phase⟩, ⟨4, .phase⟩, ⟨5, .phase⟩, ⟨6, .phase⟩, ⟨7, .phase⟩, ⟨8, .phase⟩, ⟨9, .phase⟩, ⟨10, .phase⟩, ⟨11, .phase⟩, ⟨12, .phase⟩, ⟨13, .phase⟩, ⟨14, .phase⟩, ⟨15, .phase⟩, ⟨16, .phase⟩, ⟨17, .phase⟩, ⟨18, .phase⟩, ⟨19, .phase⟩, ⟨20, .phase⟩, ⟨21, .phase⟩], none⟩) (by kernel_rfl) rfl (fun K hK => ?_)
            go_simp
            refine hK.out _ _ ⟨fun h => absurd h (by decide), fun h => absurd h (by decide)⟩ ?_
            clear hK K hS hS2
            try simp only [Act.put, sb0, sb1, sb2]
            refine anyL_done (by kernel_rfl) (show onlyN _ .normal _ _ from ?_) _
            dsimp only [onlyN]
            go_wp2
            go_ret
            exact ⟨by rw [HF.out]; rfl, HBL.out.trans (HBw7.out.mono HBL.out.size)⟩
          · skip
            go_simp
            obtain ⟨w5, hww5⟩ : ∃ W, W = w4.alloc (.cells #[.int .u8 8] 22) := ⟨_, rfl⟩
            rw [← hww5]
            have hbw5 : Below w4.heap.size w4 w5 := by rw [hww5]; exact bl_alloc _ _
            have HUw5 : Hid (SlU w5 (some ⟨w4.heap.size, 0, none⟩) [8]) := by show SlU _ _ _; rw [hww5]; exact slu_new _ _ _ _ rfl
            clear hww5
            have HBw5 := Lib.hid (HBw4.out.trans (hbw5.mono HBw4.out.size))
            have hSw5 : (fun (V : World) => V.cell? ⟨b0, 0, none⟩ = some (.slice p n c) ∧ V.cell? ⟨b0, 1, none⟩ = some (.slice pf n cf) ∧ V.cell? ⟨b0, 2, none⟩ = some (.slice pd n cd)) w5 := ⟨cell_below hS.1 hbw5, cell_below hS.2.1 hbw5, cell_below hS.2.2 hbw5⟩
            refine hK.out _ _ ⟨fun _ => hSw5, fun _ => hSw5⟩ ?_
            clear hK K hS hS2 hbw5
            have hS := hSw5
            have hS2 := hSw5
            clear hSw5
            try simp only [Act.put, sb0, sb1, sb2]
            refine anyL_one (i := 18) (o := ⟨some 23, Op.call ⟨.value (.func 111), #[.tmp 22], #[3]⟩, 141, "written.go:15", #[⟨17, .data⟩, ⟨14, .chain⟩, ⟨14, .guard⟩], some (14, true)⟩) (by kernel_rfl) rfl (fun K hK => ?_)
            go_simp
            refine (upTo_any nm w5).mono ?_
            rintro e w6 ⟨rfl, hww6⟩
            have hbw6 : Below w5.heap.size w5 w6 := by rw [hww6]; exact bl_alloc _ _
            have HGw6 : Hid (Bx w6 w5.heap.size 3 #[.int .i64 (nm : Nat)]) := by show Bx _ _ _ _; rw [hww6]; exact Bx.new _ _ _
            have HBX := Lib.hid hbw6
            clear hww6
            have HBw6 := Lib.hid (HBw5.out.trans (hbw6.mono HBw5.out.size))
            have hSw6 : (fun (V : World) => V.cell? ⟨b0, 0, none⟩ = some (.slice p n c) ∧ V.cell? ⟨b0, 1, none⟩ = some (.slice pf n cf) ∧ V.cell? ⟨b0, 2, none⟩ = some (.slice pd n cd)) w6 := ⟨cell_below hS.1 hbw6, cell_below hS.2.1 hbw6, cell_below hS.2.2 hbw6⟩
            refine hK.out _ _ ⟨fun _ => hSw6, fun _ => hSw6⟩ ?_
            clear hK K hS hS2 hbw6
            have hS := hSw6
            have hS2 := hSw6
            clear hSw6
            try simp only [Act.put, sb0, sb1, sb2]
            refine anyL_one (i := 20) (o := ⟨some 25, Op.call { callee := Callee.value (.func 108), args := #[.tmp 21, .tmp 23, .tmp 24], argTypes := #[63, 141, 136] }, 4, "written.go:15", #[⟨16, .data⟩, ⟨18, .data⟩, ⟨19, .data⟩, ⟨18, .chain⟩, ⟨14, .guard⟩], some (14, true)⟩) (by kernel_rfl) rfl (fun K hK => ?_)
            go_simp
            refine (HUC.out w6 _ _ HBw6.out (HUw5.out.below HBX.out) HGw6.out).mono ?_
            rintro e w7 ⟨rfl, hbw7⟩
            have HBw7 := Lib.hid (HBw6.out.trans (hbw7.mono HBw6.out.size))
            have hSw7 : (fun (V : World) => V.cell? ⟨b0, 0, none⟩ = some (.slice p n c) ∧ V.cell? ⟨b0, 1, none⟩ = some (.slice pf n cf) ∧ V.cell? ⟨b0, 2, none⟩ = some (.slice pd n cd)) w7 := ⟨cell_below hS.1 hbw7, cell_below hS.2.1 hbw7, cell_below hS.2.2 hbw7⟩
            refine hK.out _ _ ⟨fun _ => hSw7, fun _ => hSw7⟩ ?_
            clear hK K hS hS2 hbw7
            have hS := hSw7
            have hS2 := hSw7
            clear hSw7
            try simp only [Act.put, sb0, sb1, sb2]
            refine anyL_take1 (i := 21) (oi := ⟨some 26, Op.pick (.tmp 19) (.tmp 25) (.const (Value.bool false)), 4, "written.go:15", #[⟨14, .data⟩, ⟨20, .data⟩], none⟩) (u := ?_) rfl (by kernel_rfl) (fun _ _ _ h => h) (Or.inl ⟨by kernel_rfl, ?_⟩) ⟨fun _ => hS, fun _ => hS2⟩ ?_
            rotate_left
            focus (intro w hSw; (try dsimp only at hSw); go_simp; with_reducible rfl)
            try simp only [Act.put, sb0, sb1, sb2]
            refine anyL_one (i := 22) (o := ⟨some 4, Op.assign (.tmp 26), 4, "written.go:15", #[⟨21, .data⟩, ⟨20, .chain⟩, ⟨0, .phase⟩, ⟨1, .phase⟩, ⟨2, .phase⟩, ⟨3, .phase⟩, ⟨4, .phase⟩, ⟨5, .phase⟩, ⟨6, .phase⟩, ⟨7, .phase⟩, ⟨8, .phase⟩, ⟨9, .phase⟩, ⟨10, .phase⟩, ⟨11, .phase⟩, ⟨12, .phase⟩, ⟨13, .phase⟩, ⟨14, .phase⟩, ⟨15, .phase⟩, ⟨16, .phase⟩, ⟨17, .phase⟩, ⟨18, .phase⟩, ⟨19, .phase⟩, ⟨20, .phase⟩, ⟨21, .phase⟩], none⟩) (by kernel_rfl) rfl (fun K hK => ?_)
            go_simp
            refine hK.out _ _ ⟨fun h => absurd h (by decide), fun h => absurd h (by decide)⟩ ?_
            clear hK K hS hS2
            try simp only [Act.put, sb0, sb1, sb2]
            refine anyL_done (by kernel_rfl) (show onlyN _ .normal _ _ from ?_) _
            dsimp only [onlyN]
            go_wp2
            go_ret
            exact ⟨by rw [HF.out]; rfl, HBL.out.trans (HBw7.out.mono HBL.out.size)⟩
  · have e60 : decide (((dp : Nat) : Int) ≤ 60) = false := by simp; omega
    have e61 : decide (dp ≤ 60) = false := by simp; omega
    rw [e61] at HV
    have HF : Hid (writtenB xs l nm = false) := HV.out
    clear h60
    clear hbl hT hL hfs hds hn h1 h4 hl hW0 hb0
    have hS0 := hS
    clear hS
    go_enter Tryz.func61, Tryz.ntmps61
    go_wp2
    rw [← HW0.out.2]
    refine wp_region_L (S := fun (V : World) => V.cell? ⟨b0, 0, none⟩ = some (.slice p n c) ∧ V.cell? ⟨b0, 1, none⟩ = some (.slice pf n cf) ∧ V.cell? ⟨b0, 2, none⟩ = some (.slice pd n cd)) (S2 := fun (V : World) => V.cell? ⟨b0, 0, none⟩ = some (.slice p n c) ∧ V.cell? ⟨b0, 1, none⟩ = some (.slice pf n cf) ∧ V.cell? ⟨b0, 2, none⟩ = some (.slice pd n cd)) 22 22 (by kernel_rfl) ?_
    rw [show (w.alloc (.cells #[.slice p n c, .slice pf n cf, .slice pd n cd] 67)).drew = W0 from HW0.out.1.symm]
    have hS := hS0
    have hS2 := hS0
    clear hS0
    refine anyL_take1 (i := 0) (oi := ⟨some 5, Op.load 67 (.tmp 2), 67, "written.go:15", #[], none⟩) (u := ?_) rfl (by kernel_rfl) (fun _ _ _ h => h) (Or.inl ⟨by kernel_rfl, ?_⟩) ⟨fun _ => hS, fun _ => hS2⟩ ?_
    rotate_left
    focus (intro w hSw; (try dsimp only at hSw); go_simp; with_reducible rfl)
    try simp only [Act.put, sb0, sb1, sb2]
    refine anyL_one (i := 1) (o := ⟨some 6, Op.call ⟨.value (.func 63), #[.tmp 5], #[67]⟩, 3, "written.go:15", #[⟨0, .data⟩], none⟩) (by kernel_rfl) rfl (fun K hK => ?_)
    go_simp
    refine (HDC.out W0 HBW0.out).mono ?_
    rintro e w1 ⟨rfl, hbw1⟩
    have HBw1 := Lib.hid (HBW0.out.trans (hbw1.mono HBW0.out.size))
    have hSw1 : (fun (V : World) => V.cell? ⟨b0, 0, none⟩ = some (.slice p n c) ∧ V.cell? ⟨b0, 1, none⟩ = some (.slice pf n cf) ∧ V.cell? ⟨b0, 2, none⟩ = some (.slice pd n cd)) w1 := ⟨cell_below hS.1 hbw1, cell_below hS.2.1 hbw1, cell_below hS.2.2 hbw1⟩
    refine hK.out _ _ ⟨fun _ => hSw1, fun _ => hSw1⟩ ?_
    clear hK K hS hS2 hbw1
    have hS := hSw1
    have hS2 := hSw1
    clear hSw1
    try simp only [Act.put, sb0, sb1, sb2]
    refine anyL_take1 (i := 2) (oi := ⟨some 7, Op.binOp BinOp.leq 3 (.tmp 6) (.const (.int .i64 60)) 3, 4, "written.go:15", #[⟨1, .data⟩], none⟩) (u := ?_) rfl (by kernel_rfl) (fun _ _ _ h => h) (Or.inl ⟨by kernel_rfl, ?_⟩) ⟨fun _ => hS, fun _ => hS2⟩ ?_
    rotate_left
    focus (intro w hSw; (try dsimp only at hSw); go_simp; with_reducible rfl)
    try simp only [Act.put, sb0, sb1, sb2]
    refine anyL_take1 (i := 3) (oi := ⟨some 8, Op.move (.tmp 7), 4, "written.go:15", #[⟨2, .data⟩, ⟨1, .chain⟩], none⟩) (u := ?_) rfl (by kernel_rfl) (fun _ _ _ h => h) (Or.inl ⟨by kernel_rfl, ?_⟩) ⟨fun _ => hS, fun _ => hS2⟩ ?_
    rotate_left
    focus (intro w hSw; (try dsimp only at hSw); go_simp; with_reducible rfl)
    try simp only [Act.put, sb0, sb1, sb2]
    refine anyL_take1 (i := 4) (oi := ⟨some 9, Op.fieldAddr 67 (.tmp 2) 0, 0, "written.go:15", #[⟨3, .guard⟩], some (3, true)⟩) (u := undef) rfl (by kernel_rfl) (fun _ _ _ h => h) (Or.inr ⟨?_, rfl⟩) ⟨fun _ => ?_, fun _ => ?_⟩ ?_
    rotate_left 3
    try simp only [Act.put, sb0, sb1, sb2]
    rotate_left 1
    focus kernel_rfl
    focus exact hS
    focus exact hS2
    refine anyL_take1 (i := 5) (oi := ⟨some 10, Op.load 63 (.tmp 9), 63, "written.go:15", #[⟨4, .data⟩, ⟨3, .guard⟩], some (3, true)⟩) (u := undef) rfl (by kernel_rfl) (fun _ _ _ h => h) (Or.inr ⟨?_, rfl⟩) ⟨fun _ => ?_, fun _ => ?_⟩ ?_
    rotate_left 3
    try simp only [Act.put, sb0, sb1, sb2]
    rotate_left 1
    focus kernel_rfl
    focus exact hS
    focus exact hS2
    refine anyL_take1 (i := 6) (oi := ⟨some 11, Op.buildSlice 136 2 #[(0, .const (.int .u8 12)), (1, .const (.int .u8 13))], 136, "written.go:15", #[⟨3, .guard⟩], some (3, true)⟩) (u := undef) rfl (by kernel_rfl) (fun _ _ _ h => h) (Or.inr ⟨?_, rfl⟩) ⟨fun _ => ?_, fun _ => ?_⟩ ?_
    rotate_left 3
    try simp only [Act.put, sb0, sb1, sb2]
    rotate_left 1
    focus kernel_rfl
    focus exact hS
    focus exact hS2
    refine anyL_take1 (i := 7) (oi := ⟨some 12, Op.call { callee := Callee.value (.func 108), args := #[.tmp 10, .func 109, .tmp 11], argTypes := #[63, 141, 136] }, 4, "written.go:15", #[⟨5, .data⟩, ⟨6, .data⟩, ⟨3, .chain⟩, ⟨3, .guard⟩], some (3, true)⟩) (u := undef) rfl (by kernel_rfl) (fun _ _ _ h => h) (Or.inr ⟨?_, rfl⟩) ⟨fun _ => ?_, fun _ => ?_⟩ ?_
    rotate_left 3
    try simp only [Act.put, sb0, sb1, sb2]
    rotate_left 1
    focus kernel_rfl
    focus exact hS
    focus exact hS2
    refine anyL_take1 (i := 8) (oi := ⟨some 13, Op.pick (.tmp 8) (.tmp 12) (.const (Value.bool false)), 4, "written.go:15", #[⟨3, .data⟩, ⟨7, .data⟩], none⟩) (u := ?_) rfl (by kernel_rfl) (fun _ _ _ h => h) (Or.inl ⟨by kernel_rfl, ?_⟩) ⟨fun _ => hS, fun _ => hS2⟩ ?_
    rotate_left
    focus (intro w hSw; (try dsimp only at hSw); go_simp; with_reducible rfl)
    try simp only [Act.put, sb0, sb1, sb2]
    refine anyL_take1 (i := 9) (oi := ⟨some 14, Op.move (.tmp 13), 4, "written.go:15", #[⟨8, .data⟩, ⟨7, .chain⟩], none⟩) (u := ?_) rfl (by kernel_rfl) (fun _ _ _ h => h) (Or.inl ⟨by kernel_rfl, ?_⟩) ⟨fun _ => hS, fun _ => hS2⟩ ?_
    rotate_left
    focus (intro w hSw; (try dsimp only at hSw); go_simp; with_reducible rfl)
    try simp only [Act.put, sb0, sb1, sb2]
    refine anyL_take1 (i := 10) (oi := ⟨some 15, Op.load 67 (.tmp 2), 67, "written.go:15", #[⟨9, .guard⟩], some (9, true)⟩) (u := undef) rfl (by kernel_rfl) (fun _ _ _ h => h) (Or.inr ⟨?_, rfl⟩) ⟨fun _ => ?_, fun _ => ?_⟩ ?_
    rotate_left 3
    try simp only [Act.put, sb0, sb1, sb2]
    rotate_left 1
    focus kernel_rfl
    focus exact hS
    focus exact hS2
    refine anyL_take1 (i := 11) (oi := ⟨some 16, Op.move (.tmp 1), 3, "written.go:15", #[⟨9, .guard⟩], some (9, true)⟩) (u := undef) rfl (by kernel_rfl) (fun _ _ _ h => h) (Or.inr ⟨?_, rfl⟩) ⟨fun _ => ?_, fun _ => ?_⟩ ?_
    rotate_left 3
    try simp only [Act.put, sb0, sb1, sb2]
    rotate_left 1
    focus kernel_rfl
    focus exact hS
    focus exact hS2
    refine anyL_take1 (i := 12) (oi := ⟨some 17, Op.call ⟨.value (.func 110), #[.tmp 15, .tmp 16], #[67, 3]⟩, 4, "written.go:15", #[⟨10, .data⟩, ⟨11, .data⟩, ⟨9, .chain⟩, ⟨9, .guard⟩], some (9, true)⟩) (u := undef) rfl (by kernel_rfl) (fun _ _ _ h => h) (Or.inr ⟨?_, rfl⟩) ⟨fun _ => ?_, fun _ => ?_⟩ ?_
    rotate_left 3
    try simp only [Act.put, sb0, sb1, sb2]
    rotate_left 1
    focus kernel_rfl
    focus exact hS
    focus exact hS2
    refine anyL_take1 (i := 13) (oi := ⟨some 18, Op.pick (.tmp 14) (.tmp 17) (.const (Value.bool false)), 4, "written.go:15", #[⟨9, .data⟩, ⟨12, .data⟩], none⟩) (u := ?_) rfl (by kernel_rfl) (fun _ _ _ h => h) (Or.inl ⟨by kernel_rfl, ?_⟩) ⟨fun _ => hS, fun _ => hS2⟩ ?_
    rotate_left
    focus (intro w hSw; (try dsimp only at hSw); go_simp; with_reducible rfl)
    try simp only [Act.put, sb0, sb1, sb2]
    refine anyL_take1 (i := 14) (oi := ⟨some 19, Op.move (.tmp 18), 4, "written.go:15", #[⟨13, .data⟩, ⟨12, .chain⟩], none⟩) (u := ?_) rfl (by kernel_rfl) (fun _ _ _ h => h) (Or.inl ⟨by kernel_rfl, ?_⟩) ⟨fun _ => hS, fun _ => hS2⟩ ?_
    rotate_left
    focus (intro w hSw; (try dsimp only at hSw); go_simp; with_reducible rfl)
    try simp only [Act.put, sb0, sb1, sb2]
    refine anyL_take1 (i := 15) (oi := ⟨some 20, Op.fieldAddr 67 (.tmp 2) 0, 0, "written.go:15", #[⟨14, .guard⟩], some (14, true)⟩) (u := undef) rfl (by kernel_rfl) (fun _ _ _ h => h) (Or.inr ⟨?_, rfl⟩) ⟨fun _ => ?_, fun _ => ?_⟩ ?_
    rotate_left 3
    try simp only [Act.put, sb0, sb1, sb2]
    rotate_left 1
    focus kernel_rfl
    focus exact hS
    focus exact hS2
    refine anyL_take1 (i := 16) (oi := ⟨some 21, Op.load 63 (.tmp 20), 63, "written.go:15", #[⟨15, .data⟩, ⟨14, .guard⟩], some (14, true)⟩) (u := undef) rfl (by kernel_rfl) (fun _ _ _ h => h) (Or.inr ⟨?_, rfl⟩) ⟨fun _ => ?_, fun _ => ?_⟩ ?_
    rotate_left 3
    try simp only [Act.put, sb0, sb1, sb2]
    rotate_left 1
    focus kernel_rfl
    focus exact hS
    focus exact hS2
    refine anyL_take1 (i := 17) (oi := ⟨some 22, Op.move (.tmp 1), 3, "written.go:15", #[⟨14, .guard⟩], some (14, true)⟩) (u := undef) rfl (by kernel_rfl) (fun _ _ _ h => h) (Or.inr ⟨?_, rfl⟩) ⟨fun _ => ?_, fun _ => ?_⟩ ?_
    rotate_left 3
    try simp only [Act.put, sb0, sb1, sb2]
    rotate_left 1
    focus kernel_rfl
    focus exact hS
    focus exact hS2
    refine anyL_take1 (i := 18) (oi := ⟨some 23, Op.call ⟨.value (.func 111), #[.tmp 22], #[3]⟩, 141, "written.go:15", #[⟨17, .data⟩, ⟨14, .chain⟩, ⟨14, .guard⟩], some (14, true)⟩) (u := undef) rfl (by kernel_rfl) (fun _ _ _ h => h) (Or.inr ⟨?_, rfl⟩) ⟨fun _ => ?_, fun _ => ?_⟩ ?_
    rotate_left 3
    try simp only [Act.put, sb0, sb1, sb2]
    rotate_left 1
    focus kernel_rfl
    focus exact hS
    focus exact hS2
    refine anyL_take1 (i := 19) (oi := ⟨some 24, Op.buildSlice 136 1 #[(0, .const (.int .u8 8))], 136, "written.go:15", #[⟨14, .guard⟩], some (14, true)⟩) (u := undef) rfl (by kernel_rfl) (fun _ _ _ h => h) (Or.inr ⟨?_, rfl⟩) ⟨fun _ => ?_, fun _ => ?_⟩ ?_
    rotate_left 3
    try simp only [Act.put, sb0, sb1, sb2]
    rotate_left 1
    focus kernel_rfl
    focus exact hS
    focus exact hS2
    refine anyL_take1 (i := 20) (oi := ⟨some 25, Op.call { callee := Callee.value (.func 108), args := #[.tmp 21, .tmp 23, .tmp 24], argTypes := #[63, 141, 136] }, 4, "written.go:15", #[⟨16, .data⟩, ⟨18, .data⟩, ⟨19, .data⟩, ⟨18, .chain⟩, ⟨14, .guard⟩], some (14, true)⟩) (u := undef) rfl (by kernel_rfl) (fun _ _ _ h => h) (Or.inr ⟨?_, rfl⟩) ⟨fun _ => ?_, fun _ => ?_⟩ ?_
    rotate_left 3
    try simp only [Act.put, sb0, sb1, sb2]
    rotate_left 1
    focus kernel_rfl
    focus exact hS
    focus exact hS2
    refine anyL_take1 (i := 21) (oi := ⟨some 26, Op.pick (.tmp 19) (.tmp 25) (.const (Value.bool false)), 4, "written.go:15", #[⟨14, .data⟩, ⟨20, .data⟩], none⟩) (u := ?_) rfl (by kernel_rfl) (fun _ _ _ h => h) (Or.inl ⟨by kernel_rfl, ?_⟩) ⟨fun _ => hS, fun _ => hS2⟩ ?_
    rotate_left
    focus (intro w hSw; (try dsimp only at hSw); go_simp; with_reducible rfl)
    try simp only [Act.put, sb0, sb1, sb2]
    refine anyL_one (i := 22) (o := ⟨some 4, Op.assign (.tmp 26), 4, "written.go:15", #[⟨21, .data⟩, ⟨20, .chain⟩, ⟨0, .phase⟩, ⟨1, .phase⟩, ⟨2, .phase⟩, ⟨3, .phase⟩, ⟨4, .phase⟩, ⟨5, .phase⟩, ⟨6, .phase⟩, ⟨7, .phase⟩, ⟨8, .phase⟩, ⟨9, .phase⟩, ⟨10, .phase⟩, ⟨11, .phase⟩, ⟨12, .phase⟩, ⟨13, .phase⟩, ⟨14, .phase⟩, ⟨15, .phase⟩, ⟨16, .phase⟩, ⟨17, .phase⟩, ⟨18, .phase⟩, ⟨19, .phase⟩, ⟨20, .phase⟩, ⟨21, .phase⟩], none⟩) (by kernel_rfl) rfl (fun K hK => ?_)
    go_simp
    refine hK.out _ _ ⟨fun h => absurd h (by decide), fun h => absurd h (by decide)⟩ ?_
    clear hK K hS hS2
    try simp only [Act.put, sb0, sb1, sb2]
    refine anyL_done (by kernel_rfl) (show onlyN _ .normal _ _ from ?_) _
    dsimp only [onlyN]
    go_wp2
    go_ret
    exact ⟨by rw [HF.out]; rfl, HBL.out.trans (HBw1.out.mono HBL.out.size)⟩
end Go.Proofs.YtjpccmiaimkmbaaGreat
