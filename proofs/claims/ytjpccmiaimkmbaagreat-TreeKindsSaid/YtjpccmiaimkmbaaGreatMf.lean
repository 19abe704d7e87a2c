/- The walk of spread: a drawn region of guarded calls. -/
import Derived.Test.YtjpccmiaimkmbaaGreatMe

namespace Go.Proofs.YtjpccmiaimkmbaaGreat
open Go.RowKit Tnr Tnt

def spreadB (xs : List NV) (_ : List (Nat × Nat)) (nm : Nat) : Bool := allB (upToB nm) xs [5, 8] && allB endlessB xs [7]
set_option maxHeartbeats 6400000 in
set_option maxRecDepth 100000 in
theorem spread_any (p : Option Addr) (n c : Nat) (xs : List NV) (pf pd : Option Addr) (cf cd nm : Nat) (l : List (Nat × Nat)) (B : Nat) (w : World) (hn : n = xs.length) (h1 : 1 ≤ n) (h4 : n ≤ 4000) (hl : n = l.length) (hL : SlN w p xs) (hfs : OwnZ w B (.slice pf n cf) (fsZ l)) (hds : OwnZ w B (.slice pd n cd) (dsZ l)) :
    Calls Tryz.prog 62 #[.agg #[.slice p n c, .slice pf n cf, .slice pd n cd], .int .i64 (nm : Nat)] w fun e w' => e = .returned (.bool (spreadB xs l nm)) ∧ Below w.heap.size w w' := by
  obtain ⟨W0, hW0⟩ : ∃ W, W = (w.alloc (.cells #[.slice p n c, .slice pf n cf, .slice pd n cd] 67)).drew := ⟨_, rfl⟩
  obtain ⟨b0, hb0⟩ : ∃ b, b = w.heap.size := ⟨_, rfl⟩
  have hbl : Below w.heap.size w W0 := by rw [hW0]; exact (bl_alloc _ _).drew
  have hT : Bx W0 b0 67 #[.slice p n c, .slice pf n cf, .slice pd n cd] := by rw [hW0, hb0]; exact Bx.new w _ _
  have hS : (fun (V : World) => V.cell? ⟨b0, 0, none⟩ = some (.slice p n c) ∧ V.cell? ⟨b0, 1, none⟩ = some (.slice pf n cf) ∧ V.cell? ⟨b0, 2, none⟩ = some (.slice pd n cd)) W0 := ⟨hT.cell rfl, hT.cell rfl, hT.cell rfl⟩
  have HBL := Lib.hid hbl
  have HBW0 : Hid (Below W0.heap.size W0 W0) := Below.refl _ _
  have HL := Lib.hid (hL.below hbl)
  have HOF := Lib.hid (And.intro (ownZ_below hfs hbl) (ownZ_below hds hbl))
  have HN := Lib.hid (And.intro hn (And.intro h1 (And.intro h4 hl)))
  have HW0 := Lib.hid (And.intro hW0 hb0)
  obtain ⟨ub, hub⟩ : ∃ b : Bool, b = allB (upToB nm) xs [5, 8] := ⟨_, rfl⟩
  obtain ⟨eb, heb⟩ : ∃ b : Bool, b = allB endlessB xs [7] := ⟨_, rfl⟩
  have HV : Hid (spreadB xs l nm = (ub && eb)) := by show _ = _; unfold spreadB; rw [← hub, ← heb]
  have HAC : Hid (∀ V q, Below W0.heap.size W0 V → SlU V (some ⟨q, 0, none⟩) [7] → Calls Tryz.prog 108 #[.slice p n c, .func (.func 112) #[] #[], .slice (some ⟨q, 0, none⟩) 1 1] V fun e w' => e = .returned (.bool eb) ∧ Below V.heap.size V w') := fun V q hV hU => by
    rw [heb]; exact allEndless_any p n c xs (some ⟨q, 0, none⟩) 1 1 [7] V hn (by omega) rfl (by omega) (HL.out.below hV) hU
  have HUC : Hid (∀ V q g, Below W0.heap.size W0 V → SlU V (some ⟨q, 0, none⟩) [5, 8] → Bx V g 3 #[.int .i64 (nm : Nat)] → Calls Tryz.prog 108 #[.slice p n c, .func (.func 144) #[] #[.pointer (some ⟨g, 0, none⟩)], .slice (some ⟨q, 0, none⟩) 2 2] V fun e w' => e = .returned (.bool ub) ∧ Below V.heap.size V w') := fun V q g hV hU hG => by
    rw [hub]; exact allUpTo_any nm g p n c xs (some ⟨q, 0, none⟩) 2 2 [5, 8] V hn (by omega) rfl (by omega) hG (HL.out.below hV) hU
  clear heb hub
  cases ub with
  | false =>
    have HF : Hid (spreadB xs l nm = false) := HV.out
    clear hbl hT hL hfs hds hn h1 h4 hl hW0 hb0
    have hS0 := hS
    clear hS
    go_enter Tryz.func62, Tryz.ntmps62
    go_wp2
    rw [← HW0.out.2]
    refine wp_region_L (S := fun (V : World) => V.cell? ⟨b0, 0, none⟩ = some (.slice p n c) ∧ V.cell? ⟨b0, 1, none⟩ = some (.slice pf n cf) ∧ V.cell? ⟨b0, 2, none⟩ = some (.slice pd n cd)) (S2 := fun (V : World) => V.cell? ⟨b0, 0, none⟩ = some (.slice p n c) ∧ V.cell? ⟨b0, 1, none⟩ = some (.slice pf n cf) ∧ V.cell? ⟨b0, 2, none⟩ = some (.slice pd n cd)) 12 12 (by kernel_rfl) ?_
    rw [show (w.alloc (.cells #[.slice p n c, .slice pf n cf, .slice pd n cd] 67)).drew = W0 from HW0.out.1.symm]
    have hS := hS0
    have hS2 := hS0
    clear hS0
    refine anyL_take1 (i := 0) (oi := ⟨some 5, Op.fieldAddr 67 (.tmp 2) 0, 0, "written.go:20", #[], none⟩) (u := ?_) rfl (by kernel_rfl) (fun _ _ _ h => h) (Or.inl ⟨by kernel_rfl, ?_⟩) ⟨fun _ => hS, fun _ => hS2⟩ ?_
    rotate_left
    focus (intro w hSw; (try dsimp only at hSw); go_simp; with_reducible rfl)
    try simp only [Act.put, sb0, sb1, sb2]
    refine anyL_take1 (i := 1) (oi := ⟨some 6, Op.load 63 (.tmp 5), 63, "written.go:20", #[⟨0, .data⟩], none⟩) (u := ?_) rfl (by kernel_rfl) (fun _ _ _ h => h) (Or.inl ⟨by kernel_rfl, ?_⟩) ⟨fun _ => hS, fun _ => hS2⟩ ?_
    rotate_left
    focus (intro w hSw; (try dsimp only at hSw); go_simp; with_reducible rfl)
    try simp only [Act.put, sb0, sb1, sb2]
    refine anyL_take1 (i := 2) (oi := ⟨some 7, Op.move (.tmp 1), 3, "written.go:20", #[], none⟩) (u := ?_) rfl (by kernel_rfl) (fun _ _ _ h => h) (Or.inl ⟨by kernel_rfl, ?_⟩) ⟨fun _ => hS, fun _ => hS2⟩ ?_
    rotate_left
    focus (intro w hSw; (try dsimp only at hSw); go_simp; with_reducible rfl)
    try simp only [Act.put, sb0, sb1, sb2]
    refine anyL_two (i := 3) (k := 4) (o := ⟨some 8, Op.call ⟨.value (.func 111), #[.tmp 7], #[3]⟩, 141, "written.go:20", #[⟨2, .data⟩], none⟩) (o' := ⟨some 9, Op.buildSlice 136 2 #[(0, .const (.int .u8 5)), (1, .const (.int .u8 8))], 136, "written.go:20", #[], none⟩) (by kernel_rfl) rfl rfl (fun K hK => ?_) (fun K hK => ?_)
    · skip
      go_simp
      refine (upTo_any nm W0).mono ?_
      rintro e w5 ⟨rfl, hww5⟩
      have hbw5 : Below W0.heap.size W0 w5 := by rw [hww5]; exact bl_alloc _ _
      have HGw5 : Hid (Bx w5 W0.heap.size 3 #[.int .i64 (nm : Nat)]) := by show Bx _ _ _ _; rw [hww5]; exact Bx.new _ _ _
      clear hww5
      have HBw5 := Lib.hid (HBW0.out.trans (hbw5.mono HBW0.out.size))
      have hSw5 : (fun (V : World) => V.cell? ⟨b0, 0, none⟩ = some (.slice p n c) ∧ V.cell? ⟨b0, 1, none⟩ = some (.slice pf n cf) ∧ V.cell? ⟨b0, 2, none⟩ = some (.slice pd n cd)) w5 := ⟨cell_below hS.1 hbw5, cell_below hS.2.1 hbw5, cell_below hS.2.2 hbw5⟩
      refine hK.out _ _ ⟨fun _ => hSw5, fun _ => hSw5⟩ ?_
      clear hK K hS hS2 hbw5
      have hS := hSw5
      have hS2 := hSw5
      clear hSw5
      try simp only [Act.put, sb0, sb1, sb2]
      refine anyL_one (i := 4) (o := ⟨some 9, Op.buildSlice 136 2 #[(0, .const (.int .u8 5)), (1, .const (.int .u8 8))], 136, "written.go:20", #[], none⟩) (by kernel_rfl) rfl (fun K hK => ?_)
      go_simp
      obtain ⟨w6, hww6⟩ : ∃ W, W = w5.alloc (.cells #[.int .u8 5, .int .u8 8] 22) := ⟨_, rfl⟩
      rw [← hww6]
      have hbw6 : Below w5.heap.size w5 w6 := by rw [hww6]; exact bl_alloc _ _
      have HUw6 : Hid (SlU w6 (some ⟨w5.heap.size, 0, none⟩) [5, 8]) := by show SlU _ _ _; rw [hww6]; exact slu_new _ _ _ _ rfl
      have HBX := Lib.hid hbw6
      clear hww6
      have HBw6 := Lib.hid (HBw5.out.trans (hbw6.mono HBw5.out.size))
      have hSw6 : (fun (V : World) => V.cell? ⟨b0, 0, none⟩ = some (.slice p n c) ∧ V.cell? ⟨b0, 1, none⟩ = some (.slice pf n cf) ∧ V.cell? ⟨b0, 2, none⟩ = some (.slice pd n cd)) w6 := ⟨cell_below hS.1 hbw6, cell_below hS.2.1 hbw6, cell_below hS.2.2 hbw6⟩
      refine hK.out _ _ ⟨fun _ => hSw6, fun _ => hSw6⟩ ?_
      clear hK K hS hS2 hbw6
      have hS := hSw6
      have hS2 := hSw6
      clear hSw6
      try simp only [Act.put, sb0, sb1, sb2]
      refine anyL_one (i := 5) (o := ⟨some 10, Op.call { callee := Callee.value (.func 108), args := #[.tmp 6, .tmp 8, .tmp 9], argTypes := #[63, 141, 136] }, 4, "written.go:20", #[⟨1, .data⟩, ⟨3, .data⟩, ⟨4, .data⟩, ⟨3, .chain⟩], none⟩) (by kernel_rfl) rfl (fun K hK => ?_)
      go_simp
      refine (HUC.out w6 _ _ HBw6.out HUw6.out (HGw5.out.below HBX.out)).mono ?_
      rintro e w7 ⟨rfl, hbw7⟩
      have HBw7 := Lib.hid (HBw6.out.trans (hbw7.mono HBw6.out.size))
      have hSw7 : (fun (V : World) => V.cell? ⟨b0, 0, none⟩ = some (.slice p n c) ∧ V.cell? ⟨b0, 1, none⟩ = some (.slice pf n cf) ∧ V.cell? ⟨b0, 2, none⟩ = some (.slice pd n cd)) w7 := ⟨cell_below hS.1 hbw7, cell_below hS.2.1 hbw7, cell_below hS.2.2 hbw7⟩
      refine hK.out _ _ ⟨fun _ => hSw7, fun _ => hSw7⟩ ?_
      clear hK K hS hS2 hbw7
      have hS := hSw7
      have hS2 := hSw7
      clear hSw7
      try simp only [Act.put, sb0, sb1, sb2]
      refine anyL_take1 (i := 6) (oi := ⟨some 11, Op.move (.tmp 10), 4, "written.go:20", #[⟨5, .data⟩, ⟨5, .chain⟩], none⟩) (u := ?_) rfl (by kernel_rfl) (fun _ _ _ h => h) (Or.inl ⟨by kernel_rfl, ?_⟩) ⟨fun _ => hS, fun _ => hS2⟩ ?_
      rotate_left
      focus (intro w hSw; (try dsimp only at hSw); go_simp; with_reducible rfl)
      try simp only [Act.put, sb0, sb1, sb2]
      refine anyL_take1 (i := 7) (oi := ⟨some 12, Op.fieldAddr 67 (.tmp 2) 0, 0, "written.go:20", #[⟨6, .guard⟩], some (6, true)⟩) (u := undef) rfl (by kernel_rfl) (fun _ _ _ h => h) (Or.inr ⟨?_, rfl⟩) ⟨fun _ => ?_, fun _ => ?_⟩ ?_
      rotate_left 3
      try simp only [Act.put, sb0, sb1, sb2]
      rotate_left 1
      focus kernel_rfl
      focus exact hS
      focus exact hS2
      refine anyL_take1 (i := 8) (oi := ⟨some 13, Op.load 63 (.tmp 12), 63, "written.go:20", #[⟨7, .data⟩, ⟨6, .guard⟩], some (6, true)⟩) (u := undef) rfl (by kernel_rfl) (fun _ _ _ h => h) (Or.inr ⟨?_, rfl⟩) ⟨fun _ => ?_, fun _ => ?_⟩ ?_
      rotate_left 3
      try simp only [Act.put, sb0, sb1, sb2]
      rotate_left 1
      focus kernel_rfl
      focus exact hS
      focus exact hS2
      refine anyL_take1 (i := 9) (oi := ⟨some 14, Op.buildSlice 136 1 #[(0, .const (.int .u8 7))], 136, "written.go:20", #[⟨6, .guard⟩], some (6, true)⟩) (u := undef) rfl (by kernel_rfl) (fun _ _ _ h => h) (Or.inr ⟨?_, rfl⟩) ⟨fun _ => ?_, fun _ => ?_⟩ ?_
      rotate_left 3
      try simp only [Act.put, sb0, sb1, sb2]
      rotate_left 1
      focus kernel_rfl
      focus exact hS
      focus exact hS2
      refine anyL_take1 (i := 10) (oi := ⟨some 15, Op.call { callee := Callee.value (.func 108), args := #[.tmp 13, .func 112, .tmp 14], argTypes := #[63, 141, 136] }, 4, "written.go:20", #[⟨8, .data⟩, ⟨9, .data⟩, ⟨6, .chain⟩, ⟨6, .guard⟩], some (6, true)⟩) (u := undef) rfl (by kernel_rfl) (fun _ _ _ h => h) (Or.inr ⟨?_, rfl⟩) ⟨fun _ => ?_, fun _ => ?_⟩ ?_
      rotate_left 3
      try simp only [Act.put, sb0, sb1, sb2]
      rotate_left 1
      focus kernel_rfl
      focus exact hS
      focus exact hS2
      refine anyL_take1 (i := 11) (oi := ⟨some 16, Op.pick (.tmp 11) (.tmp 15) (.const (Value.bool false)), 4, "written.go:20", #[⟨6, .data⟩, ⟨10, .data⟩], none⟩) (u := ?_) rfl (by kernel_rfl) (fun _ _ _ h => h) (Or.inl ⟨by kernel_rfl, ?_⟩) ⟨fun _ => hS, fun _ => hS2⟩ ?_
      rotate_left
      focus (intro w hSw; (try dsimp only at hSw); go_simp; with_reducible rfl)
      try simp only [Act.put, sb0, sb1, sb2]
      refine anyL_one (i := 12) (o := ⟨some 4, Op.assign (.tmp 16), 4, "written.go:20", #[⟨11, .data⟩, ⟨10, .chain⟩, ⟨0, .phase⟩, ⟨1, .phase⟩, ⟨2, .phase⟩, ⟨3, .phase⟩, ⟨4, .phase⟩, ⟨5, .phase⟩, ⟨6, .phase⟩, ⟨7, .phase⟩, ⟨8, .phase⟩, ⟨9, .phase⟩, ⟨10, .phase⟩, ⟨11, .phase⟩], none⟩) (by kernel_rfl) rfl (fun K hK => ?_)
      go_simp
      refine hK.out _ _ ⟨fun h => absurd h (by decide), fun h => absurd h (by decide)⟩ ?_
      clear hK K hS hS2
      try simp only [Act.put, sb0, sb1, sb2]
      refine anyL_done (by kernel_rfl) (show onlyN _ .normal _ _ from ?_) _
      dsimp only [onlyN]
      go_wp2
      go_ret
      exact ⟨by rw [HF.out]; rfl, HBL.out.trans (HBw7.out.mono HBL.out.size)⟩
    · skip
      go_simp
      obtain ⟨w5, hww5⟩ : ∃ W, W = W0.alloc (.cells #[.int .u8 5, .int .u8 8] 22) := ⟨_, rfl⟩
      rw [← hww5]
      have hbw5 : Below W0.heap.size W0 w5 := by rw [hww5]; exact bl_alloc _ _
      have HUw5 : Hid (SlU w5 (some ⟨W0.heap.size, 0, none⟩) [5, 8]) := by show SlU _ _ _; rw [hww5]; exact slu_new _ _ _ _ rfl
      clear hww5
      have HBw5 := Lib.hid (HBW0.out.trans (hbw5.mono HBW0.out.size))
      have hSw5 : (fun (V : World) => V.cell? ⟨b0, 0, none⟩ = some (.slice p n c) ∧ V.cell? ⟨b0, 1, none⟩ = some (.slice pf n cf) ∧ V.cell? ⟨b0, 2, none⟩ = some (.slice pd n cd)) w5 := ⟨cell_below hS.1 hbw5, cell_below hS.2.1 hbw5, cell_below hS.2.2 hbw5⟩
      refine hK.out _ _ ⟨fun _ => hSw5, fun _ => hSw5⟩ ?_
      clear hK K hS hS2 hbw5
      have hS := hSw5
      have hS2 := hSw5
      clear hSw5
      try simp only [Act.put, sb0, sb1, sb2]
      refine anyL_one (i := 3) (o := ⟨some 8, Op.call ⟨.value (.func 111), #[.tmp 7], #[3]⟩, 141, "written.go:20", #[⟨2, .data⟩], none⟩) (by kernel_rfl) rfl (fun K hK => ?_)
      go_simp
      refine (upTo_any nm w5).mono ?_
      rintro e w6 ⟨rfl, hww6⟩
      have hbw6 : Below w5.heap.size w5 w6 := by rw [hww6]; exact bl_alloc _ _
      have HGw6 : Hid (Bx w6 w5.heap.size 3 #[.int .i64 (nm : Nat)]) := by show Bx _ _ _ _; rw [hww6]; exact Bx.new _ _ _
      have HBX := Lib.hid hbw6
      clear hww6
      have HBw6 := Lib.hid (HBw5.out.trans (hbw6.mono HBw5.out.size))
      have hSw6 : (fun (V : World) => V.cell? ⟨b0, 0, none⟩ = some (.slice p n c) ∧ V.cell? ⟨b0, 1, none⟩ = some (.slice pf n cf) ∧ V.cell? ⟨b0, 2, none⟩ = some (.slice pd n cd)) w6 := ⟨cell_below hS.1 hbw6, cell_below hS.2.1 hbw6, cell_below hS.2.2 hbw6⟩
      refine hK.out _ _ ⟨fun _ => hSw6, fun _ => hSw6⟩ ?_
      clear hK K hS hS2 hbw6
      have hS := hSw6
      have hS2 := hSw6
      clear hSw6
      try simp only [Act.put, sb0, sb1, sb2]
      refine anyL_one (i := 5) (o := ⟨some 10, Op.call { callee := Callee.value (.func 108), args := #[.tmp 6, .tmp 8, .tmp 9], argTypes := #[63, 141, 136] }, 4, "written.go:20", #[⟨1, .data⟩, ⟨3, .data⟩, ⟨4, .data⟩, ⟨3, .chain⟩], none⟩) (by kernel_rfl) rfl (fun K hK => ?_)
      go_simp
      refine (HUC.out w6 _ _ HBw6.out (HUw5.out.below HBX.out) HGw6.out).mono ?_
      rintro e w7 ⟨rfl, hbw7⟩
      have HBw7 := Lib.hid (HBw6.out.trans (hbw7.mono HBw6.out.size))
      have hSw7 : (fun (V : World) => V.cell? ⟨b0, 0, none⟩ = some (.slice p n c) ∧ V.cell? ⟨b0, 1, none⟩ = some (.slice pf n cf) ∧ V.cell? ⟨b0, 2, none⟩ = some (.slice pd n cd)) w7 := ⟨cell_below hS.1 hbw7, cell_below hS.2.1 hbw7, cell_below hS.2.2 hbw7⟩
      refine hK.out _ _ ⟨fun _ => hSw7, fun _ => hSw7⟩ ?_
      clear hK K hS hS2 hbw7
      have hS := hSw7
      have hS2 := hSw7
      clear hSw7
      try simp only [Act.put, sb0, sb1, sb2]
      refine anyL_take1 (i := 6) (oi := ⟨some 11, Op.move (.tmp 10), 4, "written.go:20", #[⟨5, .data⟩, ⟨5, .chain⟩], none⟩) (u := ?_) rfl (by kernel_rfl) (fun _ _ _ h => h) (Or.inl ⟨by kernel_rfl, ?_⟩) ⟨fun _ => hS, fun _ => hS2⟩ ?_
      rotate_left
      focus (intro w hSw; (try dsimp only at hSw); go_simp; with_reducible rfl)
      try simp only [Act.put, sb0, sb1, sb2]
      refine anyL_take1 (i := 7) (oi := ⟨some 12, Op.fieldAddr 67 (.tmp 2) 0, 0, "written.go:20", #[⟨6, .guard⟩], some (6, true)⟩) (u := undef) rfl (by kernel_rfl) (fun _ _ _ h => h) (Or.inr ⟨?_, rfl⟩) ⟨fun _ => ?_, fun _ => ?_⟩ ?_
      rotate_left 3
      try simp only [Act.put, sb0, sb1, sb2]
      rotate_left 1
      focus kernel_rfl
      focus exact hS
      focus exact hS2
      refine anyL_take1 (i := 8) (oi := ⟨some 13, Op.load 63 (.tmp 12), 63, "written.go:20", #[⟨7, .data⟩, ⟨6, .guard⟩], some (6, true)⟩) (u := undef) rfl (by kernel_rfl) (fun _ _ _ h => h) (Or.inr ⟨?_, rfl⟩) ⟨fun _ => ?_, fun _ => ?_⟩ ?_
      rotate_left 3
      try simp only [Act.put, sb0, sb1, sb2]
      rotate_left 1
      focus kernel_rfl
      focus exact hS
      focus exact hS2
      refine anyL_take1 (i := 9) (oi := ⟨some 14, Op.buildSlice 136 1 #[(0, .const (.int .u8 7))], 136, "written.go:20", #[⟨6, .guard⟩], some (6, true)⟩) (u := undef) rfl (by kernel_rfl) (fun _ _ _ h => h) (Or.inr ⟨?_, rfl⟩) ⟨fun _ => ?_, fun _ => ?_⟩ ?_
      rotate_left 3
      try simp only [Act.put, sb0, sb1, sb2]
      rotate_left 1
      focus kernel_rfl
      focus exact hS
      focus exact hS2
      refine anyL_take1 (i := 10) (oi := ⟨some 15, Op.call { callee := Callee.value (.func 108), args := #[.tmp 13, .func 112, .tmp 14], argTypes := #[63, 141, 136] }, 4, "written.go:20", #[⟨8, .data⟩, ⟨9, .data⟩, ⟨6, .chain⟩, ⟨6, .guard⟩], some (6, true)⟩) (u := undef) rfl (by kernel_rfl) (fun _ _ _ h => h) (Or.inr ⟨?_, rfl⟩) ⟨fun _ => ?_, fun _ => ?_⟩ ?_
      rotate_left 3
      try simp only [Act.put, sb0, sb1, sb2]
      rotate_left 1
      focus kernel_rfl
      focus exact hS
      focus exact hS2
      refine anyL_take1 (i := 11) (oi := ⟨some 16, Op.pick (.tmp 11) (.tmp 15) (.const (Value.bool false)), 4, "written.go:20", #[⟨6, .data⟩, ⟨10, .data⟩], none⟩) (u := ?_) rfl (by kernel_rfl) (fun _ _ _ h => h) (Or.inl ⟨by kernel_rfl, ?_⟩) ⟨fun _ => hS, fun _ => hS2⟩ ?_
      rotate_left
      focus (intro w hSw; (try dsimp only at hSw); go_simp; with_reducible rfl)
      try simp only [Act.put, sb0, sb1, sb2]
      refine anyL_one (i := 12) (o := ⟨some 4, Op.assign (.tmp 16), 4, "written.go:20", #[⟨11, .data⟩, ⟨10, .chain⟩, ⟨0, .phase⟩, ⟨1, .phase⟩, ⟨2, .phase⟩, ⟨3, .phase⟩, ⟨4, .phase⟩, ⟨5, .phase⟩, ⟨6, .phase⟩, ⟨7, .phase⟩, ⟨8, .phase⟩, ⟨9, .phase⟩, ⟨10, .phase⟩, ⟨11, .phase⟩], none⟩) (by kernel_rfl) rfl (fun K hK => ?_)
      go_simp
      refine hK.out _ _ ⟨fun h => absurd h (by decide), fun h => absurd h (by decide)⟩ ?_
      clear hK K hS hS2
      try simp only [Act.put, sb0, sb1, sb2]
      refine anyL_done (by kernel_rfl) (show onlyN _ .normal _ _ from ?_) _
      dsimp only [onlyN]
      go_wp2
      go_ret
      exact ⟨by rw [HF.out]; rfl, HBL.out.trans (HBw7.out.mono HBL.out.size)⟩
  | true =>
    cases eb with
    | false =>
      have HF : Hid (spreadB xs l nm = false) := HV.out
      clear hbl hT hL hfs hds hn h1 h4 hl hW0 hb0
      have hS0 := hS
      clear hS
      go_enter Tryz.func62, Tryz.ntmps62
      go_wp2
      rw [← HW0.out.2]
      refine wp_region_L (S := fun (V : World) => V.cell? ⟨b0, 0, none⟩ = some (.slice p n c) ∧ V.cell? ⟨b0, 1, none⟩ = some (.slice pf n cf) ∧ V.cell? ⟨b0, 2, none⟩ = some (.slice pd n cd)) (S2 := fun (V : World) => V.cell? ⟨b0, 0, none⟩ = some (.slice p n c) ∧ V.cell? ⟨b0, 1, none⟩ = some (.slice pf n cf) ∧ V.cell? ⟨b0, 2, none⟩ = some (.slice pd n cd)) 12 12 (by kernel_rfl) ?_
      rw [show (w.alloc (.cells #[.slice p n c, .slice pf n cf, .slice pd n cd] 67)).drew = W0 from HW0.out.1.symm]
      have hS := hS0
      have hS2 := hS0
      clear hS0
      refine anyL_take1 (i := 0) (oi := ⟨some 5, Op.fieldAddr 67 (.tmp 2) 0, 0, "written.go:20", #[], none⟩) (u := ?_) rfl (by kernel_rfl) (fun _ _ _ h => h) (Or.inl ⟨by kernel_rfl, ?_⟩) ⟨fun _ => hS, fun _ => hS2⟩ ?_
      rotate_left
      focus (intro w hSw; (try dsimp only at hSw); go_simp; with_reducible rfl)
      try simp only [Act.put, sb0, sb1, sb2]
      refine anyL_take1 (i := 1) (oi := ⟨some 6, Op.load 63 (.tmp 5), 63, "written.go:20", #[⟨0, .data⟩], none⟩) (u := ?_) rfl (by kernel_rfl) (fun _ _ _ h => h) (Or.inl ⟨by kernel_rfl, ?_⟩) ⟨fun _ => hS, fun _ => hS2⟩ ?_
      rotate_left
      focus (intro w hSw; (try dsimp only at hSw); go_simp; with_reducible rfl)
      try simp only [Act.put, sb0, sb1, sb2]
      refine anyL_take1 (i := 2) (oi := ⟨some 7, Op.move (.tmp 1), 3, "written.go:20", #[], none⟩) (u := ?_) rfl (by kernel_rfl) (fun _ _ _ h => h) (Or.inl ⟨by kernel_rfl, ?_⟩) ⟨fun _ => hS, fun _ => hS2⟩ ?_
      rotate_left
      focus (intro w hSw; (try dsimp only at hSw); go_simp; with_reducible rfl)
      try simp only [Act.put, sb0, sb1, sb2]
      refine anyL_two (i := 3) (k := 4) (o := ⟨some 8, Op.call ⟨.value (.func 111), #[.tmp 7], #[3]⟩, 141, "written.go:20", #[⟨2, .data⟩], none⟩) (o' := ⟨some 9, Op.buildSlice 136 2 #[(0, .const (.int .u8 5)), (1, .const (.int .u8 8))], 136, "written.go:20", #[], none⟩) (by kernel_rfl) rfl rfl (fun K hK => ?_) (fun K hK => ?_)
      · skip
        go_simp
        refine (upTo_any nm W0).mono ?_
        rintro e w5 ⟨rfl, hww5⟩
        have hbw5 : Below W0.heap.size W0 w5 := by rw [hww5]; exact bl_alloc _ _
        have HGw5 : Hid (Bx w5 W0.heap.size 3 #[.int .i64 (nm : Nat)]) := by show Bx _ _ _ _; rw [hww5]; exact Bx.new _ _ _
        clear hww5
        have HBw5 := Lib.hid (HBW0.out.trans (hbw5.mono HBW0.out.size))
        have hSw5 : (fun (V : World) => V.cell? ⟨b0, 0, none⟩ = some (.slice p n c) ∧ V.cell? ⟨b0, 1, none⟩ = some (.slice pf n cf) ∧ V.cell? ⟨b0, 2, none⟩ = some (.slice pd n cd)) w5 := ⟨cell_below hS.1 hbw5, cell_below hS.2.1 hbw5, cell_below hS.2.2 hbw5⟩
        refine hK.out _ _ ⟨fun _ => hSw5, fun _ => hSw5⟩ ?_
        clear hK K hS hS2 hbw5
        have hS := hSw5
        have hS2 := hSw5
        clear hSw5
        try simp only [Act.put, sb0, sb1, sb2]
        refine anyL_one (i := 4) (o := ⟨some 9, Op.buildSlice 136 2 #[(0, .const (.int .u8 5)), (1, .const (.int .u8 8))], 136, "written.go:20", #[], none⟩) (by kernel_rfl) rfl (fun K hK => ?_)
        go_simp
        obtain ⟨w6, hww6⟩ : ∃ W, W = w5.alloc (.cells #[.int .u8 5, .int .u8 8] 22) := ⟨_, rfl⟩
        rw [← hww6]
        have hbw6 : Below w5.heap.size w5 w6 := by rw [hww6]; exact bl_alloc _ _
        have HUw6 : Hid (SlU w6 (some ⟨w5.heap.size, 0, none⟩) [5, 8]) := by show SlU _ _ _; rw [hww6]; exact slu_new _ _ _ _ rfl
        have HBX := Lib.hid hbw6
        clear hww6
        have HBw6 := Lib.hid (HBw5.out.trans (hbw6.mono HBw5.out.size))
        have hSw6 : (fun (V : World) => V.cell? ⟨b0, 0, none⟩ = some (.slice p n c) ∧ V.cell? ⟨b0, 1, none⟩ = some (.slice pf n cf) ∧ V.cell? ⟨b0, 2, none⟩ = some (.slice pd n cd)) w6 := ⟨cell_below hS.1 hbw6, cell_below hS.2.1 hbw6, cell_below hS.2.2 hbw6⟩
        refine hK.out _ _ ⟨fun _ => hSw6, fun _ => hSw6⟩ ?_
        clear hK K hS hS2 hbw6
        have hS := hSw6
        have hS2 := hSw6
        clear hSw6
        try simp only [Act.put, sb0, sb1, sb2]
        refine anyL_one (i := 5) (o := ⟨some 10, Op.call { callee := Callee.value (.func 108), args := #[.tmp 6, .tmp 8, .tmp 9], argTypes := #[63, 141, 136] }, 4, "written.go:20", #[⟨1, .data⟩, ⟨3, .data⟩, ⟨4, .data⟩, ⟨3, .chain⟩], none⟩) (by kernel_rfl) rfl (fun K hK => ?_)
        go_simp
        refine (HUC.out w6 _ _ HBw6.out HUw6.out (HGw5.out.below HBX.out)).mono ?_
        rintro e w7 ⟨rfl, hbw7⟩
        have HBw7 := Lib.hid (HBw6.out.trans (hbw7.mono HBw6.out.size))
        have hSw7 : (fun (V : World) => V.cell? ⟨b0, 0, none⟩ = some (.slice p n c) ∧ V.cell? ⟨b0, 1, none⟩ = some (.slice pf n cf) ∧ V.cell? ⟨b0, 2, none⟩ = some (.slice pd n cd)) w7 := ⟨cell_below hS.1 hbw7, cell_below hS.2.1 hbw7, cell_below hS.2.2 hbw7⟩
        refine hK.out _ _ ⟨fun _ => hSw7, fun _ => hSw7⟩ ?_
        clear hK K hS hS2 hbw7
        have hS := hSw7
        have hS2 := hSw7
        clear hSw7
        try simp only [Act.put, sb0, sb1, sb2]
        refine anyL_take1 (i := 6) (oi := ⟨some 11, Op.move (.tmp 10), 4, "written.go:20", #[⟨5, .data⟩, ⟨5, .chain⟩], none⟩) (u := ?_) rfl (by kernel_rfl) (fun _ _ _ h => h) (Or.inl ⟨by kernel_rfl, ?_⟩) ⟨fun _ => hS, fun _ => hS2⟩ ?_
        rotate_left
        focus (intro w hSw; (try dsimp only at hSw); go_simp; with_reducible rfl)
        try simp only [Act.put, sb0, sb1, sb2]
        refine anyL_take1 (i := 7) (oi := ⟨some 12, Op.fieldAddr 67 (.tmp 2) 0, 0, "written.go:20", #[⟨6, .guard⟩], some (6, true)⟩) (u := ?_) rfl (by kernel_rfl) (fun _ _ _ h => h) (Or.inl ⟨by kernel_rfl, ?_⟩) ⟨fun _ => hS, fun _ => hS2⟩ ?_
        rotate_left
        focus (intro w hSw; (try dsimp only at hSw); go_simp; with_reducible rfl)
        try simp only [Act.put, sb0, sb1, sb2]
        refine anyL_take1 (i := 8) (oi := ⟨some 13, Op.load 63 (.tmp 12), 63, "written.go:20", #[⟨7, .data⟩, ⟨6, .guard⟩], some (6, true)⟩) (u := ?_) rfl (by kernel_rfl) (fun _ _ _ h => h) (Or.inl ⟨by kernel_rfl, ?_⟩) ⟨fun _ => hS, fun _ => hS2⟩ ?_
        rotate_left
        focus (intro w hSw; (try dsimp only at hSw); go_simp; with_reducible rfl)
        try simp only [Act.put, sb0, sb1, sb2]
        refine anyL_one (i := 9) (o := ⟨some 14, Op.buildSlice 136 1 #[(0, .const (.int .u8 7))], 136, "written.go:20", #[⟨6, .guard⟩], some (6, true)⟩) (by kernel_rfl) rfl (fun K hK => ?_)
        go_simp
        obtain ⟨w8, hww8⟩ : ∃ W, W = w7.alloc (.cells #[.int .u8 7] 22) := ⟨_, rfl⟩
        rw [← hww8]
        have hbw8 : Below w7.heap.size w7 w8 := by rw [hww8]; exact bl_alloc _ _
        have HUw8 : Hid (SlU w8 (some ⟨w7.heap.size, 0, none⟩) [7]) := by show SlU _ _ _; rw [hww8]; exact slu_new _ _ _ _ rfl
        clear hww8
        have HBw8 := Lib.hid (HBw7.out.trans (hbw8.mono HBw7.out.size))
        have hSw8 : (fun (V : World) => V.cell? ⟨b0, 0, none⟩ = some (.slice p n c) ∧ V.cell? ⟨b0, 1, none⟩ = some (.slice pf n cf) ∧ V.cell? ⟨b0, 2, none⟩ = some (.slice pd n cd)) w8 := ⟨cell_below hS.1 hbw8, cell_below hS.2.1 hbw8, cell_below hS.2.2 hbw8⟩
        refine hK.out _ _ ⟨fun _ => hSw8, fun _ => hSw8⟩ ?_
        clear hK K hS hS2 hbw8
        have hS := hSw8
        have hS2 := hSw8
        clear hSw8
        try simp only [Act.put, sb0, sb1, sb2]
        refine anyL_one (i := 10) (o := ⟨some 15, Op.call { callee := Callee.value (.func 108), args := #[.tmp 13, .func 112, .tmp 14], argTypes := #[63, 141, 136] }, 4, "written.go:20", #[⟨8, .data⟩, ⟨9, .data⟩, ⟨6, .chain⟩, ⟨6, .guard⟩], some (6, true)⟩) (by kernel_rfl) rfl (fun K hK => ?_)
        go_simp
        refine (HAC.out w8 _ HBw8.out HUw8.out).mono ?_
        rintro e w9 ⟨rfl, hbw9⟩
        have HBw9 := Lib.hid (HBw8.out.trans (hbw9.mono HBw8.out.size))
        have hSw9 : (fun (V : World) => V.cell? ⟨b0, 0, none⟩ = some (.slice p n c) ∧ V.cell? ⟨b0, 1, none⟩ = some (.slice pf n cf) ∧ V.cell? ⟨b0, 2, none⟩ = some (.slice pd n cd)) w9 := ⟨cell_below hS.1 hbw9, cell_below hS.2.1 hbw9, cell_below hS.2.2 hbw9⟩
        refine hK.out _ _ ⟨fun _ => hSw9, fun _ => hSw9⟩ ?_
        clear hK K hS hS2 hbw9
        have hS := hSw9
        have hS2 := hSw9
        clear hSw9
        try simp only [Act.put, sb0, sb1, sb2]
        refine anyL_take1 (i := 11) (oi := ⟨some 16, Op.pick (.tmp 11) (.tmp 15) (.const (Value.bool false)), 4, "written.go:20", #[⟨6, .data⟩, ⟨10, .data⟩], none⟩) (u := ?_) rfl (by kernel_rfl) (fun _ _ _ h => h) (Or.inl ⟨by kernel_rfl, ?_⟩) ⟨fun _ => hS, fun _ => hS2⟩ ?_
        rotate_left
        focus (intro w hSw; (try dsimp only at hSw); go_simp; with_reducible rfl)
        try simp only [Act.put, sb0, sb1, sb2]
        refine anyL_one (i := 12) (o := ⟨some 4, Op.assign (.tmp 16), 4, "written.go:20", #[⟨11, .data⟩, ⟨10, .chain⟩, ⟨0, .phase⟩, ⟨1, .phase⟩, ⟨2, .phase⟩, ⟨3, .phase⟩, ⟨4, .phase⟩, ⟨5, .phase⟩, ⟨6, .phase⟩, ⟨7, .phase⟩, ⟨8, .phase⟩, ⟨9, .phase⟩, ⟨10, .phase⟩, ⟨11, .phase⟩], none⟩) (by kernel_rfl) rfl (fun K hK => ?_)
        go_simp
        refine hK.out _ _ ⟨fun h => absurd h (by decide), fun h => absurd h (by decide)⟩ ?_
        clear hK K hS hS2
        try simp only [Act.put, sb0, sb1, sb2]
        refine anyL_done (by kernel_rfl) (show onlyN _ .normal _ _ from ?_) _
        dsimp only [onlyN]
        go_wp2
        go_ret
        exact ⟨by rw [HF.out]; rfl, HBL.out.trans (HBw9.out.mono HBL.out.size)⟩
      · skip
        go_simp
        obtain ⟨w5, hww5⟩ : ∃ W, W = W0.alloc (.cells #[.int .u8 5, .int .u8 8] 22) := ⟨_, rfl⟩
        rw [← hww5]
        have hbw5 : Below W0.heap.size W0 w5 := by rw [hww5]; exact bl_alloc _ _
        have HUw5 : Hid (SlU w5 (some ⟨W0.heap.size, 0, none⟩) [5, 8]) := by show SlU _ _ _; rw [hww5]; exact slu_new _ _ _ _ rfl
        clear hww5
        have HBw5 := Lib.hid (HBW0.out.trans (hbw5.mono HBW0.out.size))
        have hSw5 : (fun (V : World) => V.cell? ⟨b0, 0, none⟩ = some (.slice p n c) ∧ V.cell? ⟨b0, 1, none⟩ = some (.slice pf n cf) ∧ V.cell? ⟨b0, 2, none⟩ = some (.slice pd n cd)) w5 := ⟨cell_below hS.1 hbw5, cell_below hS.2.1 hbw5, cell_below hS.2.2 hbw5⟩
        refine hK.out _ _ ⟨fun _ => hSw5, fun _ => hSw5⟩ ?_
        clear hK K hS hS2 hbw5
        have hS := hSw5
        have hS2 := hSw5
        clear hSw5
        try simp only [Act.put, sb0, sb1, sb2]
        refine anyL_one (i := 3) (o := ⟨some 8, Op.call ⟨.value (.func 111), #[.tmp 7], #[3]⟩, 141, "written.go:20", #[⟨2, .data⟩], none⟩) (by kernel_rfl) rfl (fun K hK => ?_)
        go_simp
        refine (upTo_any nm w5).mono ?_
        rintro e w6 ⟨rfl, hww6⟩
        have hbw6 : Below w5.heap.size w5 w6 := by rw [hww6]; exact bl_alloc _ _
        have HGw6 : Hid (Bx w6 w5.heap.size 3 #[.int .i64 (nm : Nat)]) := by show Bx _ _ _ _; rw [hww6]; exact Bx.new _ _ _
        have HBX := Lib.hid hbw6
        clear hww6
        have HBw6 := Lib.hid (HBw5.out.trans (hbw6.mono HBw5.out.size))
        have hSw6 : (fun (V : World) => V.cell? ⟨b0, 0, none⟩ = some (.slice p n c) ∧ V.cell? ⟨b0, 1, none⟩ = some (.slice pf n cf) ∧ V.cell? ⟨b0, 2, none⟩ = some (.slice pd n cd)) w6 := ⟨cell_below hS.1 hbw6, cell_below hS.2.1 hbw6, cell_below hS.2.2 hbw6⟩
        refine hK.out _ _ ⟨fun _ => hSw6, fun _ => hSw6⟩ ?_
        clear hK K hS hS2 hbw6
        have hS := hSw6
        have hS2 := hSw6
        clear hSw6
        try simp only [Act.put, sb0, sb1, sb2]
        refine anyL_one (i := 5) (o := ⟨some 10, Op.call { callee := Callee.value (.func 108), args := #[.tmp 6, .tmp 8, .tmp 9], argTypes := #[63, 141, 136] }, 4, "written.go:20", #[⟨1, .data⟩, ⟨3, .data⟩, ⟨4, .data⟩, ⟨3, .chain⟩], none⟩) (by kernel_rfl) rfl (fun K hK => ?_)
        go_simp
        refine (HUC.out w6 _ _ HBw6.out (HUw5.out.below HBX.out) HGw6.out).mono ?_
        rintro e w7 ⟨rfl, hbw7⟩
        have HBw7 := Lib.hid (HBw6.out.trans (hbw7.mono HBw6.out.size))
        have hSw7 : (fun (V : World) => V.cell? ⟨b0, 0, none⟩ = some (.slice p n c) ∧ V.cell? ⟨b0, 1, none⟩ = some (.slice pf n cf) ∧ V.cell? ⟨b0, 2, none⟩ = some (.slice pd n cd)) w7 := ⟨cell_below hS.1 hbw7, cell_below hS.2.1 hbw7, cell_below hS.2.2 hbw7⟩
        refine hK.out _ _ ⟨fun _ => hSw7, fun _ => hSw7⟩ ?_
        clear hK K hS hS2 hbw7
        have hS := hSw7
        have hS2 := hSw7
        clear hSw7
        try simp only [Act.put, sb0, sb1, sb2]
        refine anyL_take1 (i := 6) (oi := ⟨some 11, Op.move (.tmp 10), 4, "written.go:20", #[⟨5, .data⟩, ⟨5, .chain⟩], none⟩) (u := ?_) rfl (by kernel_rfl) (fun _ _ _ h => h) (Or.inl ⟨by kernel_rfl, ?_⟩) ⟨fun _ => hS, fun _ => hS2⟩ ?_
        rotate_left
        focus (intro w hSw; (try dsimp only at hSw); go_simp; with_reducible rfl)
        try simp only [Act.put, sb0, sb1, sb2]
        refine anyL_take1 (i := 7) (oi := ⟨some 12, Op.fieldAddr 67 (.tmp 2) 0, 0, "written.go:20", #[⟨6, .guard⟩], some (6, true)⟩) (u := ?_) rfl (by kernel_rfl) (fun _ _ _ h => h) (Or.inl ⟨by kernel_rfl, ?_⟩) ⟨fun _ => hS, fun _ => hS2⟩ ?_
        rotate_left
        focus (intro w hSw; (try dsimp only at hSw); go_simp; with_reducible rfl)
        try simp only [Act.put, sb0, sb1, sb2]
        refine anyL_take1 (i := 8) (oi := ⟨some 13, Op.load 63 (.tmp 12), 63, "written.go:20", #[⟨7, .data⟩, ⟨6, .guard⟩], some (6, true)⟩) (u := ?_) rfl (by kernel_rfl) (fun _ _ _ h => h) (Or.inl ⟨by kernel_rfl, ?_⟩) ⟨fun _ => hS, fun _ => hS2⟩ ?_
        rotate_left
        focus (intro w hSw; (try dsimp only at hSw); go_simp; with_reducible rfl)
        try simp only [Act.put, sb0, sb1, sb2]
        refine anyL_one (i := 9) (o := ⟨some 14, Op.buildSlice 136 1 #[(0, .const (.int .u8 7))], 136, "written.go:20", #[⟨6, .guard⟩], some (6, true)⟩) (by kernel_rfl) rfl (fun K hK => ?_)
        go_simp
        obtain ⟨w8, hww8⟩ : ∃ W, W = w7.alloc (.cells #[.int .u8 7] 22) := ⟨_, rfl⟩
        rw [← hww8]
        have hbw8 : Below w7.heap.size w7 w8 := by rw [hww8]; exact bl_alloc _ _
        have HUw8 : Hid (SlU w8 (some ⟨w7.heap.size, 0, none⟩) [7]) := by show SlU _ _ _; rw [hww8]; exact slu_new _ _ _ _ rfl
        clear hww8
        have HBw8 := Lib.hid (HBw7.out.trans (hbw8.mono HBw7.out.size))
        have hSw8 : (fun (V : World) => V.cell? ⟨b0, 0, none⟩ = some (.slice p n c) ∧ V.cell? ⟨b0, 1, none⟩ = some (.slice pf n cf) ∧ V.cell? ⟨b0, 2, none⟩ = some (.slice pd n cd)) w8 := ⟨cell_below hS.1 hbw8, cell_below hS.2.1 hbw8, cell_below hS.2.2 hbw8⟩
        refine hK.out _ _ ⟨fun _ => hSw8, fun _ => hSw8⟩ ?_
        clear hK K hS hS2 hbw8
        have hS := hSw8
        have hS2 := hSw8
        clear hSw8
        try simp only [Act.put, sb0, sb1, sb2]
        refine anyL_one (i := 10) (o := ⟨some 15, Op.call { callee := Callee.value (.func 108), args := #[.tmp 13, .func 112, .tmp 14], argTypes := #[63, 141, 136] }, 4, "written.go:20", #[⟨8, .data⟩, ⟨9, .data⟩, ⟨6, .chain⟩, ⟨6, .guard⟩], some (6, true)⟩) (by kernel_rfl) rfl (fun K hK => ?_)
        go_simp
        refine (HAC.out w8 _ HBw8.out HUw8.out).mono ?_
        rintro e w9 ⟨rfl, hbw9⟩
        have HBw9 := Lib.hid (HBw8.out.trans (hbw9.mono HBw8.out.size))
        have hSw9 : (fun (V : World) => V.cell? ⟨b0, 0, none⟩ = some (.slice p n c) ∧ V.cell? ⟨b0, 1, none⟩ = some (.slice pf n cf) ∧ V.cell? ⟨b0, 2, none⟩ = some (.slice pd n cd)) w9 := ⟨cell_below hS.1 hbw9, cell_below hS.2.1 hbw9, cell_below hS.2.2 hbw9⟩
        refine hK.out _ _ ⟨fun _ => hSw9, fun _ => hSw9⟩ ?_
        clear hK K hS hS2 hbw9
        have hS := hSw9
        have hS2 := hSw9
        clear hSw9
        try simp only [Act.put, sb0, sb1, sb2]
        refine anyL_take1 (i := 11) (oi := ⟨some 16, Op.pick (.tmp 11) (.tmp 15) (.const (Value.bool false)), 4, "written.go:20", #[⟨6, .data⟩, ⟨10, .data⟩], none⟩) (u := ?_) rfl (by kernel_rfl) (fun _ _ _ h => h) (Or.inl ⟨by kernel_rfl, ?_⟩) ⟨fun _ => hS, fun _ => hS2⟩ ?_
        rotate_left
        focus (intro w hSw; (try dsimp only at hSw); go_simp; with_reducible rfl)
        try simp only [Act.put, sb0, sb1, sb2]
        refine anyL_one (i := 12) (o := ⟨some 4, Op.assign (.tmp 16), 4, "written.go:20", #[⟨11, .data⟩, ⟨10, .chain⟩, ⟨0, .phase⟩, ⟨1, .phase⟩, ⟨2, .phase⟩, ⟨3, .phase⟩, ⟨4, .phase⟩, ⟨5, .phase⟩, ⟨6, .phase⟩, ⟨7, .phase⟩, ⟨8, .phase⟩, ⟨9, .phase⟩, ⟨10, .phase⟩, ⟨11, .phase⟩], none⟩) (by kernel_rfl) rfl (fun K hK => ?_)
        go_simp
        refine hK.out _ _ ⟨fun h => absurd h (by decide), fun h => absurd h (by decide)⟩ ?_
        clear hK K hS hS2
        try simp only [Act.put, sb0, sb1, sb2]
        refine anyL_done (by kernel_rfl) (show onlyN _ .normal _ _ from ?_) _
        dsimp only [onlyN]
        go_wp2
        go_ret
        exact ⟨by rw [HF.out]; rfl, HBL.out.trans (HBw9.out.mono HBL.out.size)⟩
    | true =>
      have HF : Hid (spreadB xs l nm = true) := HV.out
      clear hbl hT hL hfs hds hn h1 h4 hl hW0 hb0
      have hS0 := hS
      clear hS
      go_enter Tryz.func62, Tryz.ntmps62
      go_wp2
      rw [← HW0.out.2]
      refine wp_region_L (S := fun (V : World) => V.cell? ⟨b0, 0, none⟩ = some (.slice p n c) ∧ V.cell? ⟨b0, 1, none⟩ = some (.slice pf n cf) ∧ V.cell? ⟨b0, 2, none⟩ = some (.slice pd n cd)) (S2 := fun (V : World) => V.cell? ⟨b0, 0, none⟩ = some (.slice p n c) ∧ V.cell? ⟨b0, 1, none⟩ = some (.slice pf n cf) ∧ V.cell? ⟨b0, 2, none⟩ = some (.slice pd n cd)) 12 12 (by kernel_rfl) ?_
      rw [show (w.alloc (.cells #[.slice p n c, .slice pf n cf, .slice pd n cd] 67)).drew = W0 from HW0.out.1.symm]
      have hS := hS0
      have hS2 := hS0
      clear hS0
      refine anyL_take1 (i := 0) (oi := ⟨some 5, Op.fieldAddr 67 (.tmp 2) 0, 0, "written.go:20", #[], none⟩) (u := ?_) rfl (by kernel_rfl) (fun _ _ _ h => h) (Or.inl ⟨by kernel_rfl, ?_⟩) ⟨fun _ => hS, fun _ => hS2⟩ ?_
      rotate_left
      focus (intro w hSw; (try dsimp only at hSw); go_simp; with_reducible rfl)
      try simp only [Act.put, sb0, sb1, sb2]
      refine anyL_take1 (i := 1) (oi := ⟨some 6, Op.load 63 (.tmp 5), 63, "written.go:20", #[⟨0, .data⟩], none⟩) (u := ?_) rfl (by kernel_rfl) (fun _ _ _ h => h) (Or.inl ⟨by kernel_rfl, ?_⟩) ⟨fun _ => hS, fun _ => hS2⟩ ?_
      rotate_left
      focus (intro w hSw; (try dsimp only at hSw); go_simp; with_reducible rfl)
      try simp only [Act.put, sb0, sb1, sb2]
      refine anyL_take1 (i := 2) (oi := ⟨some 7, Op.move (.tmp 1), 3, "written.go:20", #[], none⟩) (u := ?_) rfl (by kernel_rfl) (fun _ _ _ h => h) (Or.inl ⟨by kernel_rfl, ?_⟩) ⟨fun _ => hS, fun _ => hS2⟩ ?_
      rotate_left
      focus (intro w hSw; (try dsimp only at hSw); go_simp; with_reducible rfl)
      try simp only [Act.put, sb0, sb1, sb2]
      refine anyL_two (i := 3) (k := 4) (o := ⟨some 8, Op.call ⟨.value (.func 111), #[.tmp 7], #[3]⟩, 141, "written.go:20", #[⟨2, .data⟩], none⟩) (o' := ⟨some 9, Op.buildSlice 136 2 #[(0, .const (.int .u8 5)), (1, .const (.int .u8 8))], 136, "written.go:20", #[], none⟩) (by kernel_rfl) rfl rfl (fun K hK => ?_) (fun K hK => ?_)
      · skip
        go_simp
        refine (upTo_any nm W0).mono ?_
        rintro e w5 ⟨rfl, hww5⟩
        have hbw5 : Below W0.heap.size W0 w5 := by rw [hww5]; exact bl_alloc _ _
        have HGw5 : Hid (Bx w5 W0.heap.size 3 #[.int .i64 (nm : Nat)]) := by show Bx _ _ _ _; rw [hww5]; exact Bx.new _ _ _
        clear hww5
        have HBw5 := Lib.hid (HBW0.out.trans (hbw5.mono HBW0.out.size))
        have hSw5 : (fun (V : World) => V.cell? ⟨b0, 0, none⟩ = some (.slice p n c) ∧ V.cell? ⟨b0, 1, none⟩ = some (.slice pf n cf) ∧ V.cell? ⟨b0, 2, none⟩ = some (.slice pd n cd)) w5 := ⟨cell_below hS.1 hbw5, cell_below hS.2.1 hbw5, cell_below hS.2.2 hbw5⟩
        refine hK.out _ _ ⟨fun _ => hSw5, fun _ => hSw5⟩ ?_
        clear hK K hS hS2 hbw5
        have hS := hSw5
        have hS2 := hSw5
        clear hSw5
        try simp only [Act.put, sb0, sb1, sb2]
        refine anyL_one (i := 4) (o := ⟨some 9, Op.buildSlice 136 2 #[(0, .const (.int .u8 5)), (1, .const (.int .u8 8))], 136, "written.go:20", #[], none⟩) (by kernel_rfl) rfl (fun K hK => ?_)
        go_simp
        obtain ⟨w6, hww6⟩ : ∃ W, W = w5.alloc (.cells #[.int .u8 5, .int .u8 8] 22) := ⟨_, rfl⟩
        rw [← hww6]
        have hbw6 : Below w5.heap.size w5 w6 := by rw [hww6]; exact bl_alloc _ _
        have HUw6 : Hid (SlU w6 (some ⟨w5.heap.size, 0, none⟩) [5, 8]) := by show SlU _ _ _; rw [hww6]; exact slu_new _ _ _ _ rfl
        have HBX := Lib.hid hbw6
        clear hww6
        have HBw6 := Lib.hid (HBw5.out.trans (hbw6.mono HBw5.out.size))
        have hSw6 : (fun (V : World) => V.cell? ⟨b0, 0, none⟩ = some (.slice p n c) ∧ V.cell? ⟨b0, 1, none⟩ = some (.slice pf n cf) ∧ V.cell? ⟨b0, 2, none⟩ = some (.slice pd n cd)) w6 := ⟨cell_below hS.1 hbw6, cell_below hS.2.1 hbw6, cell_below hS.2.2 hbw6⟩
        refine hK.out _ _ ⟨fun _ => hSw6, fun _ => hSw6⟩ ?_
        clear hK K hS hS2 hbw6
        have hS := hSw6
        have hS2 := hSw6
        clear hSw6
        try simp only [Act.put, sb0, sb1, sb2]
        refine anyL_one (i := 5) (o := ⟨some 10, Op.call { callee := Callee.value (.func 108), args := #[.tmp 6, .tmp 8, .tmp 9], argTypes := #[63, 141, 136] }, 4, "written.go:20", #[⟨1, .data⟩, ⟨3, .data⟩, ⟨4, .data⟩, ⟨3, .chain⟩], none⟩) (by kernel_rfl) rfl (fun K hK => ?_)
        go_simp
        refine (HUC.out w6 _ _ HBw6.out HUw6.out (HGw5.out.below HBX.out)).mono ?_
        rintro e w7 ⟨rfl, hbw7⟩
        have HBw7 := Lib.hid (HBw6.out.trans (hbw7.mono HBw6.out.size))
        have hSw7 : (fun (V : World) => V.cell? ⟨b0, 0, none⟩ = some (.slice p n c) ∧ V.cell? ⟨b0, 1, none⟩ = some (.slice pf n cf) ∧ V.cell? ⟨b0, 2, none⟩ = some (.slice pd n cd)) w7 := ⟨cell_below hS.1 hbw7, cell_below hS.2.1 hbw7, cell_below hS.2.2 hbw7⟩
        refine hK.out _ _ ⟨fun _ => hSw7, fun _ => hSw7⟩ ?_
        clear hK K hS hS2 hbw7
        have hS := hSw7
        have hS2 := hSw7
        clear hSw7
        try simp only [Act.put, sb0, sb1, sb2]
        refine anyL_take1 (i := 6) (oi := ⟨some 11, Op.move (.tmp 10), 4, "written.go:20", #[⟨5, .data⟩, ⟨5, .chain⟩], none⟩) (u := ?_) rfl (by kernel_rfl) (fun _ _ _ h => h) (Or.inl ⟨by kernel_rfl, ?_⟩) ⟨fun _ => hS, fun _ => hS2⟩ ?_
        rotate_left
        focus (intro w hSw; (try dsimp only at hSw); go_simp; with_reducible rfl)
        try simp only [Act.put, sb0, sb1, sb2]
        refine anyL_take1 (i := 7) (oi := ⟨some 12, Op.fieldAddr 67 (.tmp 2) 0, 0, "written.go:20", #[⟨6, .guard⟩], some (6, true)⟩) (u := ?_) rfl (by kernel_rfl) (fun _ _ _ h => h) (Or.inl ⟨by kernel_rfl, ?_⟩) ⟨fun _ => hS, fun _ => hS2⟩ ?_
        rotate_left
        focus (intro w hSw; (try dsimp only at hSw); go_simp; with_reducible rfl)
        try simp only [Act.put, sb0, sb1, sb2]
        refine anyL_take1 (i := 8) (oi := ⟨some 13, Op.load 63 (.tmp 12), 63, "written.go:20", #[⟨7, .data⟩, ⟨6, .guard⟩], some (6, true)⟩) (u := ?_) rfl (by kernel_rfl) (fun _ _ _ h => h) (Or.inl ⟨by kernel_rfl, ?_⟩) ⟨fun _ => hS, fun _ => hS2⟩ ?_
        rotate_left
        focus (intro w hSw; (try dsimp only at hSw); go_simp; with_reducible rfl)
        try simp only [Act.put, sb0, sb1, sb2]
        refine anyL_one (i := 9) (o := ⟨some 14, Op.buildSlice 136 1 #[(0, .const (.int .u8 7))], 136, "written.go:20", #[⟨6, .guard⟩], some (6, true)⟩) (by kernel_rfl) rfl (fun K hK => ?_)
        go_simp
        obtain ⟨w8, hww8⟩ : ∃ W, W = w7.alloc (.cells #[.int .u8 7] 22) := ⟨_, rfl⟩
        rw [← hww8]
        have hbw8 : Below w7.heap.size w7 w8 := by rw [hww8]; exact bl_alloc _ _
        have HUw8 : Hid (SlU w8 (some ⟨w7.heap.size, 0, none⟩) [7]) := by show SlU _ _ _; rw [hww8]; exact slu_new _ _ _ _ rfl
        clear hww8
        have HBw8 := Lib.hid (HBw7.out.trans (hbw8.mono HBw7.out.size))
        have hSw8 : (fun (V : World) => V.cell? ⟨b0, 0, none⟩ = some (.slice p n c) ∧ V.cell? ⟨b0, 1, none⟩ = some (.slice pf n cf) ∧ V.cell? ⟨b0, 2, none⟩ = some (.slice pd n cd)) w8 := ⟨cell_below hS.1 hbw8, cell_below hS.2.1 hbw8, cell_below hS.2.2 hbw8⟩
        refine hK.out _ _ ⟨fun _ => hSw8, fun _ => hSw8⟩ ?_
        clear hK K hS hS2 hbw8
        have hS := hSw8
        have hS2 := hSw8
        clear hSw8
        try simp only [Act.put, sb0, sb1, sb2]
        refine anyL_one (i := 10) (o := ⟨some 15, Op.call { callee := Callee.value (.func 108), args := #[.tmp 13, .func 112, .tmp 14], argTypes := #[63, 141, 136] }, 4, "written.go:20", #[⟨8, .data⟩, ⟨9, .data⟩, ⟨6, .chain⟩, ⟨6, .guard⟩], some (6, true)⟩) (by kernel_rfl) rfl (fun K hK => ?_)
        go_simp
        refine (HAC.out w8 _ HBw8.out HUw8.out).mono ?_
        rintro e w9 ⟨rfl, hbw9⟩
        have HBw9 := Lib.hid (HBw8.out.trans (hbw9.mono HBw8.out.size))
        have hSw9 : (fun (V : World) => V.cell? ⟨b0, 0, none⟩ = some (.slice p n c) ∧ V.cell? ⟨b0, 1, none⟩ = some (.slice pf n cf) ∧ V.cell? ⟨b0, 2, none⟩ = some (.slice pd n cd)) w9 := ⟨cell_below hS.1 hbw9, cell_below hS.2.1 hbw9, cell_below hS.2.2 hbw9⟩
        refine hK.out _ _ ⟨fun _ => hSw9, fun _ => hSw9⟩ ?_
        clear hK K hS hS2 hbw9
        have hS := hSw9
        have hS2 := hSw9
        clear hSw9
        try simp only [Act.put, sb0, sb1, sb2]
        refine anyL_take1 (i := 11) (oi := ⟨some 16, Op.pick (.tmp 11) (.tmp 15) (.const (Value.bool false)), 4, "written.go:20", #[⟨6, .data⟩, ⟨10, .data⟩], none⟩) (u := ?_) rfl (by kernel_rfl) (fun _ _ _ h => h) (Or.inl ⟨by kernel_rfl, ?_⟩) ⟨fun _ => hS, fun _ => hS2⟩ ?_
        rotate_left
        focus (intro w hSw; (try dsimp only at hSw); go_simp; with_reducible rfl)
        try simp only [Act.put, sb0, sb1, sb2]
        refine anyL_one (i := 12) (o := ⟨some 4, Op.assign (.tmp 16), 4, "written.go:20", #[⟨11, .data⟩, ⟨10, .chain⟩, ⟨0, .phase⟩, ⟨1, .phase⟩, ⟨2, .phase⟩, ⟨3, .phase⟩, ⟨4, .phase⟩, ⟨5, .phase⟩, ⟨6, .phase⟩, ⟨7, .phase⟩, ⟨8, .phase⟩, ⟨9, .phase⟩, ⟨10, .phase⟩, ⟨11, .phase⟩], none⟩) (by kernel_rfl) rfl (fun K hK => ?_)
        go_simp
        refine hK.out _ _ ⟨fun h => absurd h (by decide), fun h => absurd h (by decide)⟩ ?_
        clear hK K hS hS2
        try simp only [Act.put, sb0, sb1, sb2]
        refine anyL_done (by kernel_rfl) (show onlyN _ .normal _ _ from ?_) _
        dsimp only [onlyN]
        go_wp2
        go_ret
        exact ⟨by rw [HF.out]; rfl, HBL.out.trans (HBw9.out.mono HBL.out.size)⟩
      · skip
        go_simp
        obtain ⟨w5, hww5⟩ : ∃ W, W = W0.alloc (.cells #[.int .u8 5, .int .u8 8] 22) := ⟨_, rfl⟩
        rw [← hww5]
        have hbw5 : Below W0.heap.size W0 w5 := by rw [hww5]; exact bl_alloc _ _
        have HUw5 : Hid (SlU w5 (some ⟨W0.heap.size, 0, none⟩) [5, 8]) := by show SlU _ _ _; rw [hww5]; exact slu_new _ _ _ _ rfl
        clear hww5
        have HBw5 := Lib.hid (HBW0.out.trans (hbw5.mono HBW0.out.size))
        have hSw5 : (fun (V : World) => V.cell? ⟨b0, 0, none⟩ = some (.slice p n c) ∧ V.cell? ⟨b0, 1, none⟩ = some (.slice pf n cf) ∧ V.cell? ⟨b0, 2, none⟩ = some (.slice pd n cd)) w5 := ⟨cell_below hS.1 hbw5, cell_below hS.2.1 hbw5, cell_below hS.2.2 hbw5⟩
        refine hK.out _ _ ⟨fun _ => hSw5, fun _ => hSw5⟩ ?_
        clear hK K hS hS2 hbw5
        have hS := hSw5
        have hS2 := hSw5
        clear hSw5
        try simp only [Act.put, sb0, sb1, sb2]
        refine anyL_one (i := 3) (o := ⟨some 8, Op.call ⟨.value (.func 111), #[.tmp 7], #[3]⟩, 141, "written.go:20", #[⟨2, .data⟩], none⟩) (by kernel_rfl) rfl (fun K hK => ?_)
        go_simp
        refine (upTo_any nm w5).mono ?_
        rintro e w6 ⟨rfl, hww6⟩
        have hbw6 : Below w5.heap.size w5 w6 := by rw [hww6]; exact bl_alloc _ _
        have HGw6 : Hid (Bx w6 w5.heap.size 3 #[.int .i64 (nm : Nat)]) := by show Bx _ _ _ _; rw [hww6]; exact Bx.new _ _ _
        have HBX := Lib.hid hbw6
        clear hww6
        have HBw6 := Lib.hid (HBw5.out.trans (hbw6.mono HBw5.out.size))
        have hSw6 : (fun (V : World) => V.cell? ⟨b0, 0, none⟩ = some (.slice p n c) ∧ V.cell? ⟨b0, 1, none⟩ = some (.slice pf n cf) ∧ V.cell? ⟨b0, 2, none⟩ = some (.slice pd n cd)) w6 := ⟨cell_below hS.1 hbw6, cell_below hS.2.1 hbw6, cell_below hS.2.2 hbw6⟩
        refine hK.out _ _ ⟨fun _ => hSw6, fun _ => hSw6⟩ ?_
        clear hK K hS hS2 hbw6
        have hS := hSw6
        have hS2 := hSw6
        clear hSw6
        try simp only [Act.put, sb0, sb1, sb2]
        refine anyL_one (i := 5) (o := ⟨some 10, Op.call { callee := Callee.value (.func 108), args := #[.tmp 6, .tmp 8, .tmp 9], argTypes := #[63, 141, 136] }, 4, "written.go:20", #[⟨1, .data⟩, ⟨3, .data⟩, ⟨4, .data⟩, ⟨3, .chain⟩], none⟩) (by kernel_rfl) rfl (fun K hK => ?_)
        go_simp
        refine (HUC.out w6 _ _ HBw6.out (HUw5.out.below HBX.out) HGw6.out).mono ?_
        rintro e w7 ⟨rfl, hbw7⟩
        have HBw7 := Lib.hid (HBw6.out.trans (hbw7.mono HBw6.out.size))
        have hSw7 : (fun (V : World) => V.cell? ⟨b0, 0, none⟩ = some (.slice p n c) ∧ V.cell? ⟨b0, 1, none⟩ = some (.slice pf n cf) ∧ V.cell? ⟨b0, 2, none⟩ = some (.slice pd n cd)) w7 := ⟨cell_below hS.1 hbw7, cell_below hS.2.1 hbw7, cell_below hS.2.2 hbw7⟩
        refine hK.out _ _ ⟨fun _ => hSw7, fun _ => hSw7⟩ ?_
        clear hK K hS hS2 hbw7
        have hS := hSw7
        have hS2 := hSw7
        clear hSw7
        try simp only [Act.put, sb0, sb1, sb2]
        refine anyL_take1 (i := 6) (oi := ⟨some 11, Op.move (.tmp 10), 4, "written.go:20", #[⟨5, .data⟩, ⟨5, .chain⟩], none⟩) (u := ?_) rfl (by kernel_rfl) (fun _ _ _ h => h) (Or.inl ⟨by kernel_rfl, ?_⟩) ⟨fun _ => hS, fun _ => hS2⟩ ?_
        rotate_left
        focus (intro w hSw; (try dsimp only at hSw); go_simp; with_reducible rfl)
        try simp only [Act.put, sb0, sb1, sb2]
        refine anyL_take1 (i := 7) (oi := ⟨some 12, Op.fieldAddr 67 (.tmp 2) 0, 0, "written.go:20", #[⟨6, .guard⟩], some (6, true)⟩) (u := ?_) rfl (by kernel_rfl) (fun _ _ _ h => h) (Or.inl ⟨by kernel_rfl, ?_⟩) ⟨fun _ => hS, fun _ => hS2⟩ ?_
        rotate_left
        focus (intro w hSw; (try dsimp only at hSw); go_simp; with_reducible rfl)
        try simp only [Act.put, sb0, sb1, sb2]
        refine anyL_take1 (i := 8) (oi := ⟨some 13, Op.load 63 (.tmp 12), 63, "written.go:20", #[⟨7, .data⟩, ⟨6, .guard⟩], some (6, true)⟩) (u := ?_) rfl (by kernel_rfl) (fun _ _ _ h => h) (Or.inl ⟨by kernel_rfl, ?_⟩) ⟨fun _ => hS, fun _ => hS2⟩ ?_
        rotate_left
        focus (intro w hSw; (try dsimp only at hSw); go_simp; with_reducible rfl)
        try simp only [Act.put, sb0, sb1, sb2]
        refine anyL_one (i := 9) (o := ⟨some 14, Op.buildSlice 136 1 #[(0, .const (.int .u8 7))], 136, "written.go:20", #[⟨6, .guard⟩], some (6, true)⟩) (by kernel_rfl) rfl (fun K hK => ?_)
        go_simp
        obtain ⟨w8, hww8⟩ : ∃ W, W = w7.alloc (.cells #[.int .u8 7] 22) := ⟨_, rfl⟩
        rw [← hww8]
        have hbw8 : Below w7.heap.size w7 w8 := by rw [hww8]; exact bl_alloc _ _
        have HUw8 : Hid (SlU w8 (some ⟨w7.heap.size, 0, none⟩) [7]) := by show SlU _ _ _; rw [hww8]; exact slu_new _ _ _ _ rfl
        clear hww8
        have HBw8 := Lib.hid (HBw7.out.trans (hbw8.mono HBw7.out.size))
        have hSw8 : (fun (V : World) => V.cell? ⟨b0, 0, none⟩ = some (.slice p n c) ∧ V.cell? ⟨b0, 1, none⟩ = some (.slice pf n cf) ∧ V.cell? ⟨b0, 2, none⟩ = some (.slice pd n cd)) w8 := ⟨cell_below hS.1 hbw8, cell_below hS.2.1 hbw8, cell_below hS.2.2 hbw8⟩
        refine hK.out _ _ ⟨fun _ => hSw8, fun _ => hSw8⟩ ?_
        clear hK K hS hS2 hbw8
        have hS := hSw8
        have hS2 := hSw8
        clear hSw8
        try simp only [Act.put, sb0, sb1, sb2]
        refine anyL_one (i := 10) (o := ⟨some 15, Op.call { callee := Callee.value (.func 108), args := #[.tmp 13, .func 112, .tmp 14], argTypes := #[63, 141, 136] }, 4, "written.go:20", #[⟨8, .data⟩, ⟨9, .data⟩, ⟨6, .chain⟩, ⟨6, .guard⟩], some (6, true)⟩) (by kernel_rfl) rfl (fun K hK => ?_)
        go_simp
        refine (HAC.out w8 _ HBw8.out HUw8.out).mono ?_
        rintro e w9 ⟨rfl, hbw9⟩
        have HBw9 := Lib.hid (HBw8.out.trans (hbw9.mono HBw8.out.size))
        have hSw9 : (fun (V : World) => V.cell? ⟨b0, 0, none⟩ = some (.slice p n c) ∧ V.cell? ⟨b0, 1, none⟩ = some (.slice pf n cf) ∧ V.cell? ⟨b0, 2, none⟩ = some (.slice pd n cd)) w9 := ⟨cell_below hS.1 hbw9, cell_below hS.2.1 hbw9, cell_below hS.2.2 hbw9⟩
        refine hK.out _ _ ⟨fun _ => hSw9, fun _ => hSw9⟩ ?_
        clear hK K hS hS2 hbw9
        have hS := hSw9
        have hS2 := hSw9
        clear hSw9
        try simp only [Act.put, sb0, sb1, sb2]
        refine anyL_take1 (i := 11) (oi := ⟨some 16, Op.pick (.tmp 11) (.tmp 15) (.const (Value.bool false)), 4, "written.go:20", #[⟨6, .data⟩, ⟨10, .data⟩], none⟩) (u := ?_) rfl (by kernel_rfl) (fun _ _ _ h => h) (Or.inl ⟨by kernel_rfl, ?_⟩) ⟨fun _ => hS, fun _ => hS2⟩ ?_
        rotate_left
        focus (intro w hSw; (try dsimp only at hSw); go_simp; with_reducible rfl)
        try simp only [Act.put, sb0, sb1, sb2]
        refine anyL_one (i := 12) (o := ⟨some 4, Op.assign (.tmp 16), 4, "written.go:20", #[⟨11, .data⟩, ⟨10, .chain⟩, ⟨0, .phase⟩, ⟨1, .phase⟩, ⟨2, .phase⟩, ⟨3, .phase⟩, ⟨4, .phase⟩, ⟨5, .phase⟩, ⟨6, .phase⟩, ⟨7, .phase⟩, ⟨8, .phase⟩, ⟨9, .phase⟩, ⟨10, .phase⟩, ⟨11, .phase⟩], none⟩) (by kernel_rfl) rfl (fun K hK => ?_)
        go_simp
        refine hK.out _ _ ⟨fun h => absurd h (by decide), fun h => absurd h (by decide)⟩ ?_
        clear hK K hS hS2
        try simp only [Act.put, sb0, sb1, sb2]
        refine anyL_done (by kernel_rfl) (show onlyN _ .normal _ _ from ?_) _
        dsimp only [onlyN]
        go_wp2
        go_ret
        exact ⟨by rw [HF.out]; rfl, HBL.out.trans (HBw9.out.mono HBL.out.size)⟩
end Go.Proofs.YtjpccmiaimkmbaaGreat
