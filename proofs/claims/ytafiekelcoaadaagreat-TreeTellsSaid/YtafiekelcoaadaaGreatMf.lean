/- The walk of spread: a drawn region of guarded calls. -/
import Derived.Test.YtafiekelcoaadaaGreatMe

namespace Go.Proofs.YtafiekelcoaadaaGreat
open Go.RowKit Tnr Tnt

def spreadB (xs : List NV) (_ : List (Nat × Nat)) (nm : Nat) : Bool := allB (upToB nm) xs [5, 8] && allB endlessB xs [7]
set_option maxHeartbeats 6400000 in
set_option maxRecDepth 100000 in
theorem spread_any (p : Option Addr) (n c : Nat) (xs : List NV) (pf pd : Option Addr) (cf cd nm : Nat) (l : List (Nat × Nat)) (B : Nat) (w : World) (hn : n = xs.length) (h1 : 1 ≤ n) (h4 : n ≤ 4000) (hl : n = l.length) (hL : SlN w p xs) (hfs : OwnZ w B (.slice pf n cf) (fsZ l)) (hds : OwnZ w B (.slice pd n cd) (dsZ l)) :
    Calls Tryz.prog 48 #[.agg #[.slice p n c, .slice pf n cf, .slice pd n cd], .int .i64 (nm : Nat)] w fun e w' => e = .returned (.bool (spreadB xs l nm)) ∧ Below w.heap.size w w' := by
  obtain ⟨W0, hW0⟩ : ∃ W, W = (w.alloc (.cells #[.slice p n c, .slice pf n cf, .slice pd n cd] 68)).drew := ⟨_, rfl⟩
  obtain ⟨b0, hb0⟩ : ∃ b, b = w.heap.size := ⟨_, rfl⟩
  have hbl : Below w.heap.size w W0 := by rw [hW0]; exact (bl_alloc _ _).drew
  have hT : Bx W0 b0 68 #[.slice p n c, .slice pf n cf, .slice pd n cd] := by rw [hW0, hb0]; exact Bx.new w _ _
  have hS : (fun (V : World) => V.cell? ⟨b0, 0, none⟩ = some (.slice p n c) ∧ V.cell? ⟨b0, 1, none⟩ = some (.slice pf n cf) ∧ V.cell? ⟨b0, 2, none⟩ = some (.slice pd n cd)) W0 := ⟨hT.cell rfl, hT.cell rfl, hT.cell rfl⟩
  have HBL := Lib.hid hbl
  have HBW0 : Hid (Below W0.heap.size W0 W0) := Below.refl _ _
  have HL := Lib.hid (hL.below hbl)
  have HOF := Lib.hid (And.intro (ownZ_below hfs hbl) (ownZ_below hds hbl))
  have HN := Lib.hid (And.intro hn (And.intro h1 (And.intro h4 hl)))
  have HW0 := Lib.hid (And.intro hW0 hb0)
  obtain ⟨ub, hub⟩ : ∃ b : Bool, b = allB (upToB nm) xs [5, 8] := ⟨_, rfl⟩
  obtain ⟨eb, heb⟩ : ∃ b : Bool, b = allB endlessB xs [7] := ⟨_, rfl⟩
  have HV : Hid (spreadB xs l nm = (ub && eb)) := by show _ = _; unfold spreadB; rw [← hub, ← heb]
  have HAC : Hid (∀ V q, Below W0.heap.size W0 V → SlU V (some ⟨q, 0, none⟩) [7] → Calls Tryz.prog 78 #[.slice p n c, .func (.func 84) #[] #[], .slice (some ⟨q, 0, none⟩) 1 1] V fun e w' => e = .returned (.bool eb) ∧ Below V.heap.size V w') := fun V q hV hU => by
    rw [heb]; exact allEndless_any p n c xs (some ⟨q, 0, none⟩) 1 1 [7] V hn (by omega) rfl (by omega) (HL.out.below hV) hU
  have HUC : Hid (∀ V q g, Below W0.heap.size W0 V → SlU V (some ⟨q, 0, none⟩) [5, 8] → Bx V g 3 #[.int .i64 (nm : Nat)] → Calls Tryz.prog 78 #[.slice p n c, .func (.func 125) #[] #[.pointer (some ⟨g, 0, none⟩)], .slice (some ⟨q, 0, none⟩) 2 2] V fun e w' => e = .returned (.bool ub) ∧ Below V.heap.size V w') := fun V q g hV hU hG => by
    rw [hub]; exact allUpTo_any nm g p n c xs (some ⟨q, 0, none⟩) 2 2 [5, 8] V hn (by omega) rfl (by omega) hG (HL.out.below hV) hU
  clear heb hub
  cases ub with
  | false =>
    have HF : Hid (spreadB xs l nm = false) := HV.out
    clear hbl hT hL hfs hds hn h1 h4 hl hW0 hb0
    have hS0 := hS
    clear hS
    go_enter Tryz.func48, Tryz.ntmps48
    go_wp2
    rw [← HW0.out.2]
    refine wp_region_L (S := fun (V : World) => V.cell? ⟨b0, 0, none⟩ = some (.slice p n c) ∧ V.cell? ⟨b0, 1, none⟩ = some (.slice pf n cf) ∧ V.cell? ⟨b0, 2, none⟩ = some (.slice pd n cd)) (S2 := fun (V : World) => V.cell? ⟨b0, 0, none⟩ = some (.slice p n c) ∧ V.cell? ⟨b0, 1, none⟩ = some (.slice pf n cf) ∧ V.cell? ⟨b0, 2, none⟩ = some (.slice pd n cd)) 12 12 (by kernel_rfl) ?_
    rw [show (w.alloc (.cells #[.slice p n c, .slice pf n cf, .slice pd n cd] 68)).drew = W0 from HW0.out.1.symm]
    have hS := hS0
    have hS2 := hS0
    clear hS0
    refine anyL_take1 (i := 0) (oi := { dst := some 5, op := Op.fieldAddr 68 (Operand.tmp 2) 0, type := 0, pos := "written.go:20", after := #[], guard := none }) (u := ?_) rfl (by kernel_rfl) (fun _ _ _ h => h) (Or.inl ⟨by kernel_rfl, ?_⟩) ⟨fun _ => hS, fun _ => hS2⟩ ?_
    rotate_left
    focus (intro w hSw; (try dsimp only at hSw); go_simp; with_reducible rfl)
    try simp only [Act.put, List.setIfInBounds_toArray, List.set_cons_zero, List.set_cons_succ]
    refine anyL_take1 (i := 1) (oi := { dst := some 6, op := Op.load 64 (Operand.tmp 5), type := 64, pos := "written.go:20", after := #[{ on := 0, ground := Ground.data }], guard := none }) (u := ?_) rfl (by kernel_rfl) (fun _ _ _ h => h) (Or.inl ⟨by kernel_rfl, ?_⟩) ⟨fun _ => hS, fun _ => hS2⟩ ?_
    rotate_left
    focus (intro w hSw; (try dsimp only at hSw); go_simp; with_reducible rfl)
    try simp only [Act.put, List.setIfInBounds_toArray, List.set_cons_zero, List.set_cons_succ]
    refine anyL_take1 (i := 2) (oi := { dst := some 7, op := Op.move (Operand.tmp 1), type := 3, pos := "written.go:20", after := #[], guard := none }) (u := ?_) rfl (by kernel_rfl) (fun _ _ _ h => h) (Or.inl ⟨by kernel_rfl, ?_⟩) ⟨fun _ => hS, fun _ => hS2⟩ ?_
    rotate_left
    focus (intro w hSw; (try dsimp only at hSw); go_simp; with_reducible rfl)
    try simp only [Act.put, List.setIfInBounds_toArray, List.set_cons_zero, List.set_cons_succ]
    refine anyL_two (i := 3) (k := 4) (o := { dst := some 8, op := Op.call { callee := Callee.value (Operand.func 81), args := #[Operand.tmp 7], argTypes := #[3] }, type := 118, pos := "written.go:20", after := #[{ on := 2, ground := Ground.data }], guard := none }) (o' := { dst := some 9, op := Op.buildSlice 113 2 #[(0, Operand.const (Value.int IntKind.u8 5)), (1, Operand.const (Value.int IntKind.u8 8))], type := 113, pos := "written.go:20", after := #[], guard := none }) (by kernel_rfl) rfl rfl (fun K hK => ?_) (fun K hK => ?_)
    · skip
      go_simp
      refine (upTo_any nm W0).mono ?_
      rintro e w5 ⟨rfl, hww5⟩
      have hbw5 : Below W0.heap.size W0 w5 := by rw [hww5]; exact bl_alloc _ _
      have HGw5 : Hid (Bx w5 W0.heap.size 3 #[.int .i64 (nm : Nat)]) := by show Bx _ _ _ _; rw [hww5]; exact Bx.new _ _ _
      clear hww5
      have HBw5 := Lib.hid (HBW0.out.trans (hbw5.mono HBW0.out.size))
      have hSw5 : (fun (V : World) => V.cell? ⟨b0, 0, none⟩ = some (.slice p n c) ∧ V.cell? ⟨b0, 1, none⟩ = some (.slice pf n cf) ∧ V.cell? ⟨b0, 2, none⟩ = some (.slice pd n cd)) w5 := ⟨cell_below hS.1 hbw5, cell_below hS.2.1 hbw5, cell_below hS.2.2 hbw5⟩
      refine hK.out _ _ ⟨fun _ => hSw5, fun _ => hSw5⟩ ?_
      clear hK K hS hS2 hbw5
      have hS := hSw5
      have hS2 := hSw5
      clear hSw5
      try simp only [Act.put, List.setIfInBounds_toArray, List.set_cons_zero, List.set_cons_succ]
      refine anyL_one (i := 4) (o := { dst := some 9, op := Op.buildSlice 113 2 #[(0, Operand.const (Value.int IntKind.u8 5)), (1, Operand.const (Value.int IntKind.u8 8))], type := 113, pos := "written.go:20", after := #[], guard := none }) (by kernel_rfl) rfl (fun K hK => ?_)
      go_simp
      obtain ⟨w6, hww6⟩ : ∃ W, W = w5.alloc (.cells #[.int .u8 5, .int .u8 8] 34) := ⟨_, rfl⟩
      rw [← hww6]
      have hbw6 : Below w5.heap.size w5 w6 := by rw [hww6]; exact bl_alloc _ _
      have HUw6 : Hid (SlU w6 (some ⟨w5.heap.size, 0, none⟩) [5, 8]) := by show SlU _ _ _; rw [hww6]; exact slu_new _ _ _ _ rfl
      have HBX := Lib.hid hbw6
      clear hww6
      have HBw6 := Lib.hid (HBw5.out.trans (hbw6.mono HBw5.out.size))
      have hSw6 : (fun (V : World) => V.cell? ⟨b0, 0, none⟩ = some (.slice p n c) ∧ V.cell? ⟨b0, 1, none⟩ = some (.slice pf n cf) ∧ V.cell? ⟨b0, 2, none⟩ = some (.slice pd n cd)) w6 := ⟨cell_below hS.1 hbw6, cell_below hS.2.1 hbw6, cell_below hS.2.2 hbw6⟩
      refine hK.out _ _ ⟨fun _ => hSw6, fun _ => hSw6⟩ ?_
      clear hK K hS hS2 hbw6
      have hS := hSw6
      have hS2 := hSw6
      clear hSw6
      try simp only [Act.put, List.setIfInBounds_toArray, List.set_cons_zero, List.set_cons_succ]
      refine anyL_one (i := 5) (o := { dst := some 10, op := Op.call { callee := Callee.value (Operand.func 78), args := #[Operand.tmp 6, Operand.tmp 8, Operand.tmp 9], argTypes := #[64, 118, 113] }, type := 4, pos := "written.go:20", after := #[{ on := 1, ground := Ground.data }, { on := 3, ground := Ground.data }, { on := 4, ground := Ground.data }, { on := 3, ground := Ground.chain }], guard := none }) (by kernel_rfl) rfl (fun K hK => ?_)
      go_simp
      refine (HUC.out w6 _ _ HBw6.out HUw6.out (HGw5.out.below HBX.out)).mono ?_
      rintro e w7 ⟨rfl, hbw7⟩
      have HBw7 := Lib.hid (HBw6.out.trans (hbw7.mono HBw6.out.size))
      have hSw7 : (fun (V : World) => V.cell? ⟨b0, 0, none⟩ = some (.slice p n c) ∧ V.cell? ⟨b0, 1, none⟩ = some (.slice pf n cf) ∧ V.cell? ⟨b0, 2, none⟩ = some (.slice pd n cd)) w7 := ⟨cell_below hS.1 hbw7, cell_below hS.2.1 hbw7, cell_below hS.2.2 hbw7⟩
      refine hK.out _ _ ⟨fun _ => hSw7, fun _ => hSw7⟩ ?_
      clear hK K hS hS2 hbw7
      have hS := hSw7
      have hS2 := hSw7
      clear hSw7
      try simp only [Act.put, List.setIfInBounds_toArray, List.set_cons_zero, List.set_cons_succ]
      refine anyL_take1 (i := 6) (oi := { dst := some 11, op := Op.move (Operand.tmp 10), type := 4, pos := "written.go:20", after := #[{ on := 5, ground := Ground.data }, { on := 5, ground := Ground.chain }], guard := none }) (u := ?_) rfl (by kernel_rfl) (fun _ _ _ h => h) (Or.inl ⟨by kernel_rfl, ?_⟩) ⟨fun _ => hS, fun _ => hS2⟩ ?_
      rotate_left
      focus (intro w hSw; (try dsimp only at hSw); go_simp; with_reducible rfl)
      try simp only [Act.put, List.setIfInBounds_toArray, List.set_cons_zero, List.set_cons_succ]
      refine anyL_take1 (i := 7) (oi := { dst := some 12, op := Op.fieldAddr 68 (Operand.tmp 2) 0, type := 0, pos := "written.go:20", after := #[{ on := 6, ground := Ground.guard }], guard := some (6, true) }) (u := undef) rfl (by kernel_rfl) (fun _ _ _ h => h) (Or.inr ⟨?_, rfl⟩) ⟨fun _ => ?_, fun _ => ?_⟩ ?_
      rotate_left 3
      try simp only [Act.put, List.setIfInBounds_toArray, List.set_cons_zero, List.set_cons_succ]
      rotate_left 1
      focus kernel_rfl
      focus exact hS
      focus exact hS2
      refine anyL_take1 (i := 8) (oi := { dst := some 13, op := Op.load 64 (Operand.tmp 12), type := 64, pos := "written.go:20", after := #[{ on := 7, ground := Ground.data }, { on := 6, ground := Ground.guard }], guard := some (6, true) }) (u := undef) rfl (by kernel_rfl) (fun _ _ _ h => h) (Or.inr ⟨?_, rfl⟩) ⟨fun _ => ?_, fun _ => ?_⟩ ?_
      rotate_left 3
      try simp only [Act.put, List.setIfInBounds_toArray, List.set_cons_zero, List.set_cons_succ]
      rotate_left 1
      focus kernel_rfl
      focus exact hS
      focus exact hS2
      refine anyL_take1 (i := 9) (oi := { dst := some 14, op := Op.buildSlice 113 1 #[(0, Operand.const (Value.int IntKind.u8 7))], type := 113, pos := "written.go:20", after := #[{ on := 6, ground := Ground.guard }], guard := some (6, true) }) (u := undef) rfl (by kernel_rfl) (fun _ _ _ h => h) (Or.inr ⟨?_, rfl⟩) ⟨fun _ => ?_, fun _ => ?_⟩ ?_
      rotate_left 3
      try simp only [Act.put, List.setIfInBounds_toArray, List.set_cons_zero, List.set_cons_succ]
      rotate_left 1
      focus kernel_rfl
      focus exact hS
      focus exact hS2
      refine anyL_take1 (i := 10) (oi := { dst := some 15, op := Op.call { callee := Callee.value (Operand.func 78), args := #[Operand.tmp 13, Operand.func 84, Operand.tmp 14], argTypes := #[64, 118, 113] }, type := 4, pos := "written.go:20", after := #[{ on := 8, ground := Ground.data }, { on := 9, ground := Ground.data }, { on := 6, ground := Ground.chain }, { on := 6, ground := Ground.guard }], guard := some (6, true) }) (u := undef) rfl (by kernel_rfl) (fun _ _ _ h => h) (Or.inr ⟨?_, rfl⟩) ⟨fun _ => ?_, fun _ => ?_⟩ ?_
      rotate_left 3
      try simp only [Act.put, List.setIfInBounds_toArray, List.set_cons_zero, List.set_cons_succ]
      rotate_left 1
      focus kernel_rfl
      focus exact hS
      focus exact hS2
      refine anyL_take1 (i := 11) (oi := { dst := some 16, op := Op.pick (Operand.tmp 11) (Operand.tmp 15) (Operand.const (Value.bool false)), type := 4, pos := "written.go:20", after := #[{ on := 6, ground := Ground.data }, { on := 10, ground := Ground.data }], guard := none }) (u := ?_) rfl (by kernel_rfl) (fun _ _ _ h => h) (Or.inl ⟨by kernel_rfl, ?_⟩) ⟨fun _ => hS, fun _ => hS2⟩ ?_
      rotate_left
      focus (intro w hSw; (try dsimp only at hSw); go_simp; with_reducible rfl)
      try simp only [Act.put, List.setIfInBounds_toArray, List.set_cons_zero, List.set_cons_succ]
      refine anyL_one (i := 12) (o := { dst := some 4, op := Op.assign (Operand.tmp 16), type := 4, pos := "written.go:20", after := #[{ on := 11, ground := Ground.data }, { on := 10, ground := Ground.chain }, { on := 0, ground := Ground.phase }, { on := 1, ground := Ground.phase }, { on := 2, ground := Ground.phase }, { on := 3, ground := Ground.phase }, { on := 4, ground := Ground.phase }, { on := 5, ground := Ground.phase }, { on := 6, ground := Ground.phase }, { on := 7, ground := Ground.phase }, { on := 8, ground := Ground.phase }, { on := 9, ground := Ground.phase }, { on := 10, ground := Ground.phase }, { on := 11, ground := Ground.phase }], guard := none }) (by kernel_rfl) rfl (fun K hK => ?_)
      go_simp
      refine hK.out _ _ ⟨fun h => absurd h (by decide), fun h => absurd h (by decide)⟩ ?_
      clear hK K hS hS2
      try simp only [Act.put, List.setIfInBounds_toArray, List.set_cons_zero, List.set_cons_succ]
      refine anyL_done (by kernel_rfl) (show onlyN _ .normal _ _ from ?_) _
      dsimp only [onlyN]
      go_wp2
      go_ret
      exact ⟨by rw [HF.out]; rfl, HBL.out.trans (HBw7.out.mono HBL.out.size)⟩
    · skip
      go_simp
      obtain ⟨w5, hww5⟩ : ∃ W, W = W0.alloc (.cells #[.int .u8 5, .int .u8 8] 34) := ⟨_, rfl⟩
      rw [← hww5]
      have hbw5 : Below W0.heap.size W0 w5 := by rw [hww5]; exact bl_alloc _ _
      have HUw5 : Hid (SlU w5 (some ⟨W0.heap.size, 0, none⟩) [5, 8]) := by show SlU _ _ _; rw [hww5]; exact slu_new _ _ _ _ rfl
      clear hww5
      have HBw5 := Lib.hid (HBW0.out.trans (hbw5.mono HBW0.out.size))
      have hSw5 : (fun (V : World) => V.cell? ⟨b0, 0, none⟩ = some (.slice p n c) ∧ V.cell? ⟨b0, 1, none⟩ = some (.slice pf n cf) ∧ V.cell? ⟨b0, 2, none⟩ = some (.slice pd n cd)) w5 := ⟨cell_below hS.1 hbw5, cell_below hS.2.1 hbw5, cell_below hS.2.2 hbw5⟩
      refine hK.out _ _ ⟨fun _ => hSw5, fun _ => hSw5⟩ ?_
      clear hK K hS hS2 hbw5
      have hS := hSw5
      have hS2 := hSw5
      clear hSw5
      try simp only [Act.put, List.setIfInBounds_toArray, List.set_cons_zero, List.set_cons_succ]
      refine anyL_one (i := 3) (o := { dst := some 8, op := Op.call { callee := Callee.value (Operand.func 81), args := #[Operand.tmp 7], argTypes := #[3] }, type := 118, pos := "written.go:20", after := #[{ on := 2, ground := Ground.data }], guard := none }) (by kernel_rfl) rfl (fun K hK => ?_)
      go_simp
      refine (upTo_any nm w5).mono ?_
      rintro e w6 ⟨rfl, hww6⟩
      have hbw6 : Below w5.heap.size w5 w6 := by rw [hww6]; exact bl_alloc _ _
      have HGw6 : Hid (Bx w6 w5.heap.size 3 #[.int .i64 (nm : Nat)]) := by show Bx _ _ _ _; rw [hww6]; exact Bx.new _ _ _
      have HBX := Lib.hid hbw6
      clear hww6
      have HBw6 := Lib.hid (HBw5.out.trans (hbw6.mono HBw5.out.size))
      have hSw6 : (fun (V : World) => V.cell? ⟨b0, 0, none⟩ = some (.slice p n c) ∧ V.cell? ⟨b0, 1, none⟩ = some (.slice pf n cf) ∧ V.cell? ⟨b0, 2, none⟩ = some (.slice pd n cd)) w6 := ⟨cell_below hS.1 hbw6, cell_below hS.2.1 hbw6, cell_below hS.2.2 hbw6⟩
      refine hK.out _ _ ⟨fun _ => hSw6, fun _ => hSw6⟩ ?_
      clear hK K hS hS2 hbw6
      have hS := hSw6
      have hS2 := hSw6
      clear hSw6
      try simp only [Act.put, List.setIfInBounds_toArray, List.set_cons_zero, List.set_cons_succ]
      refine anyL_one (i := 5) (o := { dst := some 10, op := Op.call { callee := Callee.value (Operand.func 78), args := #[Operand.tmp 6, Operand.tmp 8, Operand.tmp 9], argTypes := #[64, 118, 113] }, type := 4, pos := "written.go:20", after := #[{ on := 1, ground := Ground.data }, { on := 3, ground := Ground.data }, { on := 4, ground := Ground.data }, { on := 3, ground := Ground.chain }], guard := none }) (by kernel_rfl) rfl (fun K hK => ?_)
      go_simp
      refine (HUC.out w6 _ _ HBw6.out (HUw5.out.below HBX.out) HGw6.out).mono ?_
      rintro e w7 ⟨rfl, hbw7⟩
      have HBw7 := Lib.hid (HBw6.out.trans (hbw7.mono HBw6.out.size))
      have hSw7 : (fun (V : World) => V.cell? ⟨b0, 0, none⟩ = some (.slice p n c) ∧ V.cell? ⟨b0, 1, none⟩ = some (.slice pf n cf) ∧ V.cell? ⟨b0, 2, none⟩ = some (.slice pd n cd)) w7 := ⟨cell_below hS.1 hbw7, cell_below hS.2.1 hbw7, cell_below hS.2.2 hbw7⟩
      refine hK.out _ _ ⟨fun _ => hSw7, fun _ => hSw7⟩ ?_
      clear hK K hS hS2 hbw7
      have hS := hSw7
      have hS2 := hSw7
      clear hSw7
      try simp only [Act.put, List.setIfInBounds_toArray, List.set_cons_zero, List.set_cons_succ]
      refine anyL_take1 (i := 6) (oi := { dst := some 11, op := Op.move (Operand.tmp 10), type := 4, pos := "written.go:20", after := #[{ on := 5, ground := Ground.data }, { on := 5, ground := Ground.chain }], guard := none }) (u := ?_) rfl (by kernel_rfl) (fun _ _ _ h => h) (Or.inl ⟨by kernel_rfl, ?_⟩) ⟨fun _ => hS, fun _ => hS2⟩ ?_
      rotate_left
      focus (intro w hSw; (try dsimp only at hSw); go_simp; with_reducible rfl)
      try simp only [Act.put, List.setIfInBounds_toArray, List.set_cons_zero, List.set_cons_succ]
      refine anyL_take1 (i := 7) (oi := { dst := some 12, op := Op.fieldAddr 68 (Operand.tmp 2) 0, type := 0, pos := "written.go:20", after := #[{ on := 6, ground := Ground.guard }], guard := some (6, true) }) (u := undef) rfl (by kernel_rfl) (fun _ _ _ h => h) (Or.inr ⟨?_, rfl⟩) ⟨fun _ => ?_, fun _ => ?_⟩ ?_
      rotate_left 3
      try simp only [Act.put, List.setIfInBounds_toArray, List.set_cons_zero, List.set_cons_succ]
      rotate_left 1
      focus kernel_rfl
      focus exact hS
      focus exact hS2
      refine anyL_take1 (i := 8) (oi := { dst := some 13, op := Op.load 64 (Operand.tmp 12), type := 64, pos := "written.go:20", after := #[{ on := 7, ground := Ground.data }, { on := 6, ground := Ground.guard }], guard := some (6, true) }) (u := undef) rfl (by kernel_rfl) (fun _ _ _ h => h) (Or.inr ⟨?_, rfl⟩) ⟨fun _ => ?_, fun _ => ?_⟩ ?_
      rotate_left 3
      try simp only [Act.put, List.setIfInBounds_toArray, List.set_cons_zero, List.set_cons_succ]
      rotate_left 1
      focus kernel_rfl
      focus exact hS
      focus exact hS2
      refine anyL_take1 (i := 9) (oi := { dst := some 14, op := Op.buildSlice 113 1 #[(0, Operand.const (Value.int IntKind.u8 7))], type := 113, pos := "written.go:20", after := #[{ on := 6, ground := Ground.guard }], guard := some (6, true) }) (u := undef) rfl (by kernel_rfl) (fun _ _ _ h => h) (Or.inr ⟨?_, rfl⟩) ⟨fun _ => ?_, fun _ => ?_⟩ ?_
      rotate_left 3
      try simp only [Act.put, List.setIfInBounds_toArray, List.set_cons_zero, List.set_cons_succ]
      rotate_left 1
      focus kernel_rfl
      focus exact hS
      focus exact hS2
      refine anyL_take1 (i := 10) (oi := { dst := some 15, op := Op.call { callee := Callee.value (Operand.func 78), args := #[Operand.tmp 13, Operand.func 84, Operand.tmp 14], argTypes := #[64, 118, 113] }, type := 4, pos := "written.go:20", after := #[{ on := 8, ground := Ground.data }, { on := 9, ground := Ground.data }, { on := 6, ground := Ground.chain }, { on := 6, ground := Ground.guard }], guard := some (6, true) }) (u := undef) rfl (by kernel_rfl) (fun _ _ _ h => h) (Or.inr ⟨?_, rfl⟩) ⟨fun _ => ?_, fun _ => ?_⟩ ?_
      rotate_left 3
      try simp only [Act.put, List.setIfInBounds_toArray, List.set_cons_zero, List.set_cons_succ]
      rotate_left 1
      focus kernel_rfl
      focus exact hS
      focus exact hS2
      refine anyL_take1 (i := 11) (oi := { dst := some 16, op := Op.pick (Operand.tmp 11) (Operand.tmp 15) (Operand.const (Value.bool false)), type := 4, pos := "written.go:20", after := #[{ on := 6, ground := Ground.data }, { on := 10, ground := Ground.data }], guard := none }) (u := ?_) rfl (by kernel_rfl) (fun _ _ _ h => h) (Or.inl ⟨by kernel_rfl, ?_⟩) ⟨fun _ => hS, fun _ => hS2⟩ ?_
      rotate_left
      focus (intro w hSw; (try dsimp only at hSw); go_simp; with_reducible rfl)
      try simp only [Act.put, List.setIfInBounds_toArray, List.set_cons_zero, List.set_cons_succ]
      refine anyL_one (i := 12) (o := { dst := some 4, op := Op.assign (Operand.tmp 16), type := 4, pos := "written.go:20", after := #[{ on := 11, ground := Ground.data }, { on := 10, ground := Ground.chain }, { on := 0, ground := Ground.phase }, { on := 1, ground := Ground.phase }, { on := 2, ground := Ground.phase }, { on := 3, ground := Ground.phase }, { on := 4, ground := Ground.phase }, { on := 5, ground := Ground.phase }, { on := 6, ground := Ground.phase }, { on := 7, ground := Ground.phase }, { on := 8, ground := Ground.phase }, { on := 9, ground := Ground.phase }, { on := 10, ground := Ground.phase }, { on := 11, ground := Ground.phase }], guard := none }) (by kernel_rfl) rfl (fun K hK => ?_)
      go_simp
      refine hK.out _ _ ⟨fun h => absurd h (by decide), fun h => absurd h (by decide)⟩ ?_
      clear hK K hS hS2
      try simp only [Act.put, List.setIfInBounds_toArray, List.set_cons_zero, List.set_cons_succ]
      refine anyL_done (by kernel_rfl) (show onlyN _ .normal _ _ from ?_) _
      dsimp only [onlyN]
      go_wp2
      go_ret
      exact ⟨by rw [HF.out]; rfl, HBL.out.trans (HBw7.out.mono HBL.out.size)⟩
  | true =>
    cases eb with
    | false =>
      have HF : Hid (spreadB xs l nm = false) := HV.out
      clear hbl hT hL hfs hds hn h1 h4 hl hW0 hb0
      have hS0 := hS
      clear hS
      go_enter Tryz.func48, Tryz.ntmps48
      go_wp2
      rw [← HW0.out.2]
      refine wp_region_L (S := fun (V : World) => V.cell? ⟨b0, 0, none⟩ = some (.slice p n c) ∧ V.cell? ⟨b0, 1, none⟩ = some (.slice pf n cf) ∧ V.cell? ⟨b0, 2, none⟩ = some (.slice pd n cd)) (S2 := fun (V : World) => V.cell? ⟨b0, 0, none⟩ = some (.slice p n c) ∧ V.cell? ⟨b0, 1, none⟩ = some (.slice pf n cf) ∧ V.cell? ⟨b0, 2, none⟩ = some (.slice pd n cd)) 12 12 (by kernel_rfl) ?_
      rw [show (w.alloc (.cells #[.slice p n c, .slice pf n cf, .slice pd n cd] 68)).drew = W0 from HW0.out.1.symm]
      have hS := hS0
      have hS2 := hS0
      clear hS0
      refine anyL_take1 (i := 0) (oi := { dst := some 5, op := Op.fieldAddr 68 (Operand.tmp 2) 0, type := 0, pos := "written.go:20", after := #[], guard := none }) (u := ?_) rfl (by kernel_rfl) (fun _ _ _ h => h) (Or.inl ⟨by kernel_rfl, ?_⟩) ⟨fun _ => hS, fun _ => hS2⟩ ?_
      rotate_left
      focus (intro w hSw; (try dsimp only at hSw); go_simp; with_reducible rfl)
      try simp only [Act.put, List.setIfInBounds_toArray, List.set_cons_zero, List.set_cons_succ]
      refine anyL_take1 (i := 1) (oi := { dst := some 6, op := Op.load 64 (Operand.tmp 5), type := 64, pos := "written.go:20", after := #[{ on := 0, ground := Ground.data }], guard := none }) (u := ?_) rfl (by kernel_rfl) (fun _ _ _ h => h) (Or.inl ⟨by kernel_rfl, ?_⟩) ⟨fun _ => hS, fun _ => hS2⟩ ?_
      rotate_left
      focus (intro w hSw; (try dsimp only at hSw); go_simp; with_reducible rfl)
      try simp only [Act.put, List.setIfInBounds_toArray, List.set_cons_zero, List.set_cons_succ]
      refine anyL_take1 (i := 2) (oi := { dst := some 7, op := Op.move (Operand.tmp 1), type := 3, pos := "written.go:20", after := #[], guard := none }) (u := ?_) rfl (by kernel_rfl) (fun _ _ _ h => h) (Or.inl ⟨by kernel_rfl, ?_⟩) ⟨fun _ => hS, fun _ => hS2⟩ ?_
      rotate_left
      focus (intro w hSw; (try dsimp only at hSw); go_simp; with_reducible rfl)
      try simp only [Act.put, List.setIfInBounds_toArray, List.set_cons_zero, List.set_cons_succ]
      refine anyL_two (i := 3) (k := 4) (o := { dst := some 8, op := Op.call { callee := Callee.value (Operand.func 81), args := #[Operand.tmp 7], argTypes := #[3] }, type := 118, pos := "written.go:20", after := #[{ on := 2, ground := Ground.data }], guard := none }) (o' := { dst := some 9, op := Op.buildSlice 113 2 #[(0, Operand.const (Value.int IntKind.u8 5)), (1, Operand.const (Value.int IntKind.u8 8))], type := 113, pos := "written.go:20", after := #[], guard := none }) (by kernel_rfl) rfl rfl (fun K hK => ?_) (fun K hK => ?_)
      · skip
        go_simp
        refine (upTo_any nm W0).mono ?_
        rintro e w5 ⟨rfl, hww5⟩
        have hbw5 : Below W0.heap.size W0 w5 := by rw [hww5]; exact bl_alloc _ _
        have HGw5 : Hid (Bx w5 W0.heap.size 3 #[.int .i64 (nm : Nat)]) := by show Bx _ _ _ _; rw [hww5]; exact Bx.new _ _ _
        clear hww5
        have HBw5 := Lib.hid (HBW0.out.trans (hbw5.mono HBW0.out.size))
        have hSw5 : (fun (V : World) => V.cell? ⟨b0, 0, none⟩ = some (.slice p n c) ∧ V.cell? ⟨b0, 1, none⟩ = some (.slice pf n cf) ∧ V.cell? ⟨b0, 2, none⟩ = some (.slice pd n cd)) w5 := ⟨cell_below hS.1 hbw5, cell_below hS.2.1 hbw5, cell_below hS.2.2 hbw5⟩
        refine hK.out _ _ ⟨fun _ => hSw5, fun _ => hSw5⟩ ?_
        clear hK K hS hS2 hbw5
        have hS := hSw5
        have hS2 := hSw5
        clear hSw5
        try simp only [Act.put, List.setIfInBounds_toArray, List.set_cons_zero, List.set_cons_succ]
        refine anyL_one (i := 4) (o := { dst := some 9, op := Op.buildSlice 113 2 #[(0, Operand.const (Value.int IntKind.u8 5)), (1, Operand.const (Value.int IntKind.u8 8))], type := 113, pos := "written.go:20", after := #[], guard := none }) (by kernel_rfl) rfl (fun K hK => ?_)
        go_simp
        obtain ⟨w6, hww6⟩ : ∃ W, W = w5.alloc (.cells #[.int .u8 5, .int .u8 8] 34) := ⟨_, rfl⟩
        rw [← hww6]
        have hbw6 : Below w5.heap.size w5 w6 := by rw [hww6]; exact bl_alloc _ _
        have HUw6 : Hid (SlU w6 (some ⟨w5.heap.size, 0, none⟩) [5, 8]) := by show SlU _ _ _; rw [hww6]; exact slu_new _ _ _ _ rfl
        have HBX := Lib.hid hbw6
        clear hww6
        have HBw6 := Lib.hid (HBw5.out.trans (hbw6.mono HBw5.out.size))
        have hSw6 : (fun (V : World) => V.cell? ⟨b0, 0, none⟩ = some (.slice p n c) ∧ V.cell? ⟨b0, 1, none⟩ = some (.slice pf n cf) ∧ V.cell? ⟨b0, 2, none⟩ = some (.slice pd n cd)) w6 := ⟨cell_below hS.1 hbw6, cell_below hS.2.1 hbw6, cell_below hS.2.2 hbw6⟩
        refine hK.out _ _ ⟨fun _ => hSw6, fun _ => hSw6⟩ ?_
        clear hK K hS hS2 hbw6
        have hS := hSw6
        have hS2 := hSw6
        clear hSw6
        try simp only [Act.put, List.setIfInBounds_toArray, List.set_cons_zero, List.set_cons_succ]
        refine anyL_one (i := 5) (o := { dst := some 10, op := Op.call { callee := Callee.value (Operand.func 78), args := #[Operand.tmp 6, Operand.tmp 8, Operand.tmp 9], argTypes := #[64, 118, 113] }, type := 4, pos := "written.go:20", after := #[{ on := 1, ground := Ground.data }, { on := 3, ground := Ground.data }, { on := 4, ground := Ground.data }, { on := 3, ground := Ground.chain }], guard := none }) (by kernel_rfl) rfl (fun K hK => ?_)
        go_simp
        refine (HUC.out w6 _ _ HBw6.out HUw6.out (HGw5.out.below HBX.out)).mono ?_
        rintro e w7 ⟨rfl, hbw7⟩
        have HBw7 := Lib.hid (HBw6.out.trans (hbw7.mono HBw6.out.size))
        have hSw7 : (fun (V : World) => V.cell? ⟨b0, 0, none⟩ = some (.slice p n c) ∧ V.cell? ⟨b0, 1, none⟩ = some (.slice pf n cf) ∧ V.cell? ⟨b0, 2, none⟩ = some (.slice pd n cd)) w7 := ⟨cell_below hS.1 hbw7, cell_below hS.2.1 hbw7, cell_below hS.2.2 hbw7⟩
        refine hK.out _ _ ⟨fun _ => hSw7, fun _ => hSw7⟩ ?_
        clear hK K hS hS2 hbw7
        have hS := hSw7
        have hS2 := hSw7
        clear hSw7
        try simp only [Act.put, List.setIfInBounds_toArray, List.set_cons_zero, List.set_cons_succ]
        refine anyL_take1 (i := 6) (oi := { dst := some 11, op := Op.move (Operand.tmp 10), type := 4, pos := "written.go:20", after := #[{ on := 5, ground := Ground.data }, { on := 5, ground := Ground.chain }], guard := none }) (u := ?_) rfl (by kernel_rfl) (fun _ _ _ h => h) (Or.inl ⟨by kernel_rfl, ?_⟩) ⟨fun _ => hS, fun _ => hS2⟩ ?_
        rotate_left
        focus (intro w hSw; (try dsimp only at hSw); go_simp; with_reducible rfl)
        try simp only [Act.put, List.setIfInBounds_toArray, List.set_cons_zero, List.set_cons_succ]
        refine anyL_take1 (i := 7) (oi := { dst := some 12, op := Op.fieldAddr 68 (Operand.tmp 2) 0, type := 0, pos := "written.go:20", after := #[{ on := 6, ground := Ground.guard }], guard := some (6, true) }) (u := ?_) rfl (by kernel_rfl) (fun _ _ _ h => h) (Or.inl ⟨by kernel_rfl, ?_⟩) ⟨fun _ => hS, fun _ => hS2⟩ ?_
        rotate_left
        focus (intro w hSw; (try dsimp only at hSw); go_simp; with_reducible rfl)
        try simp only [Act.put, List.setIfInBounds_toArray, List.set_cons_zero, List.set_cons_succ]
        refine anyL_take1 (i := 8) (oi := { dst := some 13, op := Op.load 64 (Operand.tmp 12), type := 64, pos := "written.go:20", after := #[{ on := 7, ground := Ground.data }, { on := 6, ground := Ground.guard }], guard := some (6, true) }) (u := ?_) rfl (by kernel_rfl) (fun _ _ _ h => h) (Or.inl ⟨by kernel_rfl, ?_⟩) ⟨fun _ => hS, fun _ => hS2⟩ ?_
        rotate_left
        focus (intro w hSw; (try dsimp only at hSw); go_simp; with_reducible rfl)
        try simp only [Act.put, List.setIfInBounds_toArray, List.set_cons_zero, List.set_cons_succ]
        refine anyL_one (i := 9) (o := { dst := some 14, op := Op.buildSlice 113 1 #[(0, Operand.const (Value.int IntKind.u8 7))], type := 113, pos := "written.go:20", after := #[{ on := 6, ground := Ground.guard }], guard := some (6, true) }) (by kernel_rfl) rfl (fun K hK => ?_)
        go_simp
        obtain ⟨w8, hww8⟩ : ∃ W, W = w7.alloc (.cells #[.int .u8 7] 34) := ⟨_, rfl⟩
        rw [← hww8]
        have hbw8 : Below w7.heap.size w7 w8 := by rw [hww8]; exact bl_alloc _ _
        have HUw8 : Hid (SlU w8 (some ⟨w7.heap.size, 0, none⟩) [7]) := by show SlU _ _ _; rw [hww8]; exact slu_new _ _ _ _ rfl
        clear hww8
        have HBw8 := Lib.hid (HBw7.out.trans (hbw8.mono HBw7.out.size))
        have hSw8 : (fun (V : World) => V.cell? ⟨b0, 0, none⟩ = some (.slice p n c) ∧ V.cell? ⟨b0, 1, none⟩ = some (.slice pf n cf) ∧ V.cell? ⟨b0, 2, none⟩ = some (.slice pd n cd)) w8 := ⟨cell_below hS.1 hbw8, cell_below hS.2.1 hbw8, cell_below hS.2.2 hbw8⟩
        refine hK.out _ _ ⟨fun _ => hSw8, fun _ => hSw8⟩ ?_
        clear hK K hS hS2 hbw8
        have hS := hSw8
        have hS2 := hSw8
        clear hSw8
        try simp only [Act.put, List.setIfInBounds_toArray, List.set_cons_zero, List.set_cons_succ]
        refine anyL_one (i := 10) (o := { dst := some 15, op := Op.call { callee := Callee.value (Operand.func 78), args := #[Operand.tmp 13, Operand.func 84, Operand.tmp 14], argTypes := #[64, 118, 113] }, type := 4, pos := "written.go:20", after := #[{ on := 8, ground := Ground.data }, { on := 9, ground := Ground.data }, { on := 6, ground := Ground.chain }, { on := 6, ground := Ground.guard }], guard := some (6, true) }) (by kernel_rfl) rfl (fun K hK => ?_)
        go_simp
        refine (HAC.out w8 _ HBw8.out HUw8.out).mono ?_
        rintro e w9 ⟨rfl, hbw9⟩
        have HBw9 := Lib.hid (HBw8.out.trans (hbw9.mono HBw8.out.size))
        have hSw9 : (fun (V : World) => V.cell? ⟨b0, 0, none⟩ = some (.slice p n c) ∧ V.cell? ⟨b0, 1, none⟩ = some (.slice pf n cf) ∧ V.cell? ⟨b0, 2, none⟩ = some (.slice pd n cd)) w9 := ⟨cell_below hS.1 hbw9, cell_below hS.2.1 hbw9, cell_below hS.2.2 hbw9⟩
        refine hK.out _ _ ⟨fun _ => hSw9, fun _ => hSw9⟩ ?_
        clear hK K hS hS2 hbw9
        have hS := hSw9
        have hS2 := hSw9
        clear hSw9
        try simp only [Act.put, List.setIfInBounds_toArray, List.set_cons_zero, List.set_cons_succ]
        refine anyL_take1 (i := 11) (oi := { dst := some 16, op := Op.pick (Operand.tmp 11) (Operand.tmp 15) (Operand.const (Value.bool false)), type := 4, pos := "written.go:20", after := #[{ on := 6, ground := Ground.data }, { on := 10, ground := Ground.data }], guard := none }) (u := ?_) rfl (by kernel_rfl) (fun _ _ _ h => h) (Or.inl ⟨by kernel_rfl, ?_⟩) ⟨fun _ => hS, fun _ => hS2⟩ ?_
        rotate_left
        focus (intro w hSw; (try dsimp only at hSw); go_simp; with_reducible rfl)
        try simp only [Act.put, List.setIfInBounds_toArray, List.set_cons_zero, List.set_cons_succ]
        refine anyL_one (i := 12) (o := { dst := some 4, op := Op.assign (Operand.tmp 16), type := 4, pos := "written.go:20", after := #[{ on := 11, ground := Ground.data }, { on := 10, ground := Ground.chain }, { on := 0, ground := Ground.phase }, { on := 1, ground := Ground.phase }, { on := 2, ground := Ground.phase }, { on := 3, ground := Ground.phase }, { on := 4, ground := Ground.phase }, { on := 5, ground := Ground.phase }, { on := 6, ground := Ground.phase }, { on := 7, ground := Ground.phase }, { on := 8, ground := Ground.phase }, { on := 9, ground := Ground.phase }, { on := 10, ground := Ground.phase }, { on := 11, ground := Ground.phase }], guard := none }) (by kernel_rfl) rfl (fun K hK => ?_)
        go_simp
        refine hK.out _ _ ⟨fun h => absurd h (by decide), fun h => absurd h (by decide)⟩ ?_
        clear hK K hS hS2
        try simp only [Act.put, List.setIfInBounds_toArray, List.set_cons_zero, List.set_cons_succ]
        refine anyL_done (by kernel_rfl) (show onlyN _ .normal _ _ from ?_) _
        dsimp only [onlyN]
        go_wp2
        go_ret
        exact ⟨by rw [HF.out]; rfl, HBL.out.trans (HBw9.out.mono HBL.out.size)⟩
      · skip
        go_simp
        obtain ⟨w5, hww5⟩ : ∃ W, W = W0.alloc (.cells #[.int .u8 5, .int .u8 8] 34) := ⟨_, rfl⟩
        rw [← hww5]
        have hbw5 : Below W0.heap.size W0 w5 := by rw [hww5]; exact bl_alloc _ _
        have HUw5 : Hid (SlU w5 (some ⟨W0.heap.size, 0, none⟩) [5, 8]) := by show SlU _ _ _; rw [hww5]; exact slu_new _ _ _ _ rfl
        clear hww5
        have HBw5 := Lib.hid (HBW0.out.trans (hbw5.mono HBW0.out.size))
        have hSw5 : (fun (V : World) => V.cell? ⟨b0, 0, none⟩ = some (.slice p n c) ∧ V.cell? ⟨b0, 1, none⟩ = some (.slice pf n cf) ∧ V.cell? ⟨b0, 2, none⟩ = some (.slice pd n cd)) w5 := ⟨cell_below hS.1 hbw5, cell_below hS.2.1 hbw5, cell_below hS.2.2 hbw5⟩
        refine hK.out _ _ ⟨fun _ => hSw5, fun _ => hSw5⟩ ?_
        clear hK K hS hS2 hbw5
        have hS := hSw5
        have hS2 := hSw5
        clear hSw5
        try simp only [Act.put, List.setIfInBounds_toArray, List.set_cons_zero, List.set_cons_succ]
        refine anyL_one (i := 3) (o := { dst := some 8, op := Op.call { callee := Callee.value (Operand.func 81), args := #[Operand.tmp 7], argTypes := #[3] }, type := 118, pos := "written.go:20", after := #[{ on := 2, ground := Ground.data }], guard := none }) (by kernel_rfl) rfl (fun K hK => ?_)
        go_simp
        refine (upTo_any nm w5).mono ?_
        rintro e w6 ⟨rfl, hww6⟩
        have hbw6 : Below w5.heap.size w5 w6 := by rw [hww6]; exact bl_alloc _ _
        have HGw6 : Hid (Bx w6 w5.heap.size 3 #[.int .i64 (nm : Nat)]) := by show Bx _ _ _ _; rw [hww6]; exact Bx.new _ _ _
        have HBX := Lib.hid hbw6
        clear hww6
        have HBw6 := Lib.hid (HBw5.out.trans (hbw6.mono HBw5.out.size))
        have hSw6 : (fun (V : World) => V.cell? ⟨b0, 0, none⟩ = some (.slice p n c) ∧ V.cell? ⟨b0, 1, none⟩ = some (.slice pf n cf) ∧ V.cell? ⟨b0, 2, none⟩ = some (.slice pd n cd)) w6 := ⟨cell_below hS.1 hbw6, cell_below hS.2.1 hbw6, cell_below hS.2.2 hbw6⟩
        refine hK.out _ _ ⟨fun _ => hSw6, fun _ => hSw6⟩ ?_
        clear hK K hS hS2 hbw6
        have hS := hSw6
        have hS2 := hSw6
        clear hSw6
        try simp only [Act.put, List.setIfInBounds_toArray, List.set_cons_zero, List.set_cons_succ]
        refine anyL_one (i := 5) (o := { dst := some 10, op := Op.call { callee := Callee.value (Operand.func 78), args := #[Operand.tmp 6, Operand.tmp 8, Operand.tmp 9], argTypes := #[64, 118, 113] }, type := 4, pos := "written.go:20", after := #[{ on := 1, ground := Ground.data }, { on := 3, ground := Ground.data }, { on := 4, ground := Ground.data }, { on := 3, ground := Ground.chain }], guard := none }) (by kernel_rfl) rfl (fun K hK => ?_)
        go_simp
        refine (HUC.out w6 _ _ HBw6.out (HUw5.out.below HBX.out) HGw6.out).mono ?_
        rintro e w7 ⟨rfl, hbw7⟩
        have HBw7 := Lib.hid (HBw6.out.trans (hbw7.mono HBw6.out.size))
        have hSw7 : (fun (V : World) => V.cell? ⟨b0, 0, none⟩ = some (.slice p n c) ∧ V.cell? ⟨b0, 1, none⟩ = some (.slice pf n cf) ∧ V.cell? ⟨b0, 2, none⟩ = some (.slice pd n cd)) w7 := ⟨cell_below hS.1 hbw7, cell_below hS.2.1 hbw7, cell_below hS.2.2 hbw7⟩
        refine hK.out _ _ ⟨fun _ => hSw7, fun _ => hSw7⟩ ?_
        clear hK K hS hS2 hbw7
        have hS := hSw7
        have hS2 := hSw7
        clear hSw7
        try simp only [Act.put, List.setIfInBounds_toArray, List.set_cons_zero, List.set_cons_succ]
        refine anyL_take1 (i := 6) (oi := { dst := some 11, op := Op.move (Operand.tmp 10), type := 4, pos := "written.go:20", after := #[{ on := 5, ground := Ground.data }, { on := 5, ground := Ground.chain }], guard := none }) (u := ?_) rfl (by kernel_rfl) (fun _ _ _ h => h) (Or.inl ⟨by kernel_rfl, ?_⟩) ⟨fun _ => hS, fun _ => hS2⟩ ?_
        rotate_left
        focus (intro w hSw; (try dsimp only at hSw); go_simp; with_reducible rfl)
        try simp only [Act.put, List.setIfInBounds_toArray, List.set_cons_zero, List.set_cons_succ]
        refine anyL_take1 (i := 7) (oi := { dst := some 12, op := Op.fieldAddr 68 (Operand.tmp 2) 0, type := 0, pos := "written.go:20", after := #[{ on := 6, ground := Ground.guard }], guard := some (6, true) }) (u := ?_) rfl (by kernel_rfl) (fun _ _ _ h => h) (Or.inl ⟨by kernel_rfl, ?_⟩) ⟨fun _ => hS, fun _ => hS2⟩ ?_
        rotate_left
        focus (intro w hSw; (try dsimp only at hSw); go_simp; with_reducible rfl)
        try simp only [Act.put, List.setIfInBounds_toArray, List.set_cons_zero, List.set_cons_succ]
        refine anyL_take1 (i := 8) (oi := { dst := some 13, op := Op.load 64 (Operand.tmp 12), type := 64, pos := "written.go:20", after := #[{ on := 7, ground := Ground.data }, { on := 6, ground := Ground.guard }], guard := some (6, true) }) (u := ?_) rfl (by kernel_rfl) (fun _ _ _ h => h) (Or.inl ⟨by kernel_rfl, ?_⟩) ⟨fun _ => hS, fun _ => hS2⟩ ?_
        rotate_left
        focus (intro w hSw; (try dsimp only at hSw); go_simp; with_reducible rfl)
        try simp only [Act.put, List.setIfInBounds_toArray, List.set_cons_zero, List.set_cons_succ]
        refine anyL_one (i := 9) (o := { dst := some 14, op := Op.buildSlice 113 1 #[(0, Operand.const (Value.int IntKind.u8 7))], type := 113, pos := "written.go:20", after := #[{ on := 6, ground := Ground.guard }], guard := some (6, true) }) (by kernel_rfl) rfl (fun K hK => ?_)
        go_simp
        obtain ⟨w8, hww8⟩ : ∃ W, W = w7.alloc (.cells #[.int .u8 7] 34) := ⟨_, rfl⟩
        rw [← hww8]
        have hbw8 : Below w7.heap.size w7 w8 := by rw [hww8]; exact bl_alloc _ _
        have HUw8 : Hid (SlU w8 (some ⟨w7.heap.size, 0, none⟩) [7]) := by show SlU _ _ _; rw [hww8]; exact slu_new _ _ _ _ rfl
        clear hww8
        have HBw8 := Lib.hid (HBw7.out.trans (hbw8.mono HBw7.out.size))
        have hSw8 : (fun (V : World) => V.cell? ⟨b0, 0, none⟩ = some (.slice p n c) ∧ V.cell? ⟨b0, 1, none⟩ = some (.slice pf n cf) ∧ V.cell? ⟨b0, 2, none⟩ = some (.slice pd n cd)) w8 := ⟨cell_below hS.1 hbw8, cell_below hS.2.1 hbw8, cell_below hS.2.2 hbw8⟩
        refine hK.out _ _ ⟨fun _ => hSw8, fun _ => hSw8⟩ ?_
        clear hK K hS hS2 hbw8
        have hS := hSw8
        have hS2 := hSw8
        clear hSw8
        try simp only [Act.put, List.setIfInBounds_toArray, List.set_cons_zero, List.set_cons_succ]
        refine anyL_one (i := 10) (o := { dst := some 15, op := Op.call { callee := Callee.value (Operand.func 78), args := #[Operand.tmp 13, Operand.func 84, Operand.tmp 14], argTypes := #[64, 118, 113] }, type := 4, pos := "written.go:20", after := #[{ on := 8, ground := Ground.data }, { on := 9, ground := Ground.data }, { on := 6, ground := Ground.chain }, { on := 6, ground := Ground.guard }], guard := some (6, true) }) (by kernel_rfl) rfl (fun K hK => ?_)
        go_simp
        refine (HAC.out w8 _ HBw8.out HUw8.out).mono ?_
        rintro e w9 ⟨rfl, hbw9⟩
        have HBw9 := Lib.hid (HBw8.out.trans (hbw9.mono HBw8.out.size))
        have hSw9 : (fun (V : World) => V.cell? ⟨b0, 0, none⟩ = some (.slice p n c) ∧ V.cell? ⟨b0, 1, none⟩ = some (.slice pf n cf) ∧ V.cell? ⟨b0, 2, none⟩ = some (.slice pd n cd)) w9 := ⟨cell_below hS.1 hbw9, cell_below hS.2.1 hbw9, cell_below hS.2.2 hbw9⟩
        refine hK.out _ _ ⟨fun _ => hSw9, fun _ => hSw9⟩ ?_
        clear hK K hS hS2 hbw9
        have hS := hSw9
        have hS2 := hSw9
        clear hSw9
        try simp only [Act.put, List.setIfInBounds_toArray, List.set_cons_zero, List.set_cons_succ]
        refine anyL_take1 (i := 11) (oi := { dst := some 16, op := Op.pick (Operand.tmp 11) (Operand.tmp 15) (Operand.const (Value.bool false)), type := 4, pos := "written.go:20", after := #[{ on := 6, ground := Ground.data }, { on := 10, ground := Ground.data }], guard := none }) (u := ?_) rfl (by kernel_rfl) (fun _ _ _ h => h) (Or.inl ⟨by kernel_rfl, ?_⟩) ⟨fun _ => hS, fun _ => hS2⟩ ?_
        rotate_left
        focus (intro w hSw; (try dsimp only at hSw); go_simp; with_reducible rfl)
        try simp only [Act.put, List.setIfInBounds_toArray, List.set_cons_zero, List.set_cons_succ]
        refine anyL_one (i := 12) (o := { dst := some 4, op := Op.assign (Operand.tmp 16), type := 4, pos := "written.go:20", after := #[{ on := 11, ground := Ground.data }, { on := 10, ground := Ground.chain }, { on := 0, ground := Ground.phase }, { on := 1, ground := Ground.phase }, { on := 2, ground := Ground.phase }, { on := 3, ground := Ground.phase }, { on := 4, ground := Ground.phase }, { on := 5, ground := Ground.phase }, { on := 6, ground := Ground.phase }, { on := 7, ground := Ground.phase }, { on := 8, ground := Ground.phase }, { on := 9, ground := Ground.phase }, { on := 10, ground := Ground.phase }, { on := 11, ground := Ground.phase }], guard := none }) (by kernel_rfl) rfl (fun K hK => ?_)
        go_simp
        refine hK.out _ _ ⟨fun h => absurd h (by decide), fun h => absurd h (by decide)⟩ ?_
        clear hK K hS hS2
        try simp only [Act.put, List.setIfInBounds_toArray, List.set_cons_zero, List.set_cons_succ]
        refine anyL_done (by kernel_rfl) (show onlyN _ .normal _ _ from ?_) _
        dsimp only [onlyN]
        go_wp2
        go_ret
        exact ⟨by rw [HF.out]; rfl, HBL.out.trans (HBw9.out.mono HBL.out.size)⟩
    | true =>
      have HF : Hid (spreadB xs l nm = true) := HV.out
      clear hbl hT hL hfs hds hn h1 h4 hl hW0 hb0
      have hS0 := hS
      clear hS
      go_enter Tryz.func48, Tryz.ntmps48
      go_wp2
      rw [← HW0.out.2]
      refine wp_region_L (S := fun (V : World) => V.cell? ⟨b0, 0, none⟩ = some (.slice p n c) ∧ V.cell? ⟨b0, 1, none⟩ = some (.slice pf n cf) ∧ V.cell? ⟨b0, 2, none⟩ = some (.slice pd n cd)) (S2 := fun (V : World) => V.cell? ⟨b0, 0, none⟩ = some (.slice p n c) ∧ V.cell? ⟨b0, 1, none⟩ = some (.slice pf n cf) ∧ V.cell? ⟨b0, 2, none⟩ = some (.slice pd n cd)) 12 12 (by kernel_rfl) ?_
      rw [show (w.alloc (.cells #[.slice p n c, .slice pf n cf, .slice pd n cd] 68)).drew = W0 from HW0.out.1.symm]
      have hS := hS0
      have hS2 := hS0
      clear hS0
      refine anyL_take1 (i := 0) (oi := { dst := some 5, op := Op.fieldAddr 68 (Operand.tmp 2) 0, type := 0, pos := "written.go:20", after := #[], guard := none }) (u := ?_) rfl (by kernel_rfl) (fun _ _ _ h => h) (Or.inl ⟨by kernel_rfl, ?_⟩) ⟨fun _ => hS, fun _ => hS2⟩ ?_
      rotate_left
      focus (intro w hSw; (try dsimp only at hSw); go_simp; with_reducible rfl)
      try simp only [Act.put, List.setIfInBounds_toArray, List.set_cons_zero, List.set_cons_succ]
      refine anyL_take1 (i := 1) (oi := { dst := some 6, op := Op.load 64 (Operand.tmp 5), type := 64, pos := "written.go:20", after := #[{ on := 0, ground := Ground.data }], guard := none }) (u := ?_) rfl (by kernel_rfl) (fun _ _ _ h => h) (Or.inl ⟨by kernel_rfl, ?_⟩) ⟨fun _ => hS, fun _ => hS2⟩ ?_
      rotate_left
      focus (intro w hSw; (try dsimp only at hSw); go_simp; with_reducible rfl)
      try simp only [Act.put, List.setIfInBounds_toArray, List.set_cons_zero, List.set_cons_succ]
      refine anyL_take1 (i := 2) (oi := { dst := some 7, op := Op.move (Operand.tmp 1), type := 3, pos := "written.go:20", after := #[], guard := none }) (u := ?_) rfl (by kernel_rfl) (fun _ _ _ h => h) (Or.inl ⟨by kernel_rfl, ?_⟩) ⟨fun _ => hS, fun _ => hS2⟩ ?_
      rotate_left
      focus (intro w hSw; (try dsimp only at hSw); go_simp; with_reducible rfl)
      try simp only [Act.put, List.setIfInBounds_toArray, List.set_cons_zero, List.set_cons_succ]
      refine anyL_two (i := 3) (k := 4) (o := { dst := some 8, op := Op.call { callee := Callee.value (Operand.func 81), args := #[Operand.tmp 7], argTypes := #[3] }, type := 118, pos := "written.go:20", after := #[{ on := 2, ground := Ground.data }], guard := none }) (o' := { dst := some 9, op := Op.buildSlice 113 2 #[(0, Operand.const (Value.int IntKind.u8 5)), (1, Operand.const (Value.int IntKind.u8 8))], type := 113, pos := "written.go:20", after := #[], guard := none }) (by kernel_rfl) rfl rfl (fun K hK => ?_) (fun K hK => ?_)
      · skip
        go_simp
        refine (upTo_any nm W0).mono ?_
        rintro e w5 ⟨rfl, hww5⟩
        have hbw5 : Below W0.heap.size W0 w5 := by rw [hww5]; exact bl_alloc _ _
        have HGw5 : Hid (Bx w5 W0.heap.size 3 #[.int .i64 (nm : Nat)]) := by show Bx _ _ _ _; rw [hww5]; exact Bx.new _ _ _
        clear hww5
        have HBw5 := Lib.hid (HBW0.out.trans (hbw5.mono HBW0.out.size))
        have hSw5 : (fun (V : World) => V.cell? ⟨b0, 0, none⟩ = some (.slice p n c) ∧ V.cell? ⟨b0, 1, none⟩ = some (.slice pf n cf) ∧ V.cell? ⟨b0, 2, none⟩ = some (.slice pd n cd)) w5 := ⟨cell_below hS.1 hbw5, cell_below hS.2.1 hbw5, cell_below hS.2.2 hbw5⟩
        refine hK.out _ _ ⟨fun _ => hSw5, fun _ => hSw5⟩ ?_
        clear hK K hS hS2 hbw5
        have hS := hSw5
        have hS2 := hSw5
        clear hSw5
        try simp only [Act.put, List.setIfInBounds_toArray, List.set_cons_zero, List.set_cons_succ]
        refine anyL_one (i := 4) (o := { dst := some 9, op := Op.buildSlice 113 2 #[(0, Operand.const (Value.int IntKind.u8 5)), (1, Operand.const (Value.int IntKind.u8 8))], type := 113, pos := "written.go:20", after := #[], guard := none }) (by kernel_rfl) rfl (fun K hK => ?_)
        go_simp
        obtain ⟨w6, hww6⟩ : ∃ W, W = w5.alloc (.cells #[.int .u8 5, .int .u8 8] 34) := ⟨_, rfl⟩
        rw [← hww6]
        have hbw6 : Below w5.heap.size w5 w6 := by rw [hww6]; exact bl_alloc _ _
        have HUw6 : Hid (SlU w6 (some ⟨w5.heap.size, 0, none⟩) [5, 8]) := by show SlU _ _ _; rw [hww6]; exact slu_new _ _ _ _ rfl
        have HBX := Lib.hid hbw6
        clear hww6
        have HBw6 := Lib.hid (HBw5.out.trans (hbw6.mono HBw5.out.size))
        have hSw6 : (fun (V : World) => V.cell? ⟨b0, 0, none⟩ = some (.slice p n c) ∧ V.cell? ⟨b0, 1, none⟩ = some (.slice pf n cf) ∧ V.cell? ⟨b0, 2, none⟩ = some (.slice pd n cd)) w6 := ⟨cell_below hS.1 hbw6, cell_below hS.2.1 hbw6, cell_below hS.2.2 hbw6⟩
        refine hK.out _ _ ⟨fun _ => hSw6, fun _ => hSw6⟩ ?_
        clear hK K hS hS2 hbw6
        have hS := hSw6
        have hS2 := hSw6
        clear hSw6
        try simp only [Act.put, List.setIfInBounds_toArray, List.set_cons_zero, List.set_cons_succ]
        refine anyL_one (i := 5) (o := { dst := some 10, op := Op.call { callee := Callee.value (Operand.func 78), args := #[Operand.tmp 6, Operand.tmp 8, Operand.tmp 9], argTypes := #[64, 118, 113] }, type := 4, pos := "written.go:20", after := #[{ on := 1, ground := Ground.data }, { on := 3, ground := Ground.data }, { on := 4, ground := Ground.data }, { on := 3, ground := Ground.chain }], guard := none }) (by kernel_rfl) rfl (fun K hK => ?_)
        go_simp
        refine (HUC.out w6 _ _ HBw6.out HUw6.out (HGw5.out.below HBX.out)).mono ?_
        rintro e w7 ⟨rfl, hbw7⟩
        have HBw7 := Lib.hid (HBw6.out.trans (hbw7.mono HBw6.out.size))
        have hSw7 : (fun (V : World) => V.cell? ⟨b0, 0, none⟩ = some (.slice p n c) ∧ V.cell? ⟨b0, 1, none⟩ = some (.slice pf n cf) ∧ V.cell? ⟨b0, 2, none⟩ = some (.slice pd n cd)) w7 := ⟨cell_below hS.1 hbw7, cell_below hS.2.1 hbw7, cell_below hS.2.2 hbw7⟩
        refine hK.out _ _ ⟨fun _ => hSw7, fun _ => hSw7⟩ ?_
        clear hK K hS hS2 hbw7
        have hS := hSw7
        have hS2 := hSw7
        clear hSw7
        try simp only [Act.put, List.setIfInBounds_toArray, List.set_cons_zero, List.set_cons_succ]
        refine anyL_take1 (i := 6) (oi := { dst := some 11, op := Op.move (Operand.tmp 10), type := 4, pos := "written.go:20", after := #[{ on := 5, ground := Ground.data }, { on := 5, ground := Ground.chain }], guard := none }) (u := ?_) rfl (by kernel_rfl) (fun _ _ _ h => h) (Or.inl ⟨by kernel_rfl, ?_⟩) ⟨fun _ => hS, fun _ => hS2⟩ ?_
        rotate_left
        focus (intro w hSw; (try dsimp only at hSw); go_simp; with_reducible rfl)
        try simp only [Act.put, List.setIfInBounds_toArray, List.set_cons_zero, List.set_cons_succ]
        refine anyL_take1 (i := 7) (oi := { dst := some 12, op := Op.fieldAddr 68 (Operand.tmp 2) 0, type := 0, pos := "written.go:20", after := #[{ on := 6, ground := Ground.guard }], guard := some (6, true) }) (u := ?_) rfl (by kernel_rfl) (fun _ _ _ h => h) (Or.inl ⟨by kernel_rfl, ?_⟩) ⟨fun _ => hS, fun _ => hS2⟩ ?_
        rotate_left
        focus (intro w hSw; (try dsimp only at hSw); go_simp; with_reducible rfl)
        try simp only [Act.put, List.setIfInBounds_toArray, List.set_cons_zero, List.set_cons_succ]
        refine anyL_take1 (i := 8) (oi := { dst := some 13, op := Op.load 64 (Operand.tmp 12), type := 64, pos := "written.go:20", after := #[{ on := 7, ground := Ground.data }, { on := 6, ground := Ground.guard }], guard := some (6, true) }) (u := ?_) rfl (by kernel_rfl) (fun _ _ _ h => h) (Or.inl ⟨by kernel_rfl, ?_⟩) ⟨fun _ => hS, fun _ => hS2⟩ ?_
        rotate_left
        focus (intro w hSw; (try dsimp only at hSw); go_simp; with_reducible rfl)
        try simp only [Act.put, List.setIfInBounds_toArray, List.set_cons_zero, List.set_cons_succ]
        refine anyL_one (i := 9) (o := { dst := some 14, op := Op.buildSlice 113 1 #[(0, Operand.const (Value.int IntKind.u8 7))], type := 113, pos := "written.go:20", after := #[{ on := 6, ground := Ground.guard }], guard := some (6, true) }) (by kernel_rfl) rfl (fun K hK => ?_)
        go_simp
        obtain ⟨w8, hww8⟩ : ∃ W, W = w7.alloc (.cells #[.int .u8 7] 34) := ⟨_, rfl⟩
        rw [← hww8]
        have hbw8 : Below w7.heap.size w7 w8 := by rw [hww8]; exact bl_alloc _ _
        have HUw8 : Hid (SlU w8 (some ⟨w7.heap.size, 0, none⟩) [7]) := by show SlU _ _ _; rw [hww8]; exact slu_new _ _ _ _ rfl
        clear hww8
        have HBw8 := Lib.hid (HBw7.out.trans (hbw8.mono HBw7.out.size))
        have hSw8 : (fun (V : World) => V.cell? ⟨b0, 0, none⟩ = some (.slice p n c) ∧ V.cell? ⟨b0, 1, none⟩ = some (.slice pf n cf) ∧ V.cell? ⟨b0, 2, none⟩ = some (.slice pd n cd)) w8 := ⟨cell_below hS.1 hbw8, cell_below hS.2.1 hbw8, cell_below hS.2.2 hbw8⟩
        refine hK.out _ _ ⟨fun _ => hSw8, fun _ => hSw8⟩ ?_
        clear hK K hS hS2 hbw8
        have hS := hSw8
        have hS2 := hSw8
        clear hSw8
        try simp only [Act.put, List.setIfInBounds_toArray, List.set_cons_zero, List.set_cons_succ]
        refine anyL_one (i := 10) (o := { dst := some 15, op := Op.call { callee := Callee.value (Operand.func 78), args := #[Operand.tmp 13, Operand.func 84, Operand.tmp 14], argTypes := #[64, 118, 113] }, type := 4, pos := "written.go:20", after := #[{ on := 8, ground := Ground.data }, { on := 9, ground := Ground.data }, { on := 6, ground := Ground.chain }, { on := 6, ground := Ground.guard }], guard := some (6, true) }) (by kernel_rfl) rfl (fun K hK => ?_)
        go_simp
        refine (HAC.out w8 _ HBw8.out HUw8.out).mono ?_
        rintro e w9 ⟨rfl, hbw9⟩
        have HBw9 := Lib.hid (HBw8.out.trans (hbw9.mono HBw8.out.size))
        have hSw9 : (fun (V : World) => V.cell? ⟨b0, 0, none⟩ = some (.slice p n c) ∧ V.cell? ⟨b0, 1, none⟩ = some (.slice pf n cf) ∧ V.cell? ⟨b0, 2, none⟩ = some (.slice pd n cd)) w9 := ⟨cell_below hS.1 hbw9, cell_below hS.2.1 hbw9, cell_below hS.2.2 hbw9⟩
        refine hK.out _ _ ⟨fun _ => hSw9, fun _ => hSw9⟩ ?_
        clear hK K hS hS2 hbw9
        have hS := hSw9
        have hS2 := hSw9
        clear hSw9
        try simp only [Act.put, List.setIfInBounds_toArray, List.set_cons_zero, List.set_cons_succ]
        refine anyL_take1 (i := 11) (oi := { dst := some 16, op := Op.pick (Operand.tmp 11) (Operand.tmp 15) (Operand.const (Value.bool false)), type := 4, pos := "written.go:20", after := #[{ on := 6, ground := Ground.data }, { on := 10, ground := Ground.data }], guard := none }) (u := ?_) rfl (by kernel_rfl) (fun _ _ _ h => h) (Or.inl ⟨by kernel_rfl, ?_⟩) ⟨fun _ => hS, fun _ => hS2⟩ ?_
        rotate_left
        focus (intro w hSw; (try dsimp only at hSw); go_simp; with_reducible rfl)
        try simp only [Act.put, List.setIfInBounds_toArray, List.set_cons_zero, List.set_cons_succ]
        refine anyL_one (i := 12) (o := { dst := some 4, op := Op.assign (Operand.tmp 16), type := 4, pos := "written.go:20", after := #[{ on := 11, ground := Ground.data }, { on := 10, ground := Ground.chain }, { on := 0, ground := Ground.phase }, { on := 1, ground := Ground.phase }, { on := 2, ground := Ground.phase }, { on := 3, ground := Ground.phase }, { on := 4, ground := Ground.phase }, { on := 5, ground := Ground.phase }, { on := 6, ground := Ground.phase }, { on := 7, ground := Ground.phase }, { on := 8, ground := Ground.phase }, { on := 9, ground := Ground.phase }, { on := 10, ground := Ground.phase }, { on := 11, ground := Ground.phase }], guard := none }) (by kernel_rfl) rfl (fun K hK => ?_)
        go_simp
        refine hK.out _ _ ⟨fun h => absurd h (by decide), fun h => absurd h (by decide)⟩ ?_
        clear hK K hS hS2
        try simp only [Act.put, List.setIfInBounds_toArray, List.set_cons_zero, List.set_cons_succ]
        refine anyL_done (by kernel_rfl) (show onlyN _ .normal _ _ from ?_) _
        dsimp only [onlyN]
        go_wp2
        go_ret
        exact ⟨by rw [HF.out]; rfl, HBL.out.trans (HBw9.out.mono HBL.out.size)⟩
      · skip
        go_simp
        obtain ⟨w5, hww5⟩ : ∃ W, W = W0.alloc (.cells #[.int .u8 5, .int .u8 8] 34) := ⟨_, rfl⟩
        rw [← hww5]
        have hbw5 : Below W0.heap.size W0 w5 := by rw [hww5]; exact bl_alloc _ _
        have HUw5 : Hid (SlU w5 (some ⟨W0.heap.size, 0, none⟩) [5, 8]) := by show SlU _ _ _; rw [hww5]; exact slu_new _ _ _ _ rfl
        clear hww5
        have HBw5 := Lib.hid (HBW0.out.trans (hbw5.mono HBW0.out.size))
        have hSw5 : (fun (V : World) => V.cell? ⟨b0, 0, none⟩ = some (.slice p n c) ∧ V.cell? ⟨b0, 1, none⟩ = some (.slice pf n cf) ∧ V.cell? ⟨b0, 2, none⟩ = some (.slice pd n cd)) w5 := ⟨cell_below hS.1 hbw5, cell_below hS.2.1 hbw5, cell_below hS.2.2 hbw5⟩
        refine hK.out _ _ ⟨fun _ => hSw5, fun _ => hSw5⟩ ?_
        clear hK K hS hS2 hbw5
        have hS := hSw5
        have hS2 := hSw5
        clear hSw5
        try simp only [Act.put, List.setIfInBounds_toArray, List.set_cons_zero, List.set_cons_succ]
        refine anyL_one (i := 3) (o := { dst := some 8, op := Op.call { callee := Callee.value (Operand.func 81), args := #[Operand.tmp 7], argTypes := #[3] }, type := 118, pos := "written.go:20", after := #[{ on := 2, ground := Ground.data }], guard := none }) (by kernel_rfl) rfl (fun K hK => ?_)
        go_simp
        refine (upTo_any nm w5).mono ?_
        rintro e w6 ⟨rfl, hww6⟩
        have hbw6 : Below w5.heap.size w5 w6 := by rw [hww6]; exact bl_alloc _ _
        have HGw6 : Hid (Bx w6 w5.heap.size 3 #[.int .i64 (nm : Nat)]) := by show Bx _ _ _ _; rw [hww6]; exact Bx.new _ _ _
        have HBX := Lib.hid hbw6
        clear hww6
        have HBw6 := Lib.hid (HBw5.out.trans (hbw6.mono HBw5.out.size))
        have hSw6 : (fun (V : World) => V.cell? ⟨b0, 0, none⟩ = some (.slice p n c) ∧ V.cell? ⟨b0, 1, none⟩ = some (.slice pf n cf) ∧ V.cell? ⟨b0, 2, none⟩ = some (.slice pd n cd)) w6 := ⟨cell_below hS.1 hbw6, cell_below hS.2.1 hbw6, cell_below hS.2.2 hbw6⟩
        refine hK.out _ _ ⟨fun _ => hSw6, fun _ => hSw6⟩ ?_
        clear hK K hS hS2 hbw6
        have hS := hSw6
        have hS2 := hSw6
        clear hSw6
        try simp only [Act.put, List.setIfInBounds_toArray, List.set_cons_zero, List.set_cons_succ]
        refine anyL_one (i := 5) (o := { dst := some 10, op := Op.call { callee := Callee.value (Operand.func 78), args := #[Operand.tmp 6, Operand.tmp 8, Operand.tmp 9], argTypes := #[64, 118, 113] }, type := 4, pos := "written.go:20", after := #[{ on := 1, ground := Ground.data }, { on := 3, ground := Ground.data }, { on := 4, ground := Ground.data }, { on := 3, ground := Ground.chain }], guard := none }) (by kernel_rfl) rfl (fun K hK => ?_)
        go_simp
        refine (HUC.out w6 _ _ HBw6.out (HUw5.out.below HBX.out) HGw6.out).mono ?_
        rintro e w7 ⟨rfl, hbw7⟩
        have HBw7 := Lib.hid (HBw6.out.trans (hbw7.mono HBw6.out.size))
        have hSw7 : (fun (V : World) => V.cell? ⟨b0, 0, none⟩ = some (.slice p n c) ∧ V.cell? ⟨b0, 1, none⟩ = some (.slice pf n cf) ∧ V.cell? ⟨b0, 2, none⟩ = some (.slice pd n cd)) w7 := ⟨cell_below hS.1 hbw7, cell_below hS.2.1 hbw7, cell_below hS.2.2 hbw7⟩
        refine hK.out _ _ ⟨fun _ => hSw7, fun _ => hSw7⟩ ?_
        clear hK K hS hS2 hbw7
        have hS := hSw7
        have hS2 := hSw7
        clear hSw7
        try simp only [Act.put, List.setIfInBounds_toArray, List.set_cons_zero, List.set_cons_succ]
        refine anyL_take1 (i := 6) (oi := { dst := some 11, op := Op.move (Operand.tmp 10), type := 4, pos := "written.go:20", after := #[{ on := 5, ground := Ground.data }, { on := 5, ground := Ground.chain }], guard := none }) (u := ?_) rfl (by kernel_rfl) (fun _ _ _ h => h) (Or.inl ⟨by kernel_rfl, ?_⟩) ⟨fun _ => hS, fun _ => hS2⟩ ?_
        rotate_left
        focus (intro w hSw; (try dsimp only at hSw); go_simp; with_reducible rfl)
        try simp only [Act.put, List.setIfInBounds_toArray, List.set_cons_zero, List.set_cons_succ]
        refine anyL_take1 (i := 7) (oi := { dst := some 12, op := Op.fieldAddr 68 (Operand.tmp 2) 0, type := 0, pos := "written.go:20", after := #[{ on := 6, ground := Ground.guard }], guard := some (6, true) }) (u := ?_) rfl (by kernel_rfl) (fun _ _ _ h => h) (Or.inl ⟨by kernel_rfl, ?_⟩) ⟨fun _ => hS, fun _ => hS2⟩ ?_
        rotate_left
        focus (intro w hSw; (try dsimp only at hSw); go_simp; with_reducible rfl)
        try simp only [Act.put, List.setIfInBounds_toArray, List.set_cons_zero, List.set_cons_succ]
        refine anyL_take1 (i := 8) (oi := { dst := some 13, op := Op.load 64 (Operand.tmp 12), type := 64, pos := "written.go:20", after := #[{ on := 7, ground := Ground.data }, { on := 6, ground := Ground.guard }], guard := some (6, true) }) (u := ?_) rfl (by kernel_rfl) (fun _ _ _ h => h) (Or.inl ⟨by kernel_rfl, ?_⟩) ⟨fun _ => hS, fun _ => hS2⟩ ?_
        rotate_left
        focus (intro w hSw; (try dsimp only at hSw); go_simp; with_reducible rfl)
        try simp only [Act.put, List.setIfInBounds_toArray, List.set_cons_zero, List.set_cons_succ]
        refine anyL_one (i := 9) (o := { dst := some 14, op := Op.buildSlice 113 1 #[(0, Operand.const (Value.int IntKind.u8 7))], type := 113, pos := "written.go:20", after := #[{ on := 6, ground := Ground.guard }], guard := some (6, true) }) (by kernel_rfl) rfl (fun K hK => ?_)
        go_simp
        obtain ⟨w8, hww8⟩ : ∃ W, W = w7.alloc (.cells #[.int .u8 7] 34) := ⟨_, rfl⟩
        rw [← hww8]
        have hbw8 : Below w7.heap.size w7 w8 := by rw [hww8]; exact bl_alloc _ _
        have HUw8 : Hid (SlU w8 (some ⟨w7.heap.size, 0, none⟩) [7]) := by show SlU _ _ _; rw [hww8]; exact slu_new _ _ _ _ rfl
        clear hww8
        have HBw8 := Lib.hid (HBw7.out.trans (hbw8.mono HBw7.out.size))
        have hSw8 : (fun (V : World) => V.cell? ⟨b0, 0, none⟩ = some (.slice p n c) ∧ V.cell? ⟨b0, 1, none⟩ = some (.slice pf n cf) ∧ V.cell? ⟨b0, 2, none⟩ = some (.slice pd n cd)) w8 := ⟨cell_below hS.1 hbw8, cell_below hS.2.1 hbw8, cell_below hS.2.2 hbw8⟩
        refine hK.out _ _ ⟨fun _ => hSw8, fun _ => hSw8⟩ ?_
        clear hK K hS hS2 hbw8
        have hS := hSw8
        have hS2 := hSw8
        clear hSw8
        try simp only [Act.put, List.setIfInBounds_toArray, List.set_cons_zero, List.set_cons_succ]
        refine anyL_one (i := 10) (o := { dst := some 15, op := Op.call { callee := Callee.value (Operand.func 78), args := #[Operand.tmp 13, Operand.func 84, Operand.tmp 14], argTypes := #[64, 118, 113] }, type := 4, pos := "written.go:20", after := #[{ on := 8, ground := Ground.data }, { on := 9, ground := Ground.data }, { on := 6, ground := Ground.chain }, { on := 6, ground := Ground.guard }], guard := some (6, true) }) (by kernel_rfl) rfl (fun K hK => ?_)
        go_simp
        refine (HAC.out w8 _ HBw8.out HUw8.out).mono ?_
        rintro e w9 ⟨rfl, hbw9⟩
        have HBw9 := Lib.hid (HBw8.out.trans (hbw9.mono HBw8.out.size))
        have hSw9 : (fun (V : World) => V.cell? ⟨b0, 0, none⟩ = some (.slice p n c) ∧ V.cell? ⟨b0, 1, none⟩ = some (.slice pf n cf) ∧ V.cell? ⟨b0, 2, none⟩ = some (.slice pd n cd)) w9 := ⟨cell_below hS.1 hbw9, cell_below hS.2.1 hbw9, cell_below hS.2.2 hbw9⟩
        refine hK.out _ _ ⟨fun _ => hSw9, fun _ => hSw9⟩ ?_
        clear hK K hS hS2 hbw9
        have hS := hSw9
        have hS2 := hSw9
        clear hSw9
        try simp only [Act.put, List.setIfInBounds_toArray, List.set_cons_zero, List.set_cons_succ]
        refine anyL_take1 (i := 11) (oi := { dst := some 16, op := Op.pick (Operand.tmp 11) (Operand.tmp 15) (Operand.const (Value.bool false)), type := 4, pos := "written.go:20", after := #[{ on := 6, ground := Ground.data }, { on := 10, ground := Ground.data }], guard := none }) (u := ?_) rfl (by kernel_rfl) (fun _ _ _ h => h) (Or.inl ⟨by kernel_rfl, ?_⟩) ⟨fun _ => hS, fun _ => hS2⟩ ?_
        rotate_left
        focus (intro w hSw; (try dsimp only at hSw); go_simp; with_reducible rfl)
        try simp only [Act.put, List.setIfInBounds_toArray, List.set_cons_zero, List.set_cons_succ]
        refine anyL_one (i := 12) (o := { dst := some 4, op := Op.assign (Operand.tmp 16), type := 4, pos := "written.go:20", after := #[{ on := 11, ground := Ground.data }, { on := 10, ground := Ground.chain }, { on := 0, ground := Ground.phase }, { on := 1, ground := Ground.phase }, { on := 2, ground := Ground.phase }, { on := 3, ground := Ground.phase }, { on := 4, ground := Ground.phase }, { on := 5, ground := Ground.phase }, { on := 6, ground := Ground.phase }, { on := 7, ground := Ground.phase }, { on := 8, ground := Ground.phase }, { on := 9, ground := Ground.phase }, { on := 10, ground := Ground.phase }, { on := 11, ground := Ground.phase }], guard := none }) (by kernel_rfl) rfl (fun K hK => ?_)
        go_simp
        refine hK.out _ _ ⟨fun h => absurd h (by decide), fun h => absurd h (by decide)⟩ ?_
        clear hK K hS hS2
        try simp only [Act.put, List.setIfInBounds_toArray, List.set_cons_zero, List.set_cons_succ]
        refine anyL_done (by kernel_rfl) (show onlyN _ .normal _ _ from ?_) _
        dsimp only [onlyN]
        go_wp2
        go_ret
        exact ⟨by rw [HF.out]; rfl, HBL.out.trans (HBw9.out.mono HBL.out.size)⟩
end Go.Proofs.YtafiekelcoaadaaGreat
