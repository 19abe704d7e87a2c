import Derived.Test.YtkefndfgkmdphaaGreatFi
import Derived.Test.YtkefndfgkmdphaaGreatMe

namespace Go.Proofs.YtkefndfgkmdphaaGreat
set_option maxHeartbeats 6400000
set_option maxRecDepth 100000
open Go.RowKit Tnr Tnt

def spreadB (xs : List NV) (_ : List (Nat × Nat)) (nm : Nat) : Bool := allB (upToB nm) xs [5, 8] && allB endlessB xs [7]
theorem spread_any (p : Option Addr) (n c : Nat) (xs : List NV) (pf pd : Option Addr) (cf cd nm : Nat) (l : List (Nat × Nat)) (B : Nat) (w : World) (hn : n = xs.length) (h1 : 1 ≤ n) (h4 : n ≤ 4000) (hl : n = l.length) (hL : SlN w p xs) (hfs : OwnZ w B (.slice pf n cf) (fsZ l)) (hds : OwnZ w B (.slice pd n cd) (dsZ l)) :
  Calls Tryz.prog 72 #[.agg #[.slice p n c, .slice pf n cf, .slice pd n cd], .int .i64 (nm : Nat)] w fun e w' => e = .returned (.bool (spreadB xs l nm)) ∧ Below w.heap.size w w' := by
 obtain ⟨W0, hW0⟩ : ∃ W, W = (w.alloc (.cells #[.slice p n c, .slice pf n cf, .slice pd n cd] 66)).drew := ⟨_, rfl⟩
 obtain ⟨b0, hb0⟩ : ∃ b, b = w.heap.size := ⟨_, rfl⟩
 have hbl : Below w.heap.size w W0 := by rw [hW0]; exact (bl_alloc _ _).drew
 have hT : Bx W0 b0 66 #[.slice p n c, .slice pf n cf, .slice pd n cd] := by rw [hW0, hb0]; exact Bx.new w _ _
 have hS : (fun (V : World) => V.cell? ⟨b0, 0, none⟩ = some (.slice p n c) ∧ V.cell? ⟨b0, 1, none⟩ = some (.slice pf n cf) ∧ V.cell? ⟨b0, 2, none⟩ = some (.slice pd n cd)) W0 := ⟨hT.cell rfl, hT.cell rfl, hT.cell rfl⟩
 have HBL := lh hbl
 have HBW0 : Hid (Below W0.heap.size W0 W0) := Below.refl _ _
 have HL := lh (hL.below hbl)
 have HOF := lh (And.intro (ownZ_below hfs hbl) (ownZ_below hds hbl))
 have HN := lh (And.intro hn (And.intro h1 (And.intro h4 hl)))
 have HW0 := lh (And.intro hW0 hb0)
 obtain ⟨ub, hub⟩ : ∃ b : Bool, b = allB (upToB nm) xs [5, 8] := ⟨_, rfl⟩
 obtain ⟨eb, heb⟩ : ∃ b : Bool, b = allB endlessB xs [7] := ⟨_, rfl⟩
 have HV : Hid (spreadB xs l nm = (ub && eb)) := by show _ = _; unfold spreadB; rw [← hub, ← heb]
 have HAC : Hid (∀ V q, Below W0.heap.size W0 V → SlU V (some ⟨q, 0, none⟩) [7] → Calls Tryz.prog 121 #[.slice p n c, .func (.func 125) #[] #[], .slice (some ⟨q, 0, none⟩) 1 1] V fun e w' => e = .returned (.bool eb) ∧ Below V.heap.size V w') := fun V q hV hU => by
  rw [heb]; exact allEndless_any p n c xs (some ⟨q, 0, none⟩) 1 1 [7] V hn (by omega) rfl (by omega) (HL.out.below hV) hU
 have HUC : Hid (∀ V q g, Below W0.heap.size W0 V → SlU V (some ⟨q, 0, none⟩) [5, 8] → Bx V g 3 #[.int .i64 (nm : Nat)] → Calls Tryz.prog 121 #[.slice p n c, .func (.func 176) #[] #[.pointer (some ⟨g, 0, none⟩)], .slice (some ⟨q, 0, none⟩) 2 2] V fun e w' => e = .returned (.bool ub) ∧ Below V.heap.size V w') := fun V q g hV hU hG => by
  rw [hub]; exact allUpTo_any nm g p n c xs (some ⟨q, 0, none⟩) 2 2 [5, 8] V hn (by omega) rfl (by omega) hG (HL.out.below hV) hU
 clear heb hub
 cases ub with
 | false =>
  have HF : Hid (spreadB xs l nm = false) := HV.out
  clear hbl hT hL hfs hds hn h1 h4 hl hW0 hb0
  have hS0 := hS
  clear hS
  go_enter Tryz.func72, Tryz.ntmps72
  go_wp2
  rw [← HW0.out.2]
  refine wp_region_L (S := fun (V : World) => V.cell? ⟨b0, 0, none⟩ = some (.slice p n c) ∧ V.cell? ⟨b0, 1, none⟩ = some (.slice pf n cf) ∧ V.cell? ⟨b0, 2, none⟩ = some (.slice pd n cd)) (S2 := fun (V : World) => V.cell? ⟨b0, 0, none⟩ = some (.slice p n c) ∧ V.cell? ⟨b0, 1, none⟩ = some (.slice pf n cf) ∧ V.cell? ⟨b0, 2, none⟩ = some (.slice pd n cd)) 12 12 (by kernel_rfl) ?_
  rw [show (w.alloc (.cells #[.slice p n c, .slice pf n cf, .slice pd n cd] 66)).drew = W0 from HW0.out.1.symm]
  have hS := hS0
  have hS2 := hS0
  clear hS0
  refine tk1 0 ⟨hS, hS2⟩ ?_
  try simp only [Act.put, sb]
  refine tk1 1 ⟨hS, hS2⟩ ?_
  try simp only [Act.put, sb]
  refine tk1 2 ⟨hS, hS2⟩ ?_
  try simp only [Act.put, sb]
  refine anyL_two (i := 3) (k := 4) (o := ⟨some 8, Op.call ⟨.value (.func 124), #[.tmp 7], #[3]⟩, 159, "written.go:20", #[⟨2, .data⟩], none⟩) (o' := ⟨some 9, Op.buildSlice 154 2 #[(0, .const (.int .u8 5)), (1, .const (.int .u8 8))], 154, "written.go:20", #[], none⟩) (by kernel_rfl) rfl rfl (fun K hK => ?_) (fun K hK => ?_)
  ·skip
   go_simp
   refine (upTo_any nm W0).mono ?_
   rintro e w5 ⟨rfl, hww5⟩
   have hbw5 : Below W0.heap.size W0 w5 := by rw [hww5]; exact bl_alloc _ _
   have HGw5 : Hid (Bx w5 W0.heap.size 3 #[.int .i64 (nm : Nat)]) := by show Bx _ _ _ _; rw [hww5]; exact Bx.new _ _ _
   clear hww5
   have HBw5 := lh (HBW0.out.trans (hbw5.mono HBW0.out.size))
   have hSw5 := ks3 hS hbw5
   refine hK.out _ _ ⟨fun _ => hSw5, fun _ => hSw5⟩ ?_
   clear hK K hS hS2 hbw5
   have hS := hSw5
   have hS2 := hSw5
   clear hSw5
   try simp only [Act.put, sb]
   refine aone 4 (fun K hK => ?_)
   go_simp
   obtain ⟨w6, hww6⟩ : ∃ W, W = w5.alloc (.cells #[.int .u8 5, .int .u8 8] 22) := ⟨_, rfl⟩
   rw [← hww6]
   have hbw6 : Below w5.heap.size w5 w6 := by rw [hww6]; exact bl_alloc _ _
   have HUw6 : Hid (SlU w6 (some ⟨w5.heap.size, 0, none⟩) [5, 8]) := by show SlU _ _ _; rw [hww6]; exact slu_new _ _ _ _ rfl
   have HBX := lh hbw6
   clear hww6
   have HBw6 := lh (HBw5.out.trans (hbw6.mono HBw5.out.size))
   have hSw6 := ks3 hS hbw6
   refine hK.out _ _ ⟨fun _ => hSw6, fun _ => hSw6⟩ ?_
   clear hK K hS hS2 hbw6
   have hS := hSw6
   have hS2 := hSw6
   clear hSw6
   try simp only [Act.put, sb]
   refine aone 5 (fun K hK => ?_)
   go_simp
   refine (HUC.out w6 _ _ HBw6.out HUw6.out (HGw5.out.below HBX.out)).mono ?_
   rintro e w7 ⟨rfl, hbw7⟩
   have HBw7 := lh (HBw6.out.trans (hbw7.mono HBw6.out.size))
   have hSw7 := ks3 hS hbw7
   refine hK.out _ _ ⟨fun _ => hSw7, fun _ => hSw7⟩ ?_
   clear hK K hS hS2 hbw7
   have hS := hSw7
   have hS2 := hSw7
   clear hSw7
   try simp only [Act.put, sb]
   refine tk1 6 ⟨hS, hS2⟩ ?_
   try simp only [Act.put, sb]
   refine tu1 7 ⟨hS, hS2⟩ ?_
   try simp only [Act.put, sb]
   refine tu1 8 ⟨hS, hS2⟩ ?_
   try simp only [Act.put, sb]
   refine tu1 9 ⟨hS, hS2⟩ ?_
   try simp only [Act.put, sb]
   refine tu1 10 ⟨hS, hS2⟩ ?_
   try simp only [Act.put, sb]
   refine tk1 11 ⟨hS, hS2⟩ ?_
   try simp only [Act.put, sb]
   refine aone 12 (fun K hK => ?_)
   go_simp
   refine hK.out _ _ ⟨fun h => absurd h (by decide), fun h => absurd h (by decide)⟩ ?_
   clear hK K hS hS2
   try simp only [Act.put, sb]
   refine anyL_done (by kernel_rfl) (show onlyN _ .normal _ _ from ?_) _
   dsimp only [onlyN]
   go_wp2
   go_ret
   exact ⟨by rw [HF.out]; rfl, HBL.out.trans (HBw7.out.mono HBL.out.size)⟩
  ·skip
   go_simp
   obtain ⟨w5, hww5⟩ : ∃ W, W = W0.alloc (.cells #[.int .u8 5, .int .u8 8] 22) := ⟨_, rfl⟩
   rw [← hww5]
   have hbw5 : Below W0.heap.size W0 w5 := by rw [hww5]; exact bl_alloc _ _
   have HUw5 : Hid (SlU w5 (some ⟨W0.heap.size, 0, none⟩) [5, 8]) := by show SlU _ _ _; rw [hww5]; exact slu_new _ _ _ _ rfl
   clear hww5
   have HBw5 := lh (HBW0.out.trans (hbw5.mono HBW0.out.size))
   have hSw5 := ks3 hS hbw5
   refine hK.out _ _ ⟨fun _ => hSw5, fun _ => hSw5⟩ ?_
   clear hK K hS hS2 hbw5
   have hS := hSw5
   have hS2 := hSw5
   clear hSw5
   try simp only [Act.put, sb]
   refine aone 3 (fun K hK => ?_)
   go_simp
   refine (upTo_any nm w5).mono ?_
   rintro e w6 ⟨rfl, hww6⟩
   have hbw6 : Below w5.heap.size w5 w6 := by rw [hww6]; exact bl_alloc _ _
   have HGw6 : Hid (Bx w6 w5.heap.size 3 #[.int .i64 (nm : Nat)]) := by show Bx _ _ _ _; rw [hww6]; exact Bx.new _ _ _
   have HBX := lh hbw6
   clear hww6
   have HBw6 := lh (HBw5.out.trans (hbw6.mono HBw5.out.size))
   have hSw6 := ks3 hS hbw6
   refine hK.out _ _ ⟨fun _ => hSw6, fun _ => hSw6⟩ ?_
   clear hK K hS hS2 hbw6
   have hS := hSw6
   have hS2 := hSw6
   clear hSw6
   try simp only [Act.put, sb]
   refine aone 5 (fun K hK => ?_)
   go_simp
   refine (HUC.out w6 _ _ HBw6.out (HUw5.out.below HBX.out) HGw6.out).mono ?_
   rintro e w7 ⟨rfl, hbw7⟩
   have HBw7 := lh (HBw6.out.trans (hbw7.mono HBw6.out.size))
   have hSw7 := ks3 hS hbw7
   refine hK.out _ _ ⟨fun _ => hSw7, fun _ => hSw7⟩ ?_
   clear hK K hS hS2 hbw7
   have hS := hSw7
   have hS2 := hSw7
   clear hSw7
   try simp only [Act.put, sb]
   refine tk1 6 ⟨hS, hS2⟩ ?_
   try simp only [Act.put, sb]
   refine tu1 7 ⟨hS, hS2⟩ ?_
   try simp only [Act.put, sb]
   refine tu1 8 ⟨hS, hS2⟩ ?_
   try simp only [Act.put, sb]
   refine tu1 9 ⟨hS, hS2⟩ ?_
   try simp only [Act.put, sb]
   refine tu1 10 ⟨hS, hS2⟩ ?_
   try simp only [Act.put, sb]
   refine tk1 11 ⟨hS, hS2⟩ ?_
   try simp only [Act.put, sb]
   refine aone 12 (fun K hK => ?_)
   go_simp
   refine hK.out _ _ ⟨fun h => absurd h (by decide), fun h => absurd h (by decide)⟩ ?_
   clear hK K hS hS2
   try simp only [Act.put, sb]
   refine anyL_done (by kernel_rfl) (show onlyN _ .normal _ _ from ?_) _
   dsimp only [onlyN]
   go_wp2
   go_ret
   exact ⟨by rw [HF.out]; rfl, HBL.out.trans (HBw7.out.mono HBL.out.size)⟩
 | true =>
  cases eb with
  | false =>
   have HF : Hid (spreadB xs l nm = false) := HV.out
   clear hbl hT hL hfs hds hn h1 h4 hl hW0 hb0
   have hS0 := hS
   clear hS
   go_enter Tryz.func72, Tryz.ntmps72
   go_wp2
   rw [← HW0.out.2]
   refine wp_region_L (S := fun (V : World) => V.cell? ⟨b0, 0, none⟩ = some (.slice p n c) ∧ V.cell? ⟨b0, 1, none⟩ = some (.slice pf n cf) ∧ V.cell? ⟨b0, 2, none⟩ = some (.slice pd n cd)) (S2 := fun (V : World) => V.cell? ⟨b0, 0, none⟩ = some (.slice p n c) ∧ V.cell? ⟨b0, 1, none⟩ = some (.slice pf n cf) ∧ V.cell? ⟨b0, 2, none⟩ = some (.slice pd n cd)) 12 12 (by kernel_rfl) ?_
   rw [show (w.alloc (.cells #[.slice p n c, .slice pf n cf, .slice pd n cd] 66)).drew = W0 from HW0.out.1.symm]
   have hS := hS0
   have hS2 := hS0
   clear hS0
   refine tk1 0 ⟨hS, hS2⟩ ?_
   try simp only [Act.put, sb]
   refine tk1 1 ⟨hS, hS2⟩ ?_
   try simp only [Act.put, sb]
   refine tk1 2 ⟨hS, hS2⟩ ?_
   try simp only [Act.put, sb]
   refine anyL_two (i := 3) (k := 4) (o := ⟨some 8, Op.call ⟨.value (.func 124), #[.tmp 7], #[3]⟩, 159, "written.go:20", #[⟨2, .data⟩], none⟩) (o' := ⟨some 9, Op.buildSlice 154 2 #[(0, .const (.int .u8 5)), (1, .const (.int .u8 8))], 154, "written.go:20", #[], none⟩) (by kernel_rfl) rfl rfl (fun K hK => ?_) (fun K hK => ?_)
   ·skip
    go_simp
    refine (upTo_any nm W0).mono ?_
    rintro e w5 ⟨rfl, hww5⟩
    have hbw5 : Below W0.heap.size W0 w5 := by rw [hww5]; exact bl_alloc _ _
    have HGw5 : Hid (Bx w5 W0.heap.size 3 #[.int .i64 (nm : Nat)]) := by show Bx _ _ _ _; rw [hww5]; exact Bx.new _ _ _
    clear hww5
    have HBw5 := lh (HBW0.out.trans (hbw5.mono HBW0.out.size))
    have hSw5 := ks3 hS hbw5
    refine hK.out _ _ ⟨fun _ => hSw5, fun _ => hSw5⟩ ?_
    clear hK K hS hS2 hbw5
    have hS := hSw5
    have hS2 := hSw5
    clear hSw5
    try simp only [Act.put, sb]
    refine aone 4 (fun K hK => ?_)
    go_simp
    obtain ⟨w6, hww6⟩ : ∃ W, W = w5.alloc (.cells #[.int .u8 5, .int .u8 8] 22) := ⟨_, rfl⟩
    rw [← hww6]
    have hbw6 : Below w5.heap.size w5 w6 := by rw [hww6]; exact bl_alloc _ _
    have HUw6 : Hid (SlU w6 (some ⟨w5.heap.size, 0, none⟩) [5, 8]) := by show SlU _ _ _; rw [hww6]; exact slu_new _ _ _ _ rfl
    have HBX := lh hbw6
    clear hww6
    have HBw6 := lh (HBw5.out.trans (hbw6.mono HBw5.out.size))
    have hSw6 := ks3 hS hbw6
    refine hK.out _ _ ⟨fun _ => hSw6, fun _ => hSw6⟩ ?_
    clear hK K hS hS2 hbw6
    have hS := hSw6
    have hS2 := hSw6
    clear hSw6
    try simp only [Act.put, sb]
    refine aone 5 (fun K hK => ?_)
    go_simp
    refine (HUC.out w6 _ _ HBw6.out HUw6.out (HGw5.out.below HBX.out)).mono ?_
    rintro e w7 ⟨rfl, hbw7⟩
    have HBw7 := lh (HBw6.out.trans (hbw7.mono HBw6.out.size))
    have hSw7 := ks3 hS hbw7
    refine hK.out _ _ ⟨fun _ => hSw7, fun _ => hSw7⟩ ?_
    clear hK K hS hS2 hbw7
    have hS := hSw7
    have hS2 := hSw7
    clear hSw7
    try simp only [Act.put, sb]
    refine tk1 6 ⟨hS, hS2⟩ ?_
    try simp only [Act.put, sb]
    refine tk1 7 ⟨hS, hS2⟩ ?_
    try simp only [Act.put, sb]
    refine tk1 8 ⟨hS, hS2⟩ ?_
    try simp only [Act.put, sb]
    refine aone 9 (fun K hK => ?_)
    go_simp
    obtain ⟨w8, hww8⟩ : ∃ W, W = w7.alloc (.cells #[.int .u8 7] 22) := ⟨_, rfl⟩
    rw [← hww8]
    have hbw8 : Below w7.heap.size w7 w8 := by rw [hww8]; exact bl_alloc _ _
    have HUw8 : Hid (SlU w8 (some ⟨w7.heap.size, 0, none⟩) [7]) := by show SlU _ _ _; rw [hww8]; exact slu_new _ _ _ _ rfl
    clear hww8
    have HBw8 := lh (HBw7.out.trans (hbw8.mono HBw7.out.size))
    have hSw8 := ks3 hS hbw8
    refine hK.out _ _ ⟨fun _ => hSw8, fun _ => hSw8⟩ ?_
    clear hK K hS hS2 hbw8
    have hS := hSw8
    have hS2 := hSw8
    clear hSw8
    try simp only [Act.put, sb]
    refine aone 10 (fun K hK => ?_)
    go_simp
    refine (HAC.out w8 _ HBw8.out HUw8.out).mono ?_
    rintro e w9 ⟨rfl, hbw9⟩
    have HBw9 := lh (HBw8.out.trans (hbw9.mono HBw8.out.size))
    have hSw9 := ks3 hS hbw9
    refine hK.out _ _ ⟨fun _ => hSw9, fun _ => hSw9⟩ ?_
    clear hK K hS hS2 hbw9
    have hS := hSw9
    have hS2 := hSw9
    clear hSw9
    try simp only [Act.put, sb]
    refine tk1 11 ⟨hS, hS2⟩ ?_
    try simp only [Act.put, sb]
    refine aone 12 (fun K hK => ?_)
    go_simp
    refine hK.out _ _ ⟨fun h => absurd h (by decide), fun h => absurd h (by decide)⟩ ?_
    clear hK K hS hS2
    try simp only [Act.put, sb]
    refine anyL_done (by kernel_rfl) (show onlyN _ .normal _ _ from ?_) _
    dsimp only [onlyN]
    go_wp2
    go_ret
    exact ⟨by rw [HF.out]; rfl, HBL.out.trans (HBw9.out.mono HBL.out.size)⟩
   ·skip
    go_simp
    obtain ⟨w5, hww5⟩ : ∃ W, W = W0.alloc (.cells #[.int .u8 5, .int .u8 8] 22) := ⟨_, rfl⟩
    rw [← hww5]
    have hbw5 : Below W0.heap.size W0 w5 := by rw [hww5]; exact bl_alloc _ _
    have HUw5 : Hid (SlU w5 (some ⟨W0.heap.size, 0, none⟩) [5, 8]) := by show SlU _ _ _; rw [hww5]; exact slu_new _ _ _ _ rfl
    clear hww5
    have HBw5 := lh (HBW0.out.trans (hbw5.mono HBW0.out.size))
    have hSw5 := ks3 hS hbw5
    refine hK.out _ _ ⟨fun _ => hSw5, fun _ => hSw5⟩ ?_
    clear hK K hS hS2 hbw5
    have hS := hSw5
    have hS2 := hSw5
    clear hSw5
    try simp only [Act.put, sb]
    refine aone 3 (fun K hK => ?_)
    go_simp
    refine (upTo_any nm w5).mono ?_
    rintro e w6 ⟨rfl, hww6⟩
    have hbw6 : Below w5.heap.size w5 w6 := by rw [hww6]; exact bl_alloc _ _
    have HGw6 : Hid (Bx w6 w5.heap.size 3 #[.int .i64 (nm : Nat)]) := by show Bx _ _ _ _; rw [hww6]; exact Bx.new _ _ _
    have HBX := lh hbw6
    clear hww6
    have HBw6 := lh (HBw5.out.trans (hbw6.mono HBw5.out.size))
    have hSw6 := ks3 hS hbw6
    refine hK.out _ _ ⟨fun _ => hSw6, fun _ => hSw6⟩ ?_
    clear hK K hS hS2 hbw6
    have hS := hSw6
    have hS2 := hSw6
    clear hSw6
    try simp only [Act.put, sb]
    refine aone 5 (fun K hK => ?_)
    go_simp
    refine (HUC.out w6 _ _ HBw6.out (HUw5.out.below HBX.out) HGw6.out).mono ?_
    rintro e w7 ⟨rfl, hbw7⟩
    have HBw7 := lh (HBw6.out.trans (hbw7.mono HBw6.out.size))
    have hSw7 := ks3 hS hbw7
    refine hK.out _ _ ⟨fun _ => hSw7, fun _ => hSw7⟩ ?_
    clear hK K hS hS2 hbw7
    have hS := hSw7
    have hS2 := hSw7
    clear hSw7
    try simp only [Act.put, sb]
    refine tk1 6 ⟨hS, hS2⟩ ?_
    try simp only [Act.put, sb]
    refine tk1 7 ⟨hS, hS2⟩ ?_
    try simp only [Act.put, sb]
    refine tk1 8 ⟨hS, hS2⟩ ?_
    try simp only [Act.put, sb]
    refine aone 9 (fun K hK => ?_)
    go_simp
    obtain ⟨w8, hww8⟩ : ∃ W, W = w7.alloc (.cells #[.int .u8 7] 22) := ⟨_, rfl⟩
    rw [← hww8]
    have hbw8 : Below w7.heap.size w7 w8 := by rw [hww8]; exact bl_alloc _ _
    have HUw8 : Hid (SlU w8 (some ⟨w7.heap.size, 0, none⟩) [7]) := by show SlU _ _ _; rw [hww8]; exact slu_new _ _ _ _ rfl
    clear hww8
    have HBw8 := lh (HBw7.out.trans (hbw8.mono HBw7.out.size))
    have hSw8 := ks3 hS hbw8
    refine hK.out _ _ ⟨fun _ => hSw8, fun _ => hSw8⟩ ?_
    clear hK K hS hS2 hbw8
    have hS := hSw8
    have hS2 := hSw8
    clear hSw8
    try simp only [Act.put, sb]
    refine aone 10 (fun K hK => ?_)
    go_simp
    refine (HAC.out w8 _ HBw8.out HUw8.out).mono ?_
    rintro e w9 ⟨rfl, hbw9⟩
    have HBw9 := lh (HBw8.out.trans (hbw9.mono HBw8.out.size))
    have hSw9 := ks3 hS hbw9
    refine hK.out _ _ ⟨fun _ => hSw9, fun _ => hSw9⟩ ?_
    clear hK K hS hS2 hbw9
    have hS := hSw9
    have hS2 := hSw9
    clear hSw9
    try simp only [Act.put, sb]
    refine tk1 11 ⟨hS, hS2⟩ ?_
    try simp only [Act.put, sb]
    refine aone 12 (fun K hK => ?_)
    go_simp
    refine hK.out _ _ ⟨fun h => absurd h (by decide), fun h => absurd h (by decide)⟩ ?_
    clear hK K hS hS2
    try simp only [Act.put, sb]
    refine anyL_done (by kernel_rfl) (show onlyN _ .normal _ _ from ?_) _
    dsimp only [onlyN]
    go_wp2
    go_ret
    exact ⟨by rw [HF.out]; rfl, HBL.out.trans (HBw9.out.mono HBL.out.size)⟩
  | true =>
   have HF : Hid (spreadB xs l nm = true) := HV.out
   clear hbl hT hL hfs hds hn h1 h4 hl hW0 hb0
   have hS0 := hS
   clear hS
   go_enter Tryz.func72, Tryz.ntmps72
   go_wp2
   rw [← HW0.out.2]
   refine wp_region_L (S := fun (V : World) => V.cell? ⟨b0, 0, none⟩ = some (.slice p n c) ∧ V.cell? ⟨b0, 1, none⟩ = some (.slice pf n cf) ∧ V.cell? ⟨b0, 2, none⟩ = some (.slice pd n cd)) (S2 := fun (V : World) => V.cell? ⟨b0, 0, none⟩ = some (.slice p n c) ∧ V.cell? ⟨b0, 1, none⟩ = some (.slice pf n cf) ∧ V.cell? ⟨b0, 2, none⟩ = some (.slice pd n cd)) 12 12 (by kernel_rfl) ?_
   rw [show (w.alloc (.cells #[.slice p n c, .slice pf n cf, .slice pd n cd] 66)).drew = W0 from HW0.out.1.symm]
   have hS := hS0
   have hS2 := hS0
   clear hS0
   refine tk1 0 ⟨hS, hS2⟩ ?_
   try simp only [Act.put, sb]
   refine tk1 1 ⟨hS, hS2⟩ ?_
   try simp only [Act.put, sb]
   refine tk1 2 ⟨hS, hS2⟩ ?_
   try simp only [Act.put, sb]
   refine anyL_two (i := 3) (k := 4) (o := ⟨some 8, Op.call ⟨.value (.func 124), #[.tmp 7], #[3]⟩, 159, "written.go:20", #[⟨2, .data⟩], none⟩) (o' := ⟨some 9, Op.buildSlice 154 2 #[(0, .const (.int .u8 5)), (1, .const (.int .u8 8))], 154, "written.go:20", #[], none⟩) (by kernel_rfl) rfl rfl (fun K hK => ?_) (fun K hK => ?_)
   ·skip
    go_simp
    refine (upTo_any nm W0).mono ?_
    rintro e w5 ⟨rfl, hww5⟩
    have hbw5 : Below W0.heap.size W0 w5 := by rw [hww5]; exact bl_alloc _ _
    have HGw5 : Hid (Bx w5 W0.heap.size 3 #[.int .i64 (nm : Nat)]) := by show Bx _ _ _ _; rw [hww5]; exact Bx.new _ _ _
    clear hww5
    have HBw5 := lh (HBW0.out.trans (hbw5.mono HBW0.out.size))
    have hSw5 := ks3 hS hbw5
    refine hK.out _ _ ⟨fun _ => hSw5, fun _ => hSw5⟩ ?_
    clear hK K hS hS2 hbw5
    have hS := hSw5
    have hS2 := hSw5
    clear hSw5
    try simp only [Act.put, sb]
    refine aone 4 (fun K hK => ?_)
    go_simp
    obtain ⟨w6, hww6⟩ : ∃ W, W = w5.alloc (.cells #[.int .u8 5, .int .u8 8] 22) := ⟨_, rfl⟩
    rw [← hww6]
    have hbw6 : Below w5.heap.size w5 w6 := by rw [hww6]; exact bl_alloc _ _
    have HUw6 : Hid (SlU w6 (some ⟨w5.heap.size, 0, none⟩) [5, 8]) := by show SlU _ _ _; rw [hww6]; exact slu_new _ _ _ _ rfl
    have HBX := lh hbw6
    clear hww6
    have HBw6 := lh (HBw5.out.trans (hbw6.mono HBw5.out.size))
    have hSw6 := ks3 hS hbw6
    refine hK.out _ _ ⟨fun _ => hSw6, fun _ => hSw6⟩ ?_
    clear hK K hS hS2 hbw6
    have hS := hSw6
    have hS2 := hSw6
    clear hSw6
    try simp only [Act.put, sb]
    refine aone 5 (fun K hK => ?_)
    go_simp
    refine (HUC.out w6 _ _ HBw6.out HUw6.out (HGw5.out.below HBX.out)).mono ?_
    rintro e w7 ⟨rfl, hbw7⟩
    have HBw7 := lh (HBw6.out.trans (hbw7.mono HBw6.out.size))
    have hSw7 := ks3 hS hbw7
    refine hK.out _ _ ⟨fun _ => hSw7, fun _ => hSw7⟩ ?_
    clear hK K hS hS2 hbw7
    have hS := hSw7
    have hS2 := hSw7
    clear hSw7
    try simp only [Act.put, sb]
    refine tk1 6 ⟨hS, hS2⟩ ?_
    try simp only [Act.put, sb]
    refine tk1 7 ⟨hS, hS2⟩ ?_
    try simp only [Act.put, sb]
    refine tk1 8 ⟨hS, hS2⟩ ?_
    try simp only [Act.put, sb]
    refine aone 9 (fun K hK => ?_)
    go_simp
    obtain ⟨w8, hww8⟩ : ∃ W, W = w7.alloc (.cells #[.int .u8 7] 22) := ⟨_, rfl⟩
    rw [← hww8]
    have hbw8 : Below w7.heap.size w7 w8 := by rw [hww8]; exact bl_alloc _ _
    have HUw8 : Hid (SlU w8 (some ⟨w7.heap.size, 0, none⟩) [7]) := by show SlU _ _ _; rw [hww8]; exact slu_new _ _ _ _ rfl
    clear hww8
    have HBw8 := lh (HBw7.out.trans (hbw8.mono HBw7.out.size))
    have hSw8 := ks3 hS hbw8
    refine hK.out _ _ ⟨fun _ => hSw8, fun _ => hSw8⟩ ?_
    clear hK K hS hS2 hbw8
    have hS := hSw8
    have hS2 := hSw8
    clear hSw8
    try simp only [Act.put, sb]
    refine aone 10 (fun K hK => ?_)
    go_simp
    refine (HAC.out w8 _ HBw8.out HUw8.out).mono ?_
    rintro e w9 ⟨rfl, hbw9⟩
    have HBw9 := lh (HBw8.out.trans (hbw9.mono HBw8.out.size))
    have hSw9 := ks3 hS hbw9
    refine hK.out _ _ ⟨fun _ => hSw9, fun _ => hSw9⟩ ?_
    clear hK K hS hS2 hbw9
    have hS := hSw9
    have hS2 := hSw9
    clear hSw9
    try simp only [Act.put, sb]
    refine tk1 11 ⟨hS, hS2⟩ ?_
    try simp only [Act.put, sb]
    refine aone 12 (fun K hK => ?_)
    go_simp
    refine hK.out _ _ ⟨fun h => absurd h (by decide), fun h => absurd h (by decide)⟩ ?_
    clear hK K hS hS2
    try simp only [Act.put, sb]
    refine anyL_done (by kernel_rfl) (show onlyN _ .normal _ _ from ?_) _
    dsimp only [onlyN]
    go_wp2
    go_ret
    exact ⟨by rw [HF.out]; rfl, HBL.out.trans (HBw9.out.mono HBL.out.size)⟩
   ·skip
    go_simp
    obtain ⟨w5, hww5⟩ : ∃ W, W = W0.alloc (.cells #[.int .u8 5, .int .u8 8] 22) := ⟨_, rfl⟩
    rw [← hww5]
    have hbw5 : Below W0.heap.size W0 w5 := by rw [hww5]; exact bl_alloc _ _
    have HUw5 : Hid (SlU w5 (some ⟨W0.heap.size, 0, none⟩) [5, 8]) := by show SlU _ _ _; rw [hww5]; exact slu_new _ _ _ _ rfl
    clear hww5
    have HBw5 := lh (HBW0.out.trans (hbw5.mono HBW0.out.size))
    have hSw5 := ks3 hS hbw5
    refine hK.out _ _ ⟨fun _ => hSw5, fun _ => hSw5⟩ ?_
    clear hK K hS hS2 hbw5
    have hS := hSw5
    have hS2 := hSw5
    clear hSw5
    try simp only [Act.put, sb]
    refine aone 3 (fun K hK => ?_)
    go_simp
    refine (upTo_any nm w5).mono ?_
    rintro e w6 ⟨rfl, hww6⟩
    have hbw6 : Below w5.heap.size w5 w6 := by rw [hww6]; exact bl_alloc _ _
    have HGw6 : Hid (Bx w6 w5.heap.size 3 #[.int .i64 (nm : Nat)]) := by show Bx _ _ _ _; rw [hww6]; exact Bx.new _ _ _
    have HBX := lh hbw6
    clear hww6
    have HBw6 := lh (HBw5.out.trans (hbw6.mono HBw5.out.size))
    have hSw6 := ks3 hS hbw6
    refine hK.out _ _ ⟨fun _ => hSw6, fun _ => hSw6⟩ ?_
    clear hK K hS hS2 hbw6
    have hS := hSw6
    have hS2 := hSw6
    clear hSw6
    try simp only [Act.put, sb]
    refine aone 5 (fun K hK => ?_)
    go_simp
    refine (HUC.out w6 _ _ HBw6.out (HUw5.out.below HBX.out) HGw6.out).mono ?_
    rintro e w7 ⟨rfl, hbw7⟩
    have HBw7 := lh (HBw6.out.trans (hbw7.mono HBw6.out.size))
    have hSw7 := ks3 hS hbw7
    refine hK.out _ _ ⟨fun _ => hSw7, fun _ => hSw7⟩ ?_
    clear hK K hS hS2 hbw7
    have hS := hSw7
    have hS2 := hSw7
    clear hSw7
    try simp only [Act.put, sb]
    refine tk1 6 ⟨hS, hS2⟩ ?_
    try simp only [Act.put, sb]
    refine tk1 7 ⟨hS, hS2⟩ ?_
    try simp only [Act.put, sb]
    refine tk1 8 ⟨hS, hS2⟩ ?_
    try simp only [Act.put, sb]
    refine aone 9 (fun K hK => ?_)
    go_simp
    obtain ⟨w8, hww8⟩ : ∃ W, W = w7.alloc (.cells #[.int .u8 7] 22) := ⟨_, rfl⟩
    rw [← hww8]
    have hbw8 : Below w7.heap.size w7 w8 := by rw [hww8]; exact bl_alloc _ _
    have HUw8 : Hid (SlU w8 (some ⟨w7.heap.size, 0, none⟩) [7]) := by show SlU _ _ _; rw [hww8]; exact slu_new _ _ _ _ rfl
    clear hww8
    have HBw8 := lh (HBw7.out.trans (hbw8.mono HBw7.out.size))
    have hSw8 := ks3 hS hbw8
    refine hK.out _ _ ⟨fun _ => hSw8, fun _ => hSw8⟩ ?_
    clear hK K hS hS2 hbw8
    have hS := hSw8
    have hS2 := hSw8
    clear hSw8
    try simp only [Act.put, sb]
    refine aone 10 (fun K hK => ?_)
    go_simp
    refine (HAC.out w8 _ HBw8.out HUw8.out).mono ?_
    rintro e w9 ⟨rfl, hbw9⟩
    have HBw9 := lh (HBw8.out.trans (hbw9.mono HBw8.out.size))
    have hSw9 := ks3 hS hbw9
    refine hK.out _ _ ⟨fun _ => hSw9, fun _ => hSw9⟩ ?_
    clear hK K hS hS2 hbw9
    have hS := hSw9
    have hS2 := hSw9
    clear hSw9
    try simp only [Act.put, sb]
    refine tk1 11 ⟨hS, hS2⟩ ?_
    try simp only [Act.put, sb]
    refine aone 12 (fun K hK => ?_)
    go_simp
    refine hK.out _ _ ⟨fun h => absurd h (by decide), fun h => absurd h (by decide)⟩ ?_
    clear hK K hS hS2
    try simp only [Act.put, sb]
    refine anyL_done (by kernel_rfl) (show onlyN _ .normal _ _ from ?_) _
    dsimp only [onlyN]
    go_wp2
    go_ret
    exact ⟨by rw [HF.out]; rfl, HBL.out.trans (HBw9.out.mono HBL.out.size)⟩
end Go.Proofs.YtkefndfgkmdphaaGreat
