import Derived.Test.YtkefndfgkmdphaaGreatFi
import Derived.Test.YtkefndfgkmdphaaGreatMd

namespace Go.Proofs.YtkefndfgkmdphaaGreat
set_option maxHeartbeats 6400000
set_option maxRecDepth 100000
open Go.RowKit Tnr Tnt

def writtenB (xs : List NV) (l : List (Nat × Nat)) (nm : Nat) : Bool := decide ((gf l (xs.length - 1)).2 ≤ 60) && (allB neverB xs [12, 13] && (countB xs (fsZ l) nm && allB (upToB nm) xs [8]))
theorem written_any (p : Option Addr) (n c : Nat) (xs : List NV) (pf pd : Option Addr) (cf cd nm : Nat) (l : List (Nat × Nat)) (B : Nat) (w : World) (hn : n = xs.length) (h1 : 1 ≤ n) (h4 : n ≤ 4000) (hl : n = l.length) (hL : SlN w p xs) (hfs : OwnZ w B (.slice pf n cf) (fsZ l)) (hds : OwnZ w B (.slice pd n cd) (dsZ l)) :
  Calls Tryz.prog 71 #[.agg #[.slice p n c, .slice pf n cf, .slice pd n cd], .int .i64 (nm : Nat)] w fun e w' => e = .returned (.bool (writtenB xs l nm)) ∧ Below w.heap.size w w' := by
 obtain ⟨W0, hW0⟩ : ∃ W, W = (w.alloc (.cells #[.slice p n c, .slice pf n cf, .slice pd n cd] 66)).drew := ⟨_, rfl⟩
 obtain ⟨b0, hb0⟩ : ∃ b, b = w.heap.size := ⟨_, rfl⟩
 have hbl : Below w.heap.size w W0 := by rw [hW0]; exact (bl_alloc _ _).drew
 have hT : Bx W0 b0 66 #[.slice p n c, .slice pf n cf, .slice pd n cd] := by rw [hW0, hb0]; exact Bx.new w _ _
 have hS : (fun (V : World) => V.cell? ⟨b0, 0, none⟩ = some (.slice p n c) ∧ V.cell? ⟨b0, 1, none⟩ = some (.slice pf n cf) ∧ V.cell? ⟨b0, 2, none⟩ = some (.slice pd n cd)) W0 := ⟨hT.cell rfl, hT.cell rfl, hT.cell rfl⟩
 have HBL := lh hbl
 have HBW0 : Hid (Below W0.heap.size W0 W0) := Below.refl _ _
 have HL := lh (hL.below hbl)
 have HOF := lh (And.intro (ownZ_below hfs hbl) (ownZ_below hds hbl))
 have HN := lh (And.intro hn (And.intro h1 (And.intro h4 hl)))
 have HW0 := lh (And.intro hW0 hb0)
 obtain ⟨dp, hdp⟩ : ∃ d, d = (gf l (xs.length - 1)).2 := ⟨_, rfl⟩
 obtain ⟨ab, hab⟩ : ∃ b : Bool, b = allB neverB xs [12, 13] := ⟨_, rfl⟩
 obtain ⟨cb, hcb⟩ : ∃ b : Bool, b = countB xs (fsZ l) nm := ⟨_, rfl⟩
 obtain ⟨ub, hub⟩ : ∃ b : Bool, b = allB (upToB nm) xs [8] := ⟨_, rfl⟩
 have HV : Hid (writtenB xs l nm = (decide (dp ≤ 60) && (ab && (cb && ub)))) := by show _ = _; unfold writtenB; rw [← hdp, ← hab, ← hcb, ← hub]
 have HDC : Hid (∀ V, Below W0.heap.size W0 V → Calls Tryz.prog 73 #[.agg #[.slice p n c, .slice pf n cf, .slice pd n cd]] V fun e w' => e = .returned (.int .i64 (dp : Nat)) ∧ Below V.heap.size V w') := fun V hV => by
  have := deep_any (.slice p n c) pf pd n cf cd l B V hl h1 h4 (ownZ_below HOF.out.2 hV)
  rw [hn, ← hdp] at this; rw [hn]; exact this
 have HAC : Hid (∀ V q, Below W0.heap.size W0 V → SlU V (some ⟨q, 0, none⟩) [12, 13] → Calls Tryz.prog 121 #[.slice p n c, .func (.func 122) #[] #[], .slice (some ⟨q, 0, none⟩) 2 2] V fun e w' => e = .returned (.bool ab) ∧ Below V.heap.size V w') := fun V q hV hU => by
  rw [hab]; exact allNever_any p n c xs (some ⟨q, 0, none⟩) 2 2 [12, 13] V hn (by omega) rfl (by omega) (HL.out.below hV) hU
 have HCC : Hid (∀ V, Below W0.heap.size W0 V → Calls Tryz.prog 123 #[.agg #[.slice p n c, .slice pf n cf, .slice pd n cd], .int .i64 (nm : Nat)] V fun e w' => e = .returned (.bool cb) ∧ Below V.heap.size V w') := fun V hV => by
  rw [hcb]; exact counted_any p n c xs pf pd cf cd nm (fsZ l) V hn h1 (by omega) (HL.out.below hV) (by rw [fsZ_length]; exact hl) (ownZ_slz (ownZ_below HOF.out.1 hV))
 have HUC : Hid (∀ V q g, Below W0.heap.size W0 V → SlU V (some ⟨q, 0, none⟩) [8] → Bx V g 3 #[.int .i64 (nm : Nat)] → Calls Tryz.prog 121 #[.slice p n c, .func (.func 176) #[] #[.pointer (some ⟨g, 0, none⟩)], .slice (some ⟨q, 0, none⟩) 1 1] V fun e w' => e = .returned (.bool ub) ∧ Below V.heap.size V w') := fun V q g hV hU hG => by
  rw [hub]; exact allUpTo_any nm g p n c xs (some ⟨q, 0, none⟩) 1 1 [8] V hn (by omega) rfl (by omega) hG (HL.out.below hV) hU
 clear hdp hab hcb hub
 by_cases h60 : dp ≤ 60
 ·have e60 : decide (((dp : Nat) : Int) ≤ 60) = true := by simp; omega
  have e61 : decide (dp ≤ 60) = true := by simp; omega
  rw [e61] at HV
  clear h60
  cases ab with
  | false =>
   have HF : Hid (writtenB xs l nm = false) := HV.out
   clear hbl hT hL hfs hds hn h1 h4 hl hW0 hb0
   have hS0 := hS
   clear hS
   go_enter Tryz.func71, Tryz.ntmps71
   go_wp2
   rw [← HW0.out.2]
   refine wp_region_L (S := fun (V : World) => V.cell? ⟨b0, 0, none⟩ = some (.slice p n c) ∧ V.cell? ⟨b0, 1, none⟩ = some (.slice pf n cf) ∧ V.cell? ⟨b0, 2, none⟩ = some (.slice pd n cd)) (S2 := fun (V : World) => V.cell? ⟨b0, 0, none⟩ = some (.slice p n c) ∧ V.cell? ⟨b0, 1, none⟩ = some (.slice pf n cf) ∧ V.cell? ⟨b0, 2, none⟩ = some (.slice pd n cd)) 22 22 (by kernel_rfl) ?_
   rw [show (w.alloc (.cells #[.slice p n c, .slice pf n cf, .slice pd n cd] 66)).drew = W0 from HW0.out.1.symm]
   have hS := hS0
   have hS2 := hS0
   clear hS0
   refine tk1 0 ⟨hS, hS2⟩ ?_
   try simp only [Act.put, sb]
   refine aone 1 (fun K hK => ?_)
   go_simp
   refine (HDC.out W0 HBW0.out).mono ?_
   rintro e w1 ⟨rfl, hbw1⟩
   have HBw1 := lh (HBW0.out.trans (hbw1.mono HBW0.out.size))
   have hSw1 := ks3 hS hbw1
   refine hK.out _ _ ⟨fun _ => hSw1, fun _ => hSw1⟩ ?_
   clear hK K hS hS2 hbw1
   have hS := hSw1
   have hS2 := hSw1
   clear hSw1
   try simp only [Act.put, sb]
   refine tk1 2 ⟨hS, hS2⟩ ?_
   try simp only [Act.put, sb]
   refine tk1 3 ⟨hS, hS2⟩ ?_
   try simp only [Act.put, sb]
   refine tk1 4 ⟨hS, hS2⟩ ?_
   try simp only [Act.put, sb]
   refine tk1 5 ⟨hS, hS2⟩ ?_
   try simp only [Act.put, sb]
   refine aone 6 (fun K hK => ?_)
   go_simp
   obtain ⟨w2, hww2⟩ : ∃ W, W = w1.alloc (.cells #[.int .u8 12, .int .u8 13] 22) := ⟨_, rfl⟩
   rw [← hww2]
   have hbw2 : Below w1.heap.size w1 w2 := by rw [hww2]; exact bl_alloc _ _
   have HUw2 : Hid (SlU w2 (some ⟨w1.heap.size, 0, none⟩) [12, 13]) := by show SlU _ _ _; rw [hww2]; exact slu_new _ _ _ _ rfl
   clear hww2
   have HBw2 := lh (HBw1.out.trans (hbw2.mono HBw1.out.size))
   have hSw2 := ks3 hS hbw2
   refine hK.out _ _ ⟨fun _ => hSw2, fun _ => hSw2⟩ ?_
   clear hK K hS hS2 hbw2
   have hS := hSw2
   have hS2 := hSw2
   clear hSw2
   try simp only [Act.put, sb]
   refine aone 7 (fun K hK => ?_)
   go_simp
   refine (HAC.out w2 _ HBw2.out HUw2.out).mono ?_
   rintro e w3 ⟨rfl, hbw3⟩
   have HBw3 := lh (HBw2.out.trans (hbw3.mono HBw2.out.size))
   have hSw3 := ks3 hS hbw3
   refine hK.out _ _ ⟨fun _ => hSw3, fun _ => hSw3⟩ ?_
   clear hK K hS hS2 hbw3
   have hS := hSw3
   have hS2 := hSw3
   clear hSw3
   try simp only [Act.put, sb]
   refine tk1 8 ⟨hS, hS2⟩ ?_
   try simp only [Act.put, sb]
   refine tk1 9 ⟨hS, hS2⟩ ?_
   try simp only [Act.put, sb]
   refine tu1 10 ⟨hS, hS2⟩ ?_
   try simp only [Act.put, sb]
   refine tu1 11 ⟨hS, hS2⟩ ?_
   try simp only [Act.put, sb]
   refine tu1 12 ⟨hS, hS2⟩ ?_
   try simp only [Act.put, sb]
   refine tk1 13 ⟨hS, hS2⟩ ?_
   try simp only [Act.put, sb]
   refine tk1 14 ⟨hS, hS2⟩ ?_
   try simp only [Act.put, sb]
   refine tu1 15 ⟨hS, hS2⟩ ?_
   try simp only [Act.put, sb]
   refine tu1 16 ⟨hS, hS2⟩ ?_
   try simp only [Act.put, sb]
   refine tu1 17 ⟨hS, hS2⟩ ?_
   try simp only [Act.put, sb]
   refine tu1 18 ⟨hS, hS2⟩ ?_
   try simp only [Act.put, sb]
   refine tu1 19 ⟨hS, hS2⟩ ?_
   try simp only [Act.put, sb]
   refine tu1 20 ⟨hS, hS2⟩ ?_
   try simp only [Act.put, sb]
   refine tk1 21 ⟨hS, hS2⟩ ?_
   try simp only [Act.put, sb]
   refine aone 22 (fun K hK => ?_)
   go_simp
   refine hK.out _ _ ⟨fun h => absurd h (by decide), fun h => absurd h (by decide)⟩ ?_
   clear hK K hS hS2
   try simp only [Act.put, sb]
   refine anyL_done (by kernel_rfl) (show onlyN _ .normal _ _ from ?_) _
   dsimp only [onlyN]
   go_wp2
   go_ret
   exact ⟨by rw [HF.out]; rfl, HBL.out.trans (HBw3.out.mono HBL.out.size)⟩
  | true =>
   cases cb with
   | false =>
    have HF : Hid (writtenB xs l nm = false) := HV.out
    clear hbl hT hL hfs hds hn h1 h4 hl hW0 hb0
    have hS0 := hS
    clear hS
    go_enter Tryz.func71, Tryz.ntmps71
    go_wp2
    rw [← HW0.out.2]
    refine wp_region_L (S := fun (V : World) => V.cell? ⟨b0, 0, none⟩ = some (.slice p n c) ∧ V.cell? ⟨b0, 1, none⟩ = some (.slice pf n cf) ∧ V.cell? ⟨b0, 2, none⟩ = some (.slice pd n cd)) (S2 := fun (V : World) => V.cell? ⟨b0, 0, none⟩ = some (.slice p n c) ∧ V.cell? ⟨b0, 1, none⟩ = some (.slice pf n cf) ∧ V.cell? ⟨b0, 2, none⟩ = some (.slice pd n cd)) 22 22 (by kernel_rfl) ?_
    rw [show (w.alloc (.cells #[.slice p n c, .slice pf n cf, .slice pd n cd] 66)).drew = W0 from HW0.out.1.symm]
    have hS := hS0
    have hS2 := hS0
    clear hS0
    refine tk1 0 ⟨hS, hS2⟩ ?_
    try simp only [Act.put, sb]
    refine aone 1 (fun K hK => ?_)
    go_simp
    refine (HDC.out W0 HBW0.out).mono ?_
    rintro e w1 ⟨rfl, hbw1⟩
    have HBw1 := lh (HBW0.out.trans (hbw1.mono HBW0.out.size))
    have hSw1 := ks3 hS hbw1
    refine hK.out _ _ ⟨fun _ => hSw1, fun _ => hSw1⟩ ?_
    clear hK K hS hS2 hbw1
    have hS := hSw1
    have hS2 := hSw1
    clear hSw1
    try simp only [Act.put, sb]
    refine tk1 2 ⟨hS, hS2⟩ ?_
    try simp only [Act.put, sb]
    refine tk1 3 ⟨hS, hS2⟩ ?_
    try simp only [Act.put, sb]
    refine tk1 4 ⟨hS, hS2⟩ ?_
    try simp only [Act.put, sb]
    refine tk1 5 ⟨hS, hS2⟩ ?_
    try simp only [Act.put, sb]
    refine aone 6 (fun K hK => ?_)
    go_simp
    obtain ⟨w2, hww2⟩ : ∃ W, W = w1.alloc (.cells #[.int .u8 12, .int .u8 13] 22) := ⟨_, rfl⟩
    rw [← hww2]
    have hbw2 : Below w1.heap.size w1 w2 := by rw [hww2]; exact bl_alloc _ _
    have HUw2 : Hid (SlU w2 (some ⟨w1.heap.size, 0, none⟩) [12, 13]) := by show SlU _ _ _; rw [hww2]; exact slu_new _ _ _ _ rfl
    clear hww2
    have HBw2 := lh (HBw1.out.trans (hbw2.mono HBw1.out.size))
    have hSw2 := ks3 hS hbw2
    refine hK.out _ _ ⟨fun _ => hSw2, fun _ => hSw2⟩ ?_
    clear hK K hS hS2 hbw2
    have hS := hSw2
    have hS2 := hSw2
    clear hSw2
    try simp only [Act.put, sb]
    refine aone 7 (fun K hK => ?_)
    go_simp
    refine (HAC.out w2 _ HBw2.out HUw2.out).mono ?_
    rintro e w3 ⟨rfl, hbw3⟩
    have HBw3 := lh (HBw2.out.trans (hbw3.mono HBw2.out.size))
    have hSw3 := ks3 hS hbw3
    refine hK.out _ _ ⟨fun _ => hSw3, fun _ => hSw3⟩ ?_
    clear hK K hS hS2 hbw3
    have hS := hSw3
    have hS2 := hSw3
    clear hSw3
    try simp only [Act.put, sb]
    refine tk1 8 ⟨hS, hS2⟩ ?_
    try simp only [Act.put, sb]
    refine tk1 9 ⟨hS, hS2⟩ ?_
    try simp only [Act.put, sb]
    refine tk1 10 ⟨hS, hS2⟩ ?_
    try simp only [Act.put, sb]
    refine tk1 11 ⟨hS, hS2⟩ ?_
    try simp only [Act.put, sb]
    refine aone 12 (fun K hK => ?_)
    go_simp
    refine (HCC.out w3 HBw3.out).mono ?_
    rintro e w4 ⟨rfl, hbw4⟩
    have HBw4 := lh (HBw3.out.trans (hbw4.mono HBw3.out.size))
    have hSw4 := ks3 hS hbw4
    refine hK.out _ _ ⟨fun _ => hSw4, fun _ => hSw4⟩ ?_
    clear hK K hS hS2 hbw4
    have hS := hSw4
    have hS2 := hSw4
    clear hSw4
    try simp only [Act.put, sb]
    refine tk1 13 ⟨hS, hS2⟩ ?_
    try simp only [Act.put, sb]
    refine tk1 14 ⟨hS, hS2⟩ ?_
    try simp only [Act.put, sb]
    refine tu1 15 ⟨hS, hS2⟩ ?_
    try simp only [Act.put, sb]
    refine tu1 16 ⟨hS, hS2⟩ ?_
    try simp only [Act.put, sb]
    refine tu1 17 ⟨hS, hS2⟩ ?_
    try simp only [Act.put, sb]
    refine tu1 18 ⟨hS, hS2⟩ ?_
    try simp only [Act.put, sb]
    refine tu1 19 ⟨hS, hS2⟩ ?_
    try simp only [Act.put, sb]
    refine tu1 20 ⟨hS, hS2⟩ ?_
    try simp only [Act.put, sb]
    refine tk1 21 ⟨hS, hS2⟩ ?_
    try simp only [Act.put, sb]
    refine aone 22 (fun K hK => ?_)
    go_simp
    refine hK.out _ _ ⟨fun h => absurd h (by decide), fun h => absurd h (by decide)⟩ ?_
    clear hK K hS hS2
    try simp only [Act.put, sb]
    refine anyL_done (by kernel_rfl) (show onlyN _ .normal _ _ from ?_) _
    dsimp only [onlyN]
    go_wp2
    go_ret
    exact ⟨by rw [HF.out]; rfl, HBL.out.trans (HBw4.out.mono HBL.out.size)⟩
   | true =>
    cases ub with
    | false =>
     have HF : Hid (writtenB xs l nm = false) := HV.out
     clear hbl hT hL hfs hds hn h1 h4 hl hW0 hb0
     have hS0 := hS
     clear hS
     go_enter Tryz.func71, Tryz.ntmps71
     go_wp2
     rw [← HW0.out.2]
     refine wp_region_L (S := fun (V : World) => V.cell? ⟨b0, 0, none⟩ = some (.slice p n c) ∧ V.cell? ⟨b0, 1, none⟩ = some (.slice pf n cf) ∧ V.cell? ⟨b0, 2, none⟩ = some (.slice pd n cd)) (S2 := fun (V : World) => V.cell? ⟨b0, 0, none⟩ = some (.slice p n c) ∧ V.cell? ⟨b0, 1, none⟩ = some (.slice pf n cf) ∧ V.cell? ⟨b0, 2, none⟩ = some (.slice pd n cd)) 22 22 (by kernel_rfl) ?_
     rw [show (w.alloc (.cells #[.slice p n c, .slice pf n cf, .slice pd n cd] 66)).drew = W0 from HW0.out.1.symm]
     have hS := hS0
     have hS2 := hS0
     clear hS0
     refine tk1 0 ⟨hS, hS2⟩ ?_
     try simp only [Act.put, sb]
     refine aone 1 (fun K hK => ?_)
     go_simp
     refine (HDC.out W0 HBW0.out).mono ?_
     rintro e w1 ⟨rfl, hbw1⟩
     have HBw1 := lh (HBW0.out.trans (hbw1.mono HBW0.out.size))
     have hSw1 := ks3 hS hbw1
     refine hK.out _ _ ⟨fun _ => hSw1, fun _ => hSw1⟩ ?_
     clear hK K hS hS2 hbw1
     have hS := hSw1
     have hS2 := hSw1
     clear hSw1
     try simp only [Act.put, sb]
     refine tk1 2 ⟨hS, hS2⟩ ?_
     try simp only [Act.put, sb]
     refine tk1 3 ⟨hS, hS2⟩ ?_
     try simp only [Act.put, sb]
     refine tk1 4 ⟨hS, hS2⟩ ?_
     try simp only [Act.put, sb]
     refine tk1 5 ⟨hS, hS2⟩ ?_
     try simp only [Act.put, sb]
     refine aone 6 (fun K hK => ?_)
     go_simp
     obtain ⟨w2, hww2⟩ : ∃ W, W = w1.alloc (.cells #[.int .u8 12, .int .u8 13] 22) := ⟨_, rfl⟩
     rw [← hww2]
     have hbw2 : Below w1.heap.size w1 w2 := by rw [hww2]; exact bl_alloc _ _
     have HUw2 : Hid (SlU w2 (some ⟨w1.heap.size, 0, none⟩) [12, 13]) := by show SlU _ _ _; rw [hww2]; exact slu_new _ _ _ _ rfl
     clear hww2
     have HBw2 := lh (HBw1.out.trans (hbw2.mono HBw1.out.size))
     have hSw2 := ks3 hS hbw2
     refine hK.out _ _ ⟨fun _ => hSw2, fun _ => hSw2⟩ ?_
     clear hK K hS hS2 hbw2
     have hS := hSw2
     have hS2 := hSw2
     clear hSw2
     try simp only [Act.put, sb]
     refine aone 7 (fun K hK => ?_)
     go_simp
     refine (HAC.out w2 _ HBw2.out HUw2.out).mono ?_
     rintro e w3 ⟨rfl, hbw3⟩
     have HBw3 := lh (HBw2.out.trans (hbw3.mono HBw2.out.size))
     have hSw3 := ks3 hS hbw3
     refine hK.out _ _ ⟨fun _ => hSw3, fun _ => hSw3⟩ ?_
     clear hK K hS hS2 hbw3
     have hS := hSw3
     have hS2 := hSw3
     clear hSw3
     try simp only [Act.put, sb]
     refine tk1 8 ⟨hS, hS2⟩ ?_
     try simp only [Act.put, sb]
     refine tk1 9 ⟨hS, hS2⟩ ?_
     try simp only [Act.put, sb]
     refine tk1 10 ⟨hS, hS2⟩ ?_
     try simp only [Act.put, sb]
     refine tk1 11 ⟨hS, hS2⟩ ?_
     try simp only [Act.put, sb]
     refine aone 12 (fun K hK => ?_)
     go_simp
     refine (HCC.out w3 HBw3.out).mono ?_
     rintro e w4 ⟨rfl, hbw4⟩
     have HBw4 := lh (HBw3.out.trans (hbw4.mono HBw3.out.size))
     have hSw4 := ks3 hS hbw4
     refine hK.out _ _ ⟨fun _ => hSw4, fun _ => hSw4⟩ ?_
     clear hK K hS hS2 hbw4
     have hS := hSw4
     have hS2 := hSw4
     clear hSw4
     try simp only [Act.put, sb]
     refine tk1 13 ⟨hS, hS2⟩ ?_
     try simp only [Act.put, sb]
     refine tk1 14 ⟨hS, hS2⟩ ?_
     try simp only [Act.put, sb]
     refine tk1 15 ⟨hS, hS2⟩ ?_
     try simp only [Act.put, sb]
     refine tk1 16 ⟨hS, hS2⟩ ?_
     try simp only [Act.put, sb]
     refine tk1 17 ⟨hS, hS2⟩ ?_
     try simp only [Act.put, sb]
     refine anyL_two (i := 18) (k := 19) (o := ⟨some 23, Op.call ⟨.value (.func 124), #[.tmp 22], #[3]⟩, 159, "written.go:15", #[⟨17, .data⟩, ⟨14, .chain⟩, ⟨14, .guard⟩], some (14, true)⟩) (o' := ⟨some 24, Op.buildSlice 154 1 #[(0, .const (.int .u8 8))], 154, "written.go:15", #[⟨14, .guard⟩], some (14, true)⟩) (by kernel_rfl) rfl rfl (fun K hK => ?_) (fun K hK => ?_)
     ·skip
      go_simp
      refine (upTo_any nm w4).mono ?_
      rintro e w5 ⟨rfl, hww5⟩
      have hbw5 : Below w4.heap.size w4 w5 := by rw [hww5]; exact bl_alloc _ _
      have HGw5 : Hid (Bx w5 w4.heap.size 3 #[.int .i64 (nm : Nat)]) := by show Bx _ _ _ _; rw [hww5]; exact Bx.new _ _ _
      clear hww5
      have HBw5 := lh (HBw4.out.trans (hbw5.mono HBw4.out.size))
      have hSw5 := ks3 hS hbw5
      refine hK.out _ _ ⟨fun _ => hSw5, fun _ => hSw5⟩ ?_
      clear hK K hS hS2 hbw5
      have hS := hSw5
      have hS2 := hSw5
      clear hSw5
      try simp only [Act.put, sb]
      refine aone 19 (fun K hK => ?_)
      go_simp
      obtain ⟨w6, hww6⟩ : ∃ W, W = w5.alloc (.cells #[.int .u8 8] 22) := ⟨_, rfl⟩
      rw [← hww6]
      have hbw6 : Below w5.heap.size w5 w6 := by rw [hww6]; exact bl_alloc _ _
      have HUw6 : Hid (SlU w6 (some ⟨w5.heap.size, 0, none⟩) [8]) := by show SlU _ _ _; rw [hww6]; exact slu_new _ _ _ _ rfl
      have HBX := lh hbw6
      clear hww6
      have HBw6 := lh (HBw5.out.trans (hbw6.mono HBw5.out.size))
      have hSw6 := ks3 hS hbw6
      refine hK.out _ _ ⟨fun _ => hSw6, fun _ => hSw6⟩ ?_
      clear hK K hS hS2 hbw6
      have hS := hSw6
      have hS2 := hSw6
      clear hSw6
      try simp only [Act.put, sb]
      refine aone 20 (fun K hK => ?_)
      go_simp
      refine (HUC.out w6 _ _ HBw6.out HUw6.out (HGw5.out.below (by have := HBw6.out; exact HBX.out))).mono ?_
      rintro e w7 ⟨rfl, hbw7⟩
      have HBw7 := lh (HBw6.out.trans (hbw7.mono HBw6.out.size))
      have hSw7 := ks3 hS hbw7
      refine hK.out _ _ ⟨fun _ => hSw7, fun _ => hSw7⟩ ?_
      clear hK K hS hS2 hbw7
      have hS := hSw7
      have hS2 := hSw7
      clear hSw7
      try simp only [Act.put, sb]
      refine tk1 21 ⟨hS, hS2⟩ ?_
      try simp only [Act.put, sb]
      refine aone 22 (fun K hK => ?_)
      go_simp
      refine hK.out _ _ ⟨fun h => absurd h (by decide), fun h => absurd h (by decide)⟩ ?_
      clear hK K hS hS2
      try simp only [Act.put, sb]
      refine anyL_done (by kernel_rfl) (show onlyN _ .normal _ _ from ?_) _
      dsimp only [onlyN]
      go_wp2
      go_ret
      exact ⟨by rw [HF.out]; rfl, HBL.out.trans (HBw7.out.mono HBL.out.size)⟩
     ·skip
      go_simp
      obtain ⟨w5, hww5⟩ : ∃ W, W = w4.alloc (.cells #[.int .u8 8] 22) := ⟨_, rfl⟩
      rw [← hww5]
      have hbw5 : Below w4.heap.size w4 w5 := by rw [hww5]; exact bl_alloc _ _
      have HUw5 : Hid (SlU w5 (some ⟨w4.heap.size, 0, none⟩) [8]) := by show SlU _ _ _; rw [hww5]; exact slu_new _ _ _ _ rfl
      clear hww5
      have HBw5 := lh (HBw4.out.trans (hbw5.mono HBw4.out.size))
      have hSw5 := ks3 hS hbw5
      refine hK.out _ _ ⟨fun _ => hSw5, fun _ => hSw5⟩ ?_
      clear hK K hS hS2 hbw5
      have hS := hSw5
      have hS2 := hSw5
      clear hSw5
      try simp only [Act.put, sb]
      refine aone 18 (fun K hK => ?_)
      go_simp
      refine (upTo_any nm w5).mono ?_
      rintro e w6 ⟨rfl, hww6⟩
      have hbw6 : Below w5.heap.size w5 w6 := by rw [hww6]; exact bl_alloc _ _
      have HGw6 : Hid (Bx w6 w5.heap.size 3 #[.int .i64 (nm : Nat)]) := by show Bx _ _ _ _; rw [hww6]; exact Bx.new _ _ _
      have HBX := lh hbw6
      clear hww6
      have HBw6 := lh (HBw5.out.trans (hbw6.mono HBw5.out.size))
      have hSw6 := ks3 hS hbw6
      refine hK.out _ _ ⟨fun _ => hSw6, fun _ => hSw6⟩ ?_
      clear hK K hS hS2 hbw6
      have hS := hSw6
      have hS2 := hSw6
      clear hSw6
      try simp only [Act.put, sb]
      refine aone 20 (fun K hK => ?_)
      go_simp
      refine (HUC.out w6 _ _ HBw6.out (HUw5.out.below HBX.out) HGw6.out).mono ?_
      rintro e w7 ⟨rfl, hbw7⟩
      have HBw7 := lh (HBw6.out.trans (hbw7.mono HBw6.out.size))
      have hSw7 := ks3 hS hbw7
      refine hK.out _ _ ⟨fun _ => hSw7, fun _ => hSw7⟩ ?_
      clear hK K hS hS2 hbw7
      have hS := hSw7
      have hS2 := hSw7
      clear hSw7
      try simp only [Act.put, sb]
      refine tk1 21 ⟨hS, hS2⟩ ?_
      try simp only [Act.put, sb]
      refine aone 22 (fun K hK => ?_)
      go_simp
      refine hK.out _ _ ⟨fun h => absurd h (by decide), fun h => absurd h (by decide)⟩ ?_
      clear hK K hS hS2
      try simp only [Act.put, sb]
      refine anyL_done (by kernel_rfl) (show onlyN _ .normal _ _ from ?_) _
      dsimp only [onlyN]
      go_wp2
      go_ret
      exact ⟨by rw [HF.out]; rfl, HBL.out.trans (HBw7.out.mono HBL.out.size)⟩
    | true =>
     have HF : Hid (writtenB xs l nm = true) := HV.out
     clear hbl hT hL hfs hds hn h1 h4 hl hW0 hb0
     have hS0 := hS
     clear hS
     go_enter Tryz.func71, Tryz.ntmps71
     go_wp2
     rw [← HW0.out.2]
     refine wp_region_L (S := fun (V : World) => V.cell? ⟨b0, 0, none⟩ = some (.slice p n c) ∧ V.cell? ⟨b0, 1, none⟩ = some (.slice pf n cf) ∧ V.cell? ⟨b0, 2, none⟩ = some (.slice pd n cd)) (S2 := fun (V : World) => V.cell? ⟨b0, 0, none⟩ = some (.slice p n c) ∧ V.cell? ⟨b0, 1, none⟩ = some (.slice pf n cf) ∧ V.cell? ⟨b0, 2, none⟩ = some (.slice pd n cd)) 22 22 (by kernel_rfl) ?_
     rw [show (w.alloc (.cells #[.slice p n c, .slice pf n cf, .slice pd n cd] 66)).drew = W0 from HW0.out.1.symm]
     have hS := hS0
     have hS2 := hS0
     clear hS0
     refine tk1 0 ⟨hS, hS2⟩ ?_
     try simp only [Act.put, sb]
     refine aone 1 (fun K hK => ?_)
     go_simp
     refine (HDC.out W0 HBW0.out).mono ?_
     rintro e w1 ⟨rfl, hbw1⟩
     have HBw1 := lh (HBW0.out.trans (hbw1.mono HBW0.out.size))
     have hSw1 := ks3 hS hbw1
     refine hK.out _ _ ⟨fun _ => hSw1, fun _ => hSw1⟩ ?_
     clear hK K hS hS2 hbw1
     have hS := hSw1
     have hS2 := hSw1
     clear hSw1
     try simp only [Act.put, sb]
     refine tk1 2 ⟨hS, hS2⟩ ?_
     try simp only [Act.put, sb]
     refine tk1 3 ⟨hS, hS2⟩ ?_
     try simp only [Act.put, sb]
     refine tk1 4 ⟨hS, hS2⟩ ?_
     try simp only [Act.put, sb]
     refine tk1 5 ⟨hS, hS2⟩ ?_
     try simp only [Act.put, sb]
     refine aone 6 (fun K hK => ?_)
     go_simp
     obtain ⟨w2, hww2⟩ : ∃ W, W = w1.alloc (.cells #[.int .u8 12, .int .u8 13] 22) := ⟨_, rfl⟩
     rw [← hww2]
     have hbw2 : Below w1.heap.size w1 w2 := by rw [hww2]; exact bl_alloc _ _
     have HUw2 : Hid (SlU w2 (some ⟨w1.heap.size, 0, none⟩) [12, 13]) := by show SlU _ _ _; rw [hww2]; exact slu_new _ _ _ _ rfl
     clear hww2
     have HBw2 := lh (HBw1.out.trans (hbw2.mono HBw1.out.size))
     have hSw2 := ks3 hS hbw2
     refine hK.out _ _ ⟨fun _ => hSw2, fun _ => hSw2⟩ ?_
     clear hK K hS hS2 hbw2
     have hS := hSw2
     have hS2 := hSw2
     clear hSw2
     try simp only [Act.put, sb]
     refine aone 7 (fun K hK => ?_)
     go_simp
     refine (HAC.out w2 _ HBw2.out HUw2.out).mono ?_
     rintro e w3 ⟨rfl, hbw3⟩
     have HBw3 := lh (HBw2.out.trans (hbw3.mono HBw2.out.size))
     have hSw3 := ks3 hS hbw3
     refine hK.out _ _ ⟨fun _ => hSw3, fun _ => hSw3⟩ ?_
     clear hK K hS hS2 hbw3
     have hS := hSw3
     have hS2 := hSw3
     clear hSw3
     try simp only [Act.put, sb]
     refine tk1 8 ⟨hS, hS2⟩ ?_
     try simp only [Act.put, sb]
     refine tk1 9 ⟨hS, hS2⟩ ?_
     try simp only [Act.put, sb]
     refine tk1 10 ⟨hS, hS2⟩ ?_
     try simp only [Act.put, sb]
     refine tk1 11 ⟨hS, hS2⟩ ?_
     try simp only [Act.put, sb]
     refine aone 12 (fun K hK => ?_)
     go_simp
     refine (HCC.out w3 HBw3.out).mono ?_
     rintro e w4 ⟨rfl, hbw4⟩
     have HBw4 := lh (HBw3.out.trans (hbw4.mono HBw3.out.size))
     have hSw4 := ks3 hS hbw4
     refine hK.out _ _ ⟨fun _ => hSw4, fun _ => hSw4⟩ ?_
     clear hK K hS hS2 hbw4
     have hS := hSw4
     have hS2 := hSw4
     clear hSw4
     try simp only [Act.put, sb]
     refine tk1 13 ⟨hS, hS2⟩ ?_
     try simp only [Act.put, sb]
     refine tk1 14 ⟨hS, hS2⟩ ?_
     try simp only [Act.put, sb]
     refine tk1 15 ⟨hS, hS2⟩ ?_
     try simp only [Act.put, sb]
     refine tk1 16 ⟨hS, hS2⟩ ?_
     try simp only [Act.put, sb]
     refine tk1 17 ⟨hS, hS2⟩ ?_
     try simp only [Act.put, sb]
     refine anyL_two (i := 18) (k := 19) (o := ⟨some 23, Op.call ⟨.value (.func 124), #[.tmp 22], #[3]⟩, 159, "written.go:15", #[⟨17, .data⟩, ⟨14, .chain⟩, ⟨14, .guard⟩], some (14, true)⟩) (o' := ⟨some 24, Op.buildSlice 154 1 #[(0, .const (.int .u8 8))], 154, "written.go:15", #[⟨14, .guard⟩], some (14, true)⟩) (by kernel_rfl) rfl rfl (fun K hK => ?_) (fun K hK => ?_)
     ·skip
      go_simp
      refine (upTo_any nm w4).mono ?_
      rintro e w5 ⟨rfl, hww5⟩
      have hbw5 : Below w4.heap.size w4 w5 := by rw [hww5]; exact bl_alloc _ _
      have HGw5 : Hid (Bx w5 w4.heap.size 3 #[.int .i64 (nm : Nat)]) := by show Bx _ _ _ _; rw [hww5]; exact Bx.new _ _ _
      clear hww5
      have HBw5 := lh (HBw4.out.trans (hbw5.mono HBw4.out.size))
      have hSw5 := ks3 hS hbw5
      refine hK.out _ _ ⟨fun _ => hSw5, fun _ => hSw5⟩ ?_
      clear hK K hS hS2 hbw5
      have hS := hSw5
      have hS2 := hSw5
      clear hSw5
      try simp only [Act.put, sb]
      refine aone 19 (fun K hK => ?_)
      go_simp
      obtain ⟨w6, hww6⟩ : ∃ W, W = w5.alloc (.cells #[.int .u8 8] 22) := ⟨_, rfl⟩
      rw [← hww6]
      have hbw6 : Below w5.heap.size w5 w6 := by rw [hww6]; exact bl_alloc _ _
      have HUw6 : Hid (SlU w6 (some ⟨w5.heap.size, 0, none⟩) [8]) := by show SlU _ _ _; rw [hww6]; exact slu_new _ _ _ _ rfl
      have HBX := lh hbw6
      clear hww6
      have HBw6 := lh (HBw5.out.trans (hbw6.mono HBw5.out.size))
      have hSw6 := ks3 hS hbw6
      refine hK.out _ _ ⟨fun _ => hSw6, fun _ => hSw6⟩ ?_
      clear hK K hS hS2 hbw6
      have hS := hSw6
      have hS2 := hSw6
      clear hSw6
      try simp only [Act.put, sb]
      refine aone 20 (fun K hK => ?_)
      go_simp
      refine (HUC.out w6 _ _ HBw6.out HUw6.out (HGw5.out.below (by have := HBw6.out; exact HBX.out))).mono ?_
      rintro e w7 ⟨rfl, hbw7⟩
      have HBw7 := lh (HBw6.out.trans (hbw7.mono HBw6.out.size))
      have hSw7 := ks3 hS hbw7
      refine hK.out _ _ ⟨fun _ => hSw7, fun _ => hSw7⟩ ?_
      clear hK K hS hS2 hbw7
      have hS := hSw7
      have hS2 := hSw7
      clear hSw7
      try simp only [Act.put, sb]
      refine tk1 21 ⟨hS, hS2⟩ ?_
      try simp only [Act.put, sb]
      refine aone 22 (fun K hK => ?_)
      go_simp
      refine hK.out _ _ ⟨fun h => absurd h (by decide), fun h => absurd h (by decide)⟩ ?_
      clear hK K hS hS2
      try simp only [Act.put, sb]
      refine anyL_done (by kernel_rfl) (show onlyN _ .normal _ _ from ?_) _
      dsimp only [onlyN]
      go_wp2
      go_ret
      exact ⟨by rw [HF.out]; rfl, HBL.out.trans (HBw7.out.mono HBL.out.size)⟩
     ·skip
      go_simp
      obtain ⟨w5, hww5⟩ : ∃ W, W = w4.alloc (.cells #[.int .u8 8] 22) := ⟨_, rfl⟩
      rw [← hww5]
      have hbw5 : Below w4.heap.size w4 w5 := by rw [hww5]; exact bl_alloc _ _
      have HUw5 : Hid (SlU w5 (some ⟨w4.heap.size, 0, none⟩) [8]) := by show SlU _ _ _; rw [hww5]; exact slu_new _ _ _ _ rfl
      clear hww5
      have HBw5 := lh (HBw4.out.trans (hbw5.mono HBw4.out.size))
      have hSw5 := ks3 hS hbw5
      refine hK.out _ _ ⟨fun _ => hSw5, fun _ => hSw5⟩ ?_
      clear hK K hS hS2 hbw5
      have hS := hSw5
      have hS2 := hSw5
      clear hSw5
      try simp only [Act.put, sb]
      refine aone 18 (fun K hK => ?_)
      go_simp
      refine (upTo_any nm w5).mono ?_
      rintro e w6 ⟨rfl, hww6⟩
      have hbw6 : Below w5.heap.size w5 w6 := by rw [hww6]; exact bl_alloc _ _
      have HGw6 : Hid (Bx w6 w5.heap.size 3 #[.int .i64 (nm : Nat)]) := by show Bx _ _ _ _; rw [hww6]; exact Bx.new _ _ _
      have HBX := lh hbw6
      clear hww6
      have HBw6 := lh (HBw5.out.trans (hbw6.mono HBw5.out.size))
      have hSw6 := ks3 hS hbw6
      refine hK.out _ _ ⟨fun _ => hSw6, fun _ => hSw6⟩ ?_
      clear hK K hS hS2 hbw6
      have hS := hSw6
      have hS2 := hSw6
      clear hSw6
      try simp only [Act.put, sb]
      refine aone 20 (fun K hK => ?_)
      go_simp
      refine (HUC.out w6 _ _ HBw6.out (HUw5.out.below HBX.out) HGw6.out).mono ?_
      rintro e w7 ⟨rfl, hbw7⟩
      have HBw7 := lh (HBw6.out.trans (hbw7.mono HBw6.out.size))
      have hSw7 := ks3 hS hbw7
      refine hK.out _ _ ⟨fun _ => hSw7, fun _ => hSw7⟩ ?_
      clear hK K hS hS2 hbw7
      have hS := hSw7
      have hS2 := hSw7
      clear hSw7
      try simp only [Act.put, sb]
      refine tk1 21 ⟨hS, hS2⟩ ?_
      try simp only [Act.put, sb]
      refine aone 22 (fun K hK => ?_)
      go_simp
      refine hK.out _ _ ⟨fun h => absurd h (by decide), fun h => absurd h (by decide)⟩ ?_
      clear hK K hS hS2
      try simp only [Act.put, sb]
      refine anyL_done (by kernel_rfl) (show onlyN _ .normal _ _ from ?_) _
      dsimp only [onlyN]
      go_wp2
      go_ret
      exact ⟨by rw [HF.out]; rfl, HBL.out.trans (HBw7.out.mono HBL.out.size)⟩
 ·have e60 : decide (((dp : Nat) : Int) ≤ 60) = false := by simp; omega
  have e61 : decide (dp ≤ 60) = false := by simp; omega
  rw [e61] at HV
  have HF : Hid (writtenB xs l nm = false) := HV.out
  clear h60
  clear hbl hT hL hfs hds hn h1 h4 hl hW0 hb0
  have hS0 := hS
  clear hS
  go_enter Tryz.func71, Tryz.ntmps71
  go_wp2
  rw [← HW0.out.2]
  refine wp_region_L (S := fun (V : World) => V.cell? ⟨b0, 0, none⟩ = some (.slice p n c) ∧ V.cell? ⟨b0, 1, none⟩ = some (.slice pf n cf) ∧ V.cell? ⟨b0, 2, none⟩ = some (.slice pd n cd)) (S2 := fun (V : World) => V.cell? ⟨b0, 0, none⟩ = some (.slice p n c) ∧ V.cell? ⟨b0, 1, none⟩ = some (.slice pf n cf) ∧ V.cell? ⟨b0, 2, none⟩ = some (.slice pd n cd)) 22 22 (by kernel_rfl) ?_
  rw [show (w.alloc (.cells #[.slice p n c, .slice pf n cf, .slice pd n cd] 66)).drew = W0 from HW0.out.1.symm]
  have hS := hS0
  have hS2 := hS0
  clear hS0
  refine tk1 0 ⟨hS, hS2⟩ ?_
  try simp only [Act.put, sb]
  refine aone 1 (fun K hK => ?_)
  go_simp
  refine (HDC.out W0 HBW0.out).mono ?_
  rintro e w1 ⟨rfl, hbw1⟩
  have HBw1 := lh (HBW0.out.trans (hbw1.mono HBW0.out.size))
  have hSw1 := ks3 hS hbw1
  refine hK.out _ _ ⟨fun _ => hSw1, fun _ => hSw1⟩ ?_
  clear hK K hS hS2 hbw1
  have hS := hSw1
  have hS2 := hSw1
  clear hSw1
  try simp only [Act.put, sb]
  refine tk1 2 ⟨hS, hS2⟩ ?_
  try simp only [Act.put, sb]
  refine tk1 3 ⟨hS, hS2⟩ ?_
  try simp only [Act.put, sb]
  refine tu1 4 ⟨hS, hS2⟩ ?_
  try simp only [Act.put, sb]
  refine tu1 5 ⟨hS, hS2⟩ ?_
  try simp only [Act.put, sb]
  refine tu1 6 ⟨hS, hS2⟩ ?_
  try simp only [Act.put, sb]
  refine tu1 7 ⟨hS, hS2⟩ ?_
  try simp only [Act.put, sb]
  refine tk1 8 ⟨hS, hS2⟩ ?_
  try simp only [Act.put, sb]
  refine tk1 9 ⟨hS, hS2⟩ ?_
  try simp only [Act.put, sb]
  refine tu1 10 ⟨hS, hS2⟩ ?_
  try simp only [Act.put, sb]
  refine tu1 11 ⟨hS, hS2⟩ ?_
  try simp only [Act.put, sb]
  refine tu1 12 ⟨hS, hS2⟩ ?_
  try simp only [Act.put, sb]
  refine tk1 13 ⟨hS, hS2⟩ ?_
  try simp only [Act.put, sb]
  refine tk1 14 ⟨hS, hS2⟩ ?_
  try simp only [Act.put, sb]
  refine tu1 15 ⟨hS, hS2⟩ ?_
  try simp only [Act.put, sb]
  refine tu1 16 ⟨hS, hS2⟩ ?_
  try simp only [Act.put, sb]
  refine tu1 17 ⟨hS, hS2⟩ ?_
  try simp only [Act.put, sb]
  refine tu1 18 ⟨hS, hS2⟩ ?_
  try simp only [Act.put, sb]
  refine tu1 19 ⟨hS, hS2⟩ ?_
  try simp only [Act.put, sb]
  refine tu1 20 ⟨hS, hS2⟩ ?_
  try simp only [Act.put, sb]
  refine tk1 21 ⟨hS, hS2⟩ ?_
  try simp only [Act.put, sb]
  refine aone 22 (fun K hK => ?_)
  go_simp
  refine hK.out _ _ ⟨fun h => absurd h (by decide), fun h => absurd h (by decide)⟩ ?_
  clear hK K hS hS2
  try simp only [Act.put, sb]
  refine anyL_done (by kernel_rfl) (show onlyN _ .normal _ _ from ?_) _
  dsimp only [onlyN]
  go_wp2
  go_ret
  exact ⟨by rw [HF.out]; rfl, HBL.out.trans (HBw1.out.mono HBL.out.size)⟩
end Go.Proofs.YtkefndfgkmdphaaGreat
