/- The walks of LentTree and KeptTree. -/
/- TreeTells: what a tree is told to be, and a tree handed in is kept. -/
import Derived.Test.YtafiekelcoaadaaGreatJn
import Derived.Test.YtafiekelcoaadaaGreatMk
import Derived.Test.YtafiekelcoaadaaGreatJi
import Derived.Test.YtafiekelcoaadaaGreatMq

namespace Go.Proofs.YtafiekelcoaadaaGreat
open Go.RowKit Tnr Tnt

theorem sameT_me {xs ys : List NV} (h : nds xs = nds ys) (a : List ByteArray) : sameT xs ys a a = true := by
  unfold sameT; rw [sameX_self, decide_eq_true h]; rfl
theorem LNs.far {w : World} {B n g cap b : Nat} {xs ys : List NV} (h : LNs w B n g cap xs ys) (hb : b < B) (i : Nat) (u : Value) : LNs (w.setCell ⟨b, i, none⟩ u) B n g cap xs ys := by
  refine ⟨h.1, h.2.1, h.2.2.1, row_far h.2.2.2.1 hb i u, fun j hj => ?_⟩
  obtain ⟨h0, ⟨g, h1, h2, h3, h4⟩, g', k1, k2, k3, k4⟩ := h.2.2.2.2 j hj
  exact ⟨h0, ⟨g, h1, h2, h3, row_far h4 hb i u⟩, g', k1, k2, k3, row_far k4 hb i u⟩
theorem LNs.down {w : World} {B B' n g cap : Nat} {xs ys : List NV} (h : LNs w B n g cap xs ys) (hB : B' ≤ B) : LNs w B' n g cap xs ys :=
  ⟨h.1, h.2.1, h.2.2.1, World.ownsRow.mono h.2.2.2.1 hB, fun i hi => (h.2.2.2.2 i hi).down hB⟩
theorem LNs.mem {w : World} {B n g cap : Nat} {xs ys : List NV} (h : LNs w B n g cap xs ys) (hn : n = xs.length) : ∀ y ∈ ys, NodeIn w y ∧ ∃ x ∈ xs, y.nd = x.nd := fun y hy => by
  obtain ⟨i, hi, rfl⟩ := List.mem_iff_getElem.1 hy
  have hi2 : i < n := by rw [h.1]; exact hi
  have hl := h.2.2.2.2 i hi2
  rw [gn_get hi] at hl
  exact ⟨hl.nodeIn, gn xs i, gn_mem (by omega), hl.nd⟩
theorem LNs.slN {w : World} {B n g cap : Nat} {xs ys : List NV} (h : LNs w B n g cap xs ys) (hn : n = xs.length) : SlN w (some ⟨g, 0, none⟩) ys := by
  refine ⟨fun y hy => (h.mem hn y hy).1, .inr ⟨g, 0, rfl, fun i hi => ?_⟩⟩
  have hc := rowN_cells h.2.2.2.1 (by rw [List.length_append, marksN_length, ← h.1]) i (by have := h.1; omega)
  rw [gn_front hi] at hc
  rw [Nat.zero_add]
  exact hc
theorem LNs.nds {w : World} {B n g cap : Nat} {xs ys : List NV} (h : LNs w B n g cap xs ys) (hn : n = xs.length) : nds ys = nds xs := by
  refine List.ext_getElem (by rw [nds_length, nds_length, ← h.1, ← hn]) fun i h1 h2 => ?_
  rw [nds_length] at h1 h2
  have e := (h.2.2.2.2 i (by rw [h.1]; exact h1)).nd
  rw [gn_get h1, gn_get h2] at e
  simpa [Go.Proofs.YtafiekelcoaadaaGreat.nds] using e
theorem LNs.few {w : World} {B n g cap : Nat} {xs ys : List NV} (h : LNs w B n g cap xs ys) (hn : n = xs.length) (hf : Few xs) : Few ys := fun y hy => by
  obtain ⟨_, x, hx, e⟩ := h.mem hn y hy
  rw [e]; exact hf x hx
theorem LNs.kindsIn {w : World} {B n g cap : Nat} {xs ys : List NV} (h : LNs w B n g cap xs ys) (hn : n = xs.length) (hf : KindsIn xs) : KindsIn ys := fun y hy => by
  obtain ⟨_, x, hx, e⟩ := h.mem hn y hy
  rw [e]; exact hf x hx
/-- a row of texts handed in. -/
def LXs (w : World) (B nn g cap : Nat) (nm : List ByteArray) : Prop :=
  nn = nm.length ∧ nn + 12 ≤ cap ∧ cap ≤ 9223372036854775807 ∧ OwnX w B (.slice (some ⟨g, 0, none⟩) (nn + 12) cap) (nm ++ marksX 12)
theorem LXs.below {w w' : World} {B nn g cap : Nat} {nm : List ByteArray} (h : LXs w B nn g cap nm) (hb : Below w.heap.size w w') : LXs w' B nn g cap nm := ⟨h.1, h.2.1, h.2.2.1, ownX_below h.2.2.2 hb⟩
theorem LXs.slX {w : World} {B nn g cap : Nat} {nm : List ByteArray} (h : LXs w B nn g cap nm) : SlX w (some ⟨g, 0, none⟩) nm := lentX_sl h.2.2.2 (by rw [List.length_append, marksX_length, ← h.1])
def LentTPost (n nn : Nat) (xs : List NV) (nm : List ByteArray) (w : World) (e : Ending) (w' : World) : Prop :=
  ∃ g cap gx capx ys, e = .returned (.agg #[.slice (some ⟨g, 0, none⟩) n cap, .slice (some ⟨gx, 0, none⟩) nn capx]) ∧ LNs w' w.heap.size n g cap xs ys ∧ LXs w' w.heap.size nn gx capx nm ∧ Below w.heap.size w w'
set_option maxHeartbeats 3200000 in
set_option maxRecDepth 100000 in
theorem lentTree_any (p : Option Addr) (n c : Nat) (xs : List NV) (pn : Option Addr) (nn cn : Nat) (nm : List ByteArray) (w : World) (hn : n = xs.length) (hx : SlN w p xs) (hnm : n ≤ 3000) (hl : ∀ x ∈ xs, x.nd.kids.length ≤ 3000 ∧ x.nd.set.length ≤ 3000) (hnn : nn = nm.length) (hX : SlX w pn nm) (hn3 : nn ≤ 3000) (hpn : pn = none → cn = 0) :
    Calls Tryz.prog 8 #[.agg #[.slice p n c, .slice pn nn cn]] w (LentTPost n nn xs nm w) := by
  obtain ⟨W2, hW2⟩ : ∃ W, W = (w.alloc (.cells #[.slice p n c, .slice pn nn cn] 25)).alloc (.cells #[.slice none 0 0, .slice none 0 0] 25) := ⟨_, rfl⟩
  have hb2 : Below w.heap.size w W2 := by rw [hW2]; exact bl_trans (bl_alloc _ _) (bl_alloc _ _)
  have hB : Bx W2 w.heap.size 25 #[.slice p n c, .slice pn nn cn] := by rw [hW2]; exact (Bx.new w _ _).below (bl_alloc _ _)
  have hR : Bx W2 (w.heap.size + 1) 25 #[.slice none 0 0, .slice none 0 0] := by
    have h := Bx.new (w.alloc (.cells #[.slice p n c, .slice pn nn cn] 25)) 25 #[.slice none 0 0, .slice none 0 0]
    rw [World.size_alloc] at h; rw [hW2]; exact h
  have hs2 : W2.heap.size = w.heap.size + 1 + 1 := by rw [hW2]; simp
  obtain ⟨bx, hbx⟩ : ∃ b, b = w.heap.size := ⟨_, rfl⟩
  obtain ⟨br, hbr⟩ : ∃ b, b = bx + 1 := ⟨_, rfl⟩
  rw [← hbx] at hB
  rw [← hbx, ← hbr] at hR
  have HNB : Hid (w.heap.size = bx ∧ bx + 1 = br ∧ W2.heap.size = br + 1) := ⟨hbx.symm, hbr.symm, by rw [hs2, hbr, hbx]⟩
  have HW2 := Lib.hid hW2.symm
  have HLR := Lib.hid (lentNodes_any p c n xs W2 hn (hx.below hb2) hnm hl)
  have HB2 := Lib.hid hb2
  have HX := Lib.hid hB
  have HR := Lib.hid hR
  have HN := Lib.hid (And.intro hnn (And.intro hX (And.intro hn3 hpn)))
  clear hn hx hnm hl hnn hX hn3 hpn hW2 hb2 hR hs2 hbx hbr
  go_enter Tryz.func8, Tryz.ntmps8
  go_upto_region 1 with fail
  rw [HW2.out, HNB.out.1, HNB.out.2.1]
  have a0 := hB.cell (i := 0) rfl
  clear hB
  go_wp2_with fail
  refine (HLR.out).mono ?_
  rintro e w3 ⟨g1, c1, ys, rfl, ho, hb3⟩
  have hX3 := HX.out.below hb3
  have hR3 := HR.out.below hb3
  have x0 := hX3.cell (i := 0) rfl
  have f0 := hX3.free 0
  obtain ⟨w4, hw4⟩ : ∃ W, W = w3.setCell ⟨bx, 0, none⟩ (.slice (some ⟨g1, 0, none⟩) n c1) := ⟨_, rfl⟩
  have hX4 : Bx w4 bx 25 #[.slice (some ⟨g1, 0, none⟩) n c1, .slice pn nn cn] := by rw [hw4]; exact hX3.set 0 (.slice (some ⟨g1, 0, none⟩) n c1)
  have hR4 : Bx w4 br 25 #[.slice none 0 0, .slice none 0 0] := by rw [hw4]; exact hR3.other (a := ⟨bx, 0, none⟩) (show br ≠ bx by have := HNB.out.2.1; omega) (.slice (some ⟨g1, 0, none⟩) n c1)
  have ho4 : LNs w4 W2.heap.size n g1 c1 xs ys := by rw [hw4]; exact ho.far (by have := HNB.out; omega) 0 _
  have hb4 : Below w.heap.size w w4 := by rw [hw4]; exact (HB2.out.trans (hb3.mono HB2.out.size)).setCell (p := ⟨bx, 0, none⟩) (Nat.le_of_eq HNB.out.1) _
  have hle4 : W2.heap.size ≤ w4.heap.size := by rw [hw4, World.size_setCell]; exact hb3.size
  have HLI := Lib.hid (lentX_any pn cn nn nm w4 HN.out.1 (HN.out.2.1.below hb4) (by have := HN.out.1; have := HN.out.2.2.1; omega) HN.out.2.2.2)
  have HW4 : Hid (w3.setCell ⟨bx, 0, none⟩ (.slice (some ⟨g1, 0, none⟩) n c1) = w4) := hw4.symm
  have y1 := hX4.cell (i := 1) rfl
  rw [hw4] at y1
  have HX4 := Lib.hid hX4
  have HR4 := Lib.hid hR4
  have HO4 := Lib.hid ho4
  have HB4 := Lib.hid hb4
  have HL4 := Lib.hid hle4
  clear a0 hb3 hX3 hR3 hX4 hR4 hw4 ho ho4 hb4 hle4
  go_wp2_with fail
  rw [HW4.out]
  refine (HLI.out).mono ?_
  rintro e w5 ⟨g2, c2, rfl, h1, h2, ho, hb5⟩
  have hX5 := HX4.out.below hb5
  have hR5 := HR4.out.below hb5
  have hO5 := HO4.out.below hb5
  clear x0 f0 y1
  have x1 := hX5.cell (i := 1) rfl
  have f1 := hX5.free 1
  obtain ⟨w6, hw6⟩ : ∃ W, W = w5.setCell ⟨bx, 1, none⟩ (.slice (some ⟨g2, 0, none⟩) nn c2) := ⟨_, rfl⟩
  have hX6 : Bx w6 bx 25 #[.slice (some ⟨g1, 0, none⟩) n c1, .slice (some ⟨g2, 0, none⟩) nn c2] := by rw [hw6]; exact hX5.set 1 (.slice (some ⟨g2, 0, none⟩) nn c2)
  have hR6 : Bx w6 br 25 #[.slice none 0 0, .slice none 0 0] := by rw [hw6]; exact hR5.other (a := ⟨bx, 1, none⟩) (show br ≠ bx by have := HNB.out.2.1; omega) (.slice (some ⟨g2, 0, none⟩) nn c2)
  have hO6 : LNs w6 W2.heap.size n g1 c1 xs ys := by rw [hw6]; exact hO5.far (by have := HNB.out; omega) 1 _
  have hP6 : OwnX w6 w4.heap.size (.slice (some ⟨g2, 0, none⟩) (nn + 12) c2) (nm ++ marksX 12) := by rw [hw6]; exact row_far ho (by have := HNB.out; have := HL4.out; omega) 1 _
  have hb6 : Below w.heap.size w w6 := by rw [hw6]; exact (HB4.out.trans (hb5.mono HB4.out.size)).setCell (p := ⟨bx, 1, none⟩) (Nat.le_of_eq HNB.out.1) _
  have m0 := hX6.cell (i := 0) rfl
  have m1 := hX6.cell (i := 1) rfl
  have n0 := hR6.cell (i := 0) rfl
  have n1 := hR6.cell (i := 1) rfl
  have fz0 := hR6.free 0
  have fz1 := hR6.free 1
  obtain ⟨v, hv⟩ : ∃ v : Value, v = .slice (some ⟨g1, 0, none⟩) n c1 := ⟨_, rfl⟩
  obtain ⟨u, hu⟩ : ∃ v : Value, v = .slice (some ⟨g2, 0, none⟩) nn c2 := ⟨_, rfl⟩
  have hY : Bx ((w6.setCell ⟨br, 0, none⟩ v).setCell ⟨br, 1, none⟩ u) br 25 #[v, u] := (hR6.set 0 v).set 1 u
  have HFIN : Hid (LNs ((w6.setCell ⟨br, 0, none⟩ v).setCell ⟨br, 1, none⟩ u) w.heap.size n g1 c1 xs ys ∧ LXs ((w6.setCell ⟨br, 0, none⟩ v).setCell ⟨br, 1, none⟩ u) w.heap.size nn g2 c2 nm ∧ Below w.heap.size w ((w6.setCell ⟨br, 0, none⟩ v).setCell ⟨br, 1, none⟩ u)) := by
    refine ⟨?_, ⟨HN.out.1, h1, h2, ?_⟩, ?_⟩
    · exact ((hO6.far (by have := HNB.out; omega) 0 v).far (by have := HNB.out; omega) 1 u).down HB2.out.size
    · exact ownX_down (row_far (row_far hP6 (by have := HNB.out; have := HL4.out; omega) 0 v) (by have := HNB.out; have := HL4.out; omega) 1 u) (Nat.le_trans HB2.out.size HL4.out)
    · exact (hb6.setCell (p := ⟨br, 0, none⟩) (show w.heap.size ≤ br by have := HNB.out; omega) v).setCell (p := ⟨br, 1, none⟩) (show w.heap.size ≤ br by have := HNB.out; omega) u
  have r0 := hY.cell (i := 0) rfl
  have r1 := hY.cell (i := 1) rfl
  rw [hw6, hv, hu] at r0 r1 HFIN
  rw [hw6] at m0 m1 n0 n1 fz0 fz1
  clear hX6 hR6 hY hO6 hP6 hb6 hw6 hO5 hX5 hR5 hb5 h1 h2 ho hv hu
  go_wp2
  refine bodyPost_ret (v := .agg #[.slice (some ⟨g1, 0, none⟩) n c1, .slice (some ⟨g2, 0, none⟩) nn c2]) (by simp [results, Tryz.results8, go_sem, r0, r1]) rfl ⟨_, _, _, _, _, rfl, HFIN.out.1, HFIN.out.2.1, HFIN.out.2.2⟩
set_option maxHeartbeats 3200000 in
set_option maxRecDepth 100000 in
theorem keptTree_any (p : Option Addr) (n c : Nat) (xs ys : List NV) (pn : Option Addr) (nn cn : Nat) (nm : List ByteArray) (B g cap gx capx : Nat) (w : World) (hn : n = xs.length) (hx : SlN w p xs) (hnm : n ≤ 3000) (hl : ∀ x ∈ xs, x.nd.kids.length ≤ 3000 ∧ x.nd.set.length ≤ 3000) (hX : SlX w pn nm) (hn3 : nn ≤ 3000) (ho : LNs w B n g cap xs ys) (hox : LXs w B nn gx capx nm) :
    Calls Tryz.prog 17 #[.agg #[.slice (some ⟨g, 0, none⟩) n cap, .slice (some ⟨gx, 0, none⟩) nn capx], .agg #[.slice p n c, .slice pn nn cn]] w fun e w' => e = .returned (.bool true) ∧ Below w.heap.size w w' := by
  obtain ⟨W2, hW2⟩ : ∃ W, W = (w.alloc (.cells #[.slice (some ⟨g, 0, none⟩) n cap, .slice (some ⟨gx, 0, none⟩) nn capx] 25)).alloc (.cells #[.slice p n c, .slice pn nn cn] 25) := ⟨_, rfl⟩
  have hb2 : Below w.heap.size w W2 := by rw [hW2]; exact bl_trans (bl_alloc _ _) (bl_alloc _ _)
  have hA : Bx W2 w.heap.size 25 #[.slice (some ⟨g, 0, none⟩) n cap, .slice (some ⟨gx, 0, none⟩) nn capx] := by rw [hW2]; exact (Bx.new w _ _).below (bl_alloc _ _)
  have hD : Bx W2 (w.heap.size + 1) 25 #[.slice p n c, .slice pn nn cn] := by
    have h := Bx.new (w.alloc (.cells #[.slice (some ⟨g, 0, none⟩) n cap, .slice (some ⟨gx, 0, none⟩) nn capx] 25)) 25 #[.slice p n c, .slice pn nn cn]
    rw [World.size_alloc] at h; rw [hW2]; exact h
  have hf : Few xs := fun x hx => by have := hl x hx; omega
  have ho2 := ho.below hb2
  have HS : Hid (Calls Tryz.prog 53 #[.agg #[.slice (some ⟨g, 0, none⟩) n cap, .slice (some ⟨gx, 0, none⟩) nn capx], .agg #[.slice p n c, .slice pn nn cn]] W2 fun e w' => e = .returned (.bool true) ∧ Below W2.heap.size W2 w') :=
    (sameTree_any (some ⟨g, 0, none⟩) p (some ⟨gx, 0, none⟩) pn n n cap c nn nn capx cn ys xs nm nm W2 ho.1 hn (by omega) (ho2.slN hn) (hx.below hb2) (ho.few hn hf) hf hox.1 hox.1 (by omega) (by omega) (hox.below hb2).slX (hX.below hb2)).mono fun e w' ⟨h1, h2⟩ => ⟨by rw [h1, sameT_me (ho.nds hn)], h2⟩
  have HR : Hid (∀ V, Below W2.heap.size W2 V → Calls Tryz.prog 54 #[.slice (some ⟨g, 0, none⟩) n cap, .slice p n c] V fun e w' => e = .returned (.bool true) ∧ Below V.heap.size V w') := fun V hV =>
    have hb := hb2.trans (hV.mono hb2.size)
    keptNodes_any p c n xs ys B g cap V hn (hx.below hb) hnm hl (ho.below hb)
  have HK : Hid (∀ V, Below W2.heap.size W2 V → Calls Tryz.prog 55 #[.slice (some ⟨gx, 0, none⟩) nn capx, .slice pn nn cn] V fun e w' => e = .returned (.bool true) ∧ Below V.heap.size V w') := fun V hV =>
    have hb := hb2.trans (hV.mono hb2.size)
    keptX_any pn cn nn nm B gx capx V hox.1 (hX.below hb) (by have := hox.1; omega) (hox.below hb).2.2.2 hox.2.1 hox.2.2.1
  have HB2 := Lib.hid hb2
  obtain ⟨bx, hbx⟩ : ∃ b, b = w.heap.size := ⟨_, rfl⟩
  obtain ⟨br, hbr⟩ : ∃ b, b = bx + 1 := ⟨_, rfl⟩
  rw [← hbx] at hA
  rw [← hbx, ← hbr] at hD
  have HNB : Hid (w.heap.size = bx ∧ bx + 1 = br) := ⟨hbx.symm, hbr.symm⟩
  have HW2 := Lib.hid hW2.symm
  have HX := Lib.hid hA
  have HY := Lib.hid hD
  have a0 := hA.cell (i := 0) rfl
  have a1 := hA.cell (i := 1) rfl
  have d0 := hD.cell (i := 0) rfl
  have d1 := hD.cell (i := 1) rfl
  clear hn hx hnm hl hX hn3 ho hox hW2 hb2 hbx hbr hA hD hf ho2
  go_enter Tryz.func17, Tryz.ntmps17
  go_upto_region 1 with fail
  rw [HW2.out, HNB.out.1, HNB.out.2]
  go_wp2_with fail
  refine HS.out.mono ?_
  rintro e w3 ⟨rfl, hb3⟩
  clear a0 a1 d0 d1
  have a0 := (HX.out.below hb3).cell (i := 0) rfl
  have d0 := (HY.out.below hb3).cell (i := 0) rfl
  have HB3 := Lib.hid hb3
  clear hb3
  go_wp2_with fail
  refine (HR.out w3 HB3.out).mono ?_
  rintro e w4 ⟨rfl, hb4⟩
  have HB4 := Lib.hid (bl_trans HB3.out hb4)
  clear a0 d0 hb4
  have a1 := (HX.out.below HB4.out).cell (i := 1) rfl
  have d1 := (HY.out.below HB4.out).cell (i := 1) rfl
  go_wp2_with fail
  refine (HK.out w4 HB4.out).mono ?_
  rintro e w5 ⟨rfl, hb5⟩
  have HB5 := Lib.hid (bl_trans HB4.out hb5)
  clear a1 d1 hb5
  go_wp2
  go_ret
  exact ⟨rfl, bl_trans HB2.out HB5.out⟩
end Go.Proofs.YtafiekelcoaadaaGreat


namespace Go.Proofs.YtafiekelcoaadaaGreat
open Go.RowKit Tnr Tnt

set_option maxHeartbeats 12800000 in
set_option maxRecDepth 100000 in
theorem treeTells_any (p : Option Addr) (n c : Nat) (xs : List NV) (pn : Option Addr) (nn cn : Nat) (nm : List ByteArray) (w : World) (hn : n = xs.length) (hnI : (n : Int) ≤ 9223372036854775807) (hp : SlN w p xs) (hf : ∀ x ∈ xs, x.nd.kids.length ≤ 9223372036854775807 ∧ x.nd.set.length ≤ 9223372036854775807) (hk : KindsIn xs) (hnn : nn = nm.length) (hnnI : (nn : Int) ≤ 9223372036854775807) (hnc2 : nn ≤ cn) (hpn : pn = none → cn = 0) (hX : SlX w pn nm) (hz : ∀ x ∈ nm, x.size ≤ 9223372036854775807) :
    Calls Tryz.prog 3 #[.agg #[.slice p n c, .slice pn nn cn]] w fun e w' => e = .returned (.bool true) ∧ Below w.heap.size w w' := by
  obtain ⟨W1, hW1⟩ : ∃ W, W = w.alloc (.cells #[.slice p n c, .slice pn nn cn] 25) := ⟨_, rfl⟩
  obtain ⟨b0, hb0⟩ : ∃ b, b = w.heap.size := ⟨_, rfl⟩
  have hB1 : Below w.heap.size w W1 := by rw [hW1]; exact bl_alloc _ _
  have hT1 : Bx W1 b0 25 #[.slice p n c, .slice pn nn cn] := by rw [hW1, hb0]; exact Bx.new w _ _
  obtain ⟨w2, hw2⟩ : ∃ W, W = W1.alloc (.cells #[.slice p n c, .slice pn nn cn] 25) := ⟨_, rfl⟩
  have hb2 : Below W1.heap.size W1 w2 := by rw [hw2]; exact bl_alloc _ _
  have hX2 : Bx w2 W1.heap.size 25 #[.slice p n c, .slice pn nn cn] := by rw [hw2]; exact Bx.new W1 _ _
  have HG := Lib.hid (great1_any W1.heap.size p n c xs pn nn cn nm w2 (hX2.cell rfl) (hX2.cell rfl) hn hnI (hp.below (bl_trans hB1 hb2)) hf hnn hnnI (hX.below (bl_trans hB1 hb2)) hz)
  have HW1 := Lib.hid (And.intro hW1 hb0)
  have HW2 := Lib.hid hw2
  have HB2 := Lib.hid (bl_trans hB1 hb2)
  have HB12 := Lib.hid hb2
  have HT1 := Lib.hid hT1
  have HP1 := Lib.hid (And.intro hp hX)
  have HN := Lib.hid (And.intro hn (And.intro hnn (And.intro hnc2 (And.intro hpn hk))))
  clear hn hnI hp hf hk hnn hnnI hnc2 hpn hX hz hW1 hb0 hB1 hw2 hb2 hX2
  go_enter Tryz.func3, Tryz.ntmps3
  go_upto_region 1 with fail
  rw [← HW1.out.2, show w.alloc (.cells #[.slice p n c, .slice pn nn cn] 25) = W1 from HW1.out.1.symm]
  have cT0 : W1.cell? ⟨b0, 0, none⟩ = some (.slice p n c) := hT1.cell rfl
  have cT1 : W1.cell? ⟨b0, 1, none⟩ = some (.slice pn nn cn) := hT1.cell rfl
  clear hT1
  go_wp2_with fail
  rw [← HW2.out]
  refine (HG.out).mono ?_
  rintro e w3 ⟨⟨g, rfl, hg⟩, hb3⟩
  have HB3 := Lib.hid (bl_trans HB12.out hb3)
  have HBW := Lib.hid (bl_trans HB2.out hb3)
  have HGS := Lib.hid hg
  clear hg hb3 cT0 cT1
  cases g with
  | true =>
    have HA := Lib.hid (awake_any w3)
    go_wp2_with fail
    refine (HA.out).mono ?_
    rintro e w4 ⟨rfl, hb4⟩
    have HB4 := Lib.hid (bl_trans HBW.out hb4)
    clear hb4
    go_wp2
    go_ret
    exact ⟨rfl, HB4.out⟩
  | false =>
    have hsm := HGS.out (by first | rfl | trivial)
    have hfew : Few xs := fun x hx => by have := hsm.2.2 x hx; omega
    have HSM := Lib.hid (And.intro hsm.1 (And.intro hsm.2.1 (And.intro hsm.2.2 hfew)))
    have hT3 := HT1.out.below HB3.out
    have cT0 : w3.cell? ⟨b0, 0, none⟩ = some (.slice p n c) := hT3.cell rfl
    have cT1 : w3.cell? ⟨b0, 1, none⟩ = some (.slice pn nn cn) := hT3.cell rfl
    have HLT := Lib.hid (lentTree_any p n c xs pn nn cn nm w3 HN.out.1 (HP1.out.1.below HBW.out) hsm.2.1 hsm.2.2 HN.out.2.1 (HP1.out.2.below HBW.out) hsm.1 HN.out.2.2.2.1)
    clear hsm hfew hT3
    go_wp2_with fail
    refine (HLT.out).mono ?_
    rintro e w4 ⟨g, cap, gx, capx, ys, rfl, ho, hox, hb4⟩
    clear cT0 cT1 HLT
    obtain ⟨w5, hw5⟩ : ∃ W, W = w4.alloc (.cells #[.slice (some ⟨g, 0, none⟩) n cap, .slice (some ⟨gx, 0, none⟩) nn capx] 25) := ⟨_, rfl⟩
    obtain ⟨bl, hbl⟩ : ∃ b, b = w4.heap.size := ⟨_, rfl⟩
    have hb5 : Below w4.heap.size w4 w5 := by rw [hw5]; exact bl_alloc _ _
    have hL5 : Bx w5 bl 25 #[.slice (some ⟨g, 0, none⟩) n cap, .slice (some ⟨gx, 0, none⟩) nn capx] := by rw [hw5, hbl]; exact Bx.new w4 _ _
    have hT5 := (HT1.out.below HB3.out).below (bl_trans hb4 hb5)
    have HO := Lib.hid (ho.below hb5)
    have HOX := Lib.hid (hox.below hb5)
    have HBW5 := Lib.hid (bl_trans HBW.out (bl_trans hb4 hb5))
    have HL5 := Lib.hid hL5
    have HT5 := Lib.hid hT5
    have HW5 := Lib.hid (And.intro hw5.symm hbl.symm)
    have HGR := Lib.hid (groups_any (some ⟨g, 0, none⟩) n cap ys (some ⟨gx, 0, none⟩) nn capx w5 HO.out.1 (by have := HSM.out.2.1; omega) (HO.out.slN HN.out.1))
    obtain ⟨mn, hmn⟩ : ∃ z, z = mnL (grL ys) := ⟨_, rfl⟩
    obtain ⟨mx, hmx⟩ : ∃ z, z = mxL (grL ys) := ⟨_, rfl⟩
    rw [← hmn, ← hmx] at HGR
    have HM := Lib.hid (And.intro hmn hmx)
    clear hmn hmx ho hox hb4 hb5 hL5 hT5 hw5 hbl
    go_upto_region 4 with fail
    first | rw [HW5.out.2, HW5.out.1] | rw [HW5.out.1, HW5.out.2] | rw [HW5.out.1]
    have l0 : w5.cell? ⟨bl, 0, none⟩ = some (.slice (some ⟨g, 0, none⟩) n cap) := HL5.out.cell rfl
    have l1 : w5.cell? ⟨bl, 1, none⟩ = some (.slice (some ⟨gx, 0, none⟩) nn capx) := HL5.out.cell rfl
    go_wp2_with fail
    refine (HGR.out).mono ?_
    rintro e w6 ⟨rfl, hb6⟩
    have HB6 := Lib.hid hb6
    clear l0 l1 hb6
    have cT0 : w6.cell? ⟨b0, 0, none⟩ = some (.slice p n c) := (HT5.out.below HB6.out).cell rfl
    have cT1 : w6.cell? ⟨b0, 1, none⟩ = some (.slice pn nn cn) := (HT5.out.below HB6.out).cell rfl
    have HRG := Lib.hid (rgroups_any p n c xs (.slice pn nn cn) w6 HN.out.1 (by have := HSM.out.2.1; omega) (HP1.out.1.below (bl_trans HBW5.out HB6.out)))
    have hmn : mnL (grN (nds xs)) = mn := by rw [HM.out.1, grL_nds, HO.out.nds HN.out.1]
    have hmx : mxL (grN (nds xs)) = mx := by rw [HM.out.2, grL_nds, HO.out.nds HN.out.1]
    rw [hmn, hmx] at HRG
    clear hmn hmx
    go_wp2_with fail
    refine (HRG.out).mono ?_
    rintro e w7 ⟨rfl, hb7⟩
    have HB7 := Lib.hid (bl_trans HB6.out hb7)
    clear cT0 cT1 hb7
    obtain ⟨rb, hrb⟩ : ∃ b, b = rightN (nds xs) nm := ⟨_, rfl⟩
    obtain ⟨sb, hsb⟩ : ∃ b, b = spreadTN (nds xs) nm := ⟨_, rfl⟩
    obtain ⟨dp, hdp⟩ : ∃ b, b = deepT (nds xs) := ⟨_, rfl⟩
    obtain ⟨C, hC⟩ : ∃ C : World → Prop, C = fun V => Below w7.drew.heap.size w7.drew V ∧ V.cell? ⟨b0, 0, none⟩ = some (.slice p n c) ∧ V.cell? ⟨b0, 1, none⟩ = some (.slice pn nn cn) ∧ V.cell? ⟨bl, 0, none⟩ = some (.slice (some ⟨g, 0, none⟩) n cap) ∧ V.cell? ⟨bl, 1, none⟩ = some (.slice (some ⟨gx, 0, none⟩) nn capx) := ⟨_, rfl⟩
    have HB7D := Lib.hid (bl_trans HB7.out (bl_drew w7))
    have HC : Hid (∀ V, Below w7.drew.heap.size w7.drew V → C V) := by
      intro V hV
      rw [hC]
      have hb := bl_trans HB7D.out hV
      exact ⟨hV, (HT5.out.below hb).cell rfl, (HT5.out.below hb).cell rfl, (HL5.out.below hb).cell rfl, (HL5.out.below hb).cell rfl⟩
    have HCV : Hid (∀ V, C V → Below w5.heap.size w5 V) := by
      intro V hV
      rw [hC] at hV
      exact bl_trans HB7D.out hV.1
    have HCK : Hid (∀ V V', C V → Below V.heap.size V V' → C V') := by
      intro V V' hV hb
      rw [hC] at hV
      exact HC.out _ (bl_trans hV.1 hb)
    have hnL := (HO.out.nds HN.out.1)
    have HF1 : Hid (∀ V, C V → Calls Tryz.prog 11 #[.agg #[.slice (some ⟨g, 0, none⟩) n cap, .slice (some ⟨gx, 0, none⟩) nn capx]] V fun e w' => e = .returned (.bool rb) ∧ C w') := fun V hV =>
      (rightT_any (some ⟨g, 0, none⟩) n cap ys (some ⟨gx, 0, none⟩) nn capx nm V HO.out.1 (by have := HSM.out.2.1; omega) ((HO.out.below (HCV.out V hV)).slN HN.out.1) (HO.out.few HN.out.1 HSM.out.2.2.2) (HO.out.kindsIn HN.out.1 HN.out.2.2.2.2) HN.out.2.1 (by have := HOX.out.2.1; omega) (HOX.out.below (HCV.out V hV)).slX).mono fun e w' ⟨h1, h2⟩ => ⟨by rw [h1, rightT_nds, hnL, hrb], HCK.out V w' hV h2⟩
    have HF2 : Hid (∀ V, C V → Calls Tryz.prog 12 #[.agg #[.slice p n c, .slice pn nn cn]] V fun e w' => e = .returned (.bool rb) ∧ C w') := fun V hV =>
      (rright6_any p n c xs pn nn cn nm V HN.out.1 (by have := HSM.out.2.1; omega) (HP1.out.1.below (bl_trans HBW5.out (HCV.out V hV))) HSM.out.2.2.2 HN.out.2.1 (HP1.out.2.below (bl_trans HBW5.out (HCV.out V hV)))).mono fun e w' ⟨h1, h2⟩ => ⟨by rw [h1, right_eq, hrb], HCK.out V w' hV h2⟩
    have HF3 : Hid (∀ V, C V → Calls Tryz.prog 13 #[.agg #[.slice (some ⟨g, 0, none⟩) n cap, .slice (some ⟨gx, 0, none⟩) nn capx]] V fun e w' => e = .returned (.bool sb) ∧ C w') := fun V hV =>
      (spreadT_any (some ⟨g, 0, none⟩) n cap ys (some ⟨gx, 0, none⟩) nn capx nm V HO.out.1 (by have := HSM.out.2.1; omega) ((HO.out.below (HCV.out V hV)).slN HN.out.1) (HO.out.few HN.out.1 HSM.out.2.2.2) (HO.out.kindsIn HN.out.1 HN.out.2.2.2.2) HN.out.2.1 (by have := HOX.out.2.1; omega) (HOX.out.below (HCV.out V hV)).slX).mono fun e w' ⟨h1, h2⟩ => ⟨by rw [h1, spreadT_nds, hnL, hsb], HCK.out V w' hV h2⟩
    have HF4 : Hid (∀ V, C V → Calls Tryz.prog 14 #[.agg #[.slice p n c, .slice pn nn cn]] V fun e w' => e = .returned (.bool sb) ∧ C w') := fun V hV =>
      (rspread6_any p n c xs pn nn cn nm V HN.out.1 (by have := HSM.out.2.1; omega) (HP1.out.1.below (bl_trans HBW5.out (HCV.out V hV))) HSM.out.2.2.2 HN.out.2.1 (HP1.out.2.below (bl_trans HBW5.out (HCV.out V hV)))).mono fun e w' ⟨h1, h2⟩ => ⟨by rw [h1, spread_eq, hsb], HCK.out V w' hV h2⟩
    have HF5 : Hid (∀ V, C V → Calls Tryz.prog 15 #[.agg #[.slice (some ⟨g, 0, none⟩) n cap, .slice (some ⟨gx, 0, none⟩) nn capx]] V fun e w' => e = .returned (.int .i64 (dp : Nat)) ∧ C w') := fun V hV =>
      (deepT_any (some ⟨g, 0, none⟩) n cap ys (.slice (some ⟨gx, 0, none⟩) nn capx) V HO.out.1 (by have := HSM.out.2.1; omega) ((HO.out.below (HCV.out V hV)).slN HN.out.1) (HO.out.few HN.out.1 HSM.out.2.2.2)).mono fun e w' ⟨h1, h2⟩ => ⟨by rw [h1, hnL, hdp], HCK.out V w' hV h2⟩
    have HF6 : Hid (∀ V, C V → Calls Tryz.prog 16 #[.agg #[.slice p n c, .slice pn nn cn]] V fun e w' => e = .returned (.int .i64 (dp : Nat)) ∧ C w') := fun V hV =>
      (rdeep_any p n c xs (.slice pn nn cn) V HN.out.1 (by have := HSM.out.2.1; omega) (HP1.out.1.below (bl_trans HBW5.out (HCV.out V hV))) HSM.out.2.2.2).mono fun e w' ⟨h1, h2⟩ => ⟨by rw [h1, hdp], HCK.out V w' hV h2⟩
    have HF7 : Hid (∀ V, C V → Calls Tryz.prog 17 #[.agg #[.slice (some ⟨g, 0, none⟩) n cap, .slice (some ⟨gx, 0, none⟩) nn capx], .agg #[.slice p n c, .slice pn nn cn]] V fun e w' => e = .returned (.bool true) ∧ C w') := fun V hV =>
      (keptTree_any p n c xs ys pn nn cn nm w3.heap.size g cap gx capx V HN.out.1 (HP1.out.1.below (bl_trans HBW5.out (HCV.out V hV))) HSM.out.2.1 HSM.out.2.2.1 (HP1.out.2.below (bl_trans HBW5.out (HCV.out V hV))) HSM.out.1 (HO.out.below (HCV.out V hV)) (HOX.out.below (HCV.out V hV))).mono fun e w' ⟨h1, h2⟩ => ⟨h1, HCK.out V w' hV h2⟩
    have HF8 : Hid (∀ V, C V → Calls Tryz.prog 7 #[] V fun e w' => e = .returned (.bool true) ∧ C w') := fun V hV =>
      (awake_any V).mono fun e w' ⟨h1, h2⟩ => ⟨h1, HCK.out V w' hV h2⟩
    have hCd : C w7.drew := HC.out _ (Below.refl _ _)
    have HFB := Lib.hid (bl_trans HBW5.out HB7D.out)
    clear hnL hrb hsb hdp HC HCV HCK HRG HGR HG
    go_wp2
    refine wp_region_quiet (C := C) (by kernel_rfl) (by kernel_rfl) hCd (Bxd.out ?_)
    clear hCd
    subst hC
    dsimp only
    (refine q_want (by kernel_rfl) (fun K hK => ?_); refine ⟨?_, fun V hV => ?_, hK _ ?_⟩; rotate_left; (focus (unfold Oper.quietAt; dsimp only at hV; go_simp; try with_reducible rfl)); clear hK K; (try simp only [Act.put, List.setIfInBounds_toArray, List.set_cons_zero, List.set_cons_succ]))
    refine q_want (by kernel_rfl) (fun K hK => ?_)
    refine ⟨.bool rb, fun V hV => ?_, hK _ ?_⟩
    · have HV := Lib.hid hV
      clear hV hK
      unfold Oper.quietAt
      go_simp
      exact HF1.out V HV.out
    clear hK K
    try simp only [Act.put, List.setIfInBounds_toArray, List.set_cons_zero, List.set_cons_succ]
    (refine q_want (by kernel_rfl) (fun K hK => ?_); refine ⟨?_, fun V hV => ?_, hK _ ?_⟩; rotate_left; (focus (unfold Oper.quietAt; dsimp only at hV; go_simp; try with_reducible rfl)); clear hK K; (try simp only [Act.put, List.setIfInBounds_toArray, List.set_cons_zero, List.set_cons_succ]))
    refine q_want (by kernel_rfl) (fun K hK => ?_)
    refine ⟨.bool rb, fun V hV => ?_, hK _ ?_⟩
    · have HV := Lib.hid hV
      clear hV hK
      unfold Oper.quietAt
      go_simp
      exact HF2.out V HV.out
    clear hK K
    try simp only [Act.put, List.setIfInBounds_toArray, List.set_cons_zero, List.set_cons_succ]
    (refine q_want (by kernel_rfl) (fun K hK => ?_); refine ⟨?_, fun V hV => ?_, hK _ ?_⟩; rotate_left; (focus (unfold Oper.quietAt; dsimp only at hV; go_simp; try with_reducible rfl)); clear hK K; (try simp only [Act.put, List.setIfInBounds_toArray, List.set_cons_zero, List.set_cons_succ]))
    (refine q_want (by kernel_rfl) (fun K hK => ?_); refine ⟨?_, fun V hV => ?_, hK _ ?_⟩; rotate_left; (focus (unfold Oper.quietAt; dsimp only at hV; go_simp; try with_reducible rfl)); clear hK K; (try simp only [Act.put, List.setIfInBounds_toArray, List.set_cons_zero, List.set_cons_succ]))
    (refine q_want (by kernel_rfl) (fun K hK => ?_); refine ⟨?_, fun V hV => ?_, hK _ ?_⟩; rotate_left; (focus (unfold Oper.quietAt; dsimp only at hV; go_simp; try with_reducible rfl)); clear hK K; (try simp only [Act.put, List.setIfInBounds_toArray, List.set_cons_zero, List.set_cons_succ]))
    refine q_want (by kernel_rfl) (fun K hK => ?_)
    refine ⟨.bool sb, fun V hV => ?_, hK _ ?_⟩
    · have HV := Lib.hid hV
      clear hV hK
      unfold Oper.quietAt
      go_simp
      exact HF3.out V HV.out
    clear hK K
    try simp only [Act.put, List.setIfInBounds_toArray, List.set_cons_zero, List.set_cons_succ]
    (refine q_want (by kernel_rfl) (fun K hK => ?_); refine ⟨?_, fun V hV => ?_, hK _ ?_⟩; rotate_left; (focus (unfold Oper.quietAt; dsimp only at hV; go_simp; try with_reducible rfl)); clear hK K; (try simp only [Act.put, List.setIfInBounds_toArray, List.set_cons_zero, List.set_cons_succ]))
    refine q_want (by kernel_rfl) (fun K hK => ?_)
    refine ⟨.bool sb, fun V hV => ?_, hK _ ?_⟩
    · have HV := Lib.hid hV
      clear hV hK
      unfold Oper.quietAt
      go_simp
      exact HF4.out V HV.out
    clear hK K
    try simp only [Act.put, List.setIfInBounds_toArray, List.set_cons_zero, List.set_cons_succ]
    (refine q_want (by kernel_rfl) (fun K hK => ?_); refine ⟨?_, fun V hV => ?_, hK _ ?_⟩; rotate_left; (focus (unfold Oper.quietAt; dsimp only at hV; go_simp; try with_reducible rfl)); clear hK K; (try simp only [Act.put, List.setIfInBounds_toArray, List.set_cons_zero, List.set_cons_succ]))
    (refine q_want (by kernel_rfl) (fun K hK => ?_); refine ⟨?_, fun V hV => ?_, hK _ ?_⟩; rotate_left; (focus (unfold Oper.quietAt; dsimp only at hV; go_simp; try with_reducible rfl)); clear hK K; (try simp only [Act.put, List.setIfInBounds_toArray, List.set_cons_zero, List.set_cons_succ]))
    (refine q_want (by kernel_rfl) (fun K hK => ?_); refine ⟨?_, fun V hV => ?_, hK _ ?_⟩; rotate_left; (focus (unfold Oper.quietAt; dsimp only at hV; go_simp; try with_reducible rfl)); clear hK K; (try simp only [Act.put, List.setIfInBounds_toArray, List.set_cons_zero, List.set_cons_succ]))
    (refine q_want (by kernel_rfl) (fun K hK => ?_); refine ⟨?_, fun V hV => ?_, hK _ ?_⟩; rotate_left; (focus (unfold Oper.quietAt; dsimp only at hV; go_simp; try with_reducible rfl)); clear hK K; (try simp only [Act.put, List.setIfInBounds_toArray, List.set_cons_zero, List.set_cons_succ]))
    refine q_want (by kernel_rfl) (fun K hK => ?_)
    refine ⟨.int .i64 (dp : Nat), fun V hV => ?_, hK _ ?_⟩
    · have HV := Lib.hid hV
      clear hV hK
      unfold Oper.quietAt
      go_simp
      exact HF5.out V HV.out
    clear hK K
    try simp only [Act.put, List.setIfInBounds_toArray, List.set_cons_zero, List.set_cons_succ]
    (refine q_want (by kernel_rfl) (fun K hK => ?_); refine ⟨?_, fun V hV => ?_, hK _ ?_⟩; rotate_left; (focus (unfold Oper.quietAt; dsimp only at hV; go_simp; try with_reducible rfl)); clear hK K; (try simp only [Act.put, List.setIfInBounds_toArray, List.set_cons_zero, List.set_cons_succ]))
    refine q_want (by kernel_rfl) (fun K hK => ?_)
    refine ⟨.int .i64 (dp : Nat), fun V hV => ?_, hK _ ?_⟩
    · have HV := Lib.hid hV
      clear hV hK
      unfold Oper.quietAt
      go_simp
      exact HF6.out V HV.out
    clear hK K
    try simp only [Act.put, List.setIfInBounds_toArray, List.set_cons_zero, List.set_cons_succ]
    (refine q_want (by kernel_rfl) (fun K hK => ?_); refine ⟨?_, fun V hV => ?_, hK _ ?_⟩; rotate_left; (focus (unfold Oper.quietAt; dsimp only at hV; go_simp; try with_reducible rfl)); clear hK K; (try simp only [Act.put, List.setIfInBounds_toArray, List.set_cons_zero, List.set_cons_succ]))
    (refine q_want (by kernel_rfl) (fun K hK => ?_); refine ⟨?_, fun V hV => ?_, hK _ ?_⟩; rotate_left; (focus (unfold Oper.quietAt; dsimp only at hV; go_simp; try with_reducible rfl)); clear hK K; (try simp only [Act.put, List.setIfInBounds_toArray, List.set_cons_zero, List.set_cons_succ]))
    (refine q_want (by kernel_rfl) (fun K hK => ?_); refine ⟨?_, fun V hV => ?_, hK _ ?_⟩; rotate_left; (focus (unfold Oper.quietAt; dsimp only at hV; go_simp; try with_reducible rfl)); clear hK K; (try simp only [Act.put, List.setIfInBounds_toArray, List.set_cons_zero, List.set_cons_succ]))
    (refine q_want (by kernel_rfl) (fun K hK => ?_); refine ⟨?_, fun V hV => ?_, hK _ ?_⟩; rotate_left; (focus (unfold Oper.quietAt; dsimp only at hV; go_simp; try with_reducible rfl)); clear hK K; (try simp only [Act.put, List.setIfInBounds_toArray, List.set_cons_zero, List.set_cons_succ]))
    (refine q_want (by kernel_rfl) (fun K hK => ?_); refine ⟨?_, fun V hV => ?_, hK _ ?_⟩; rotate_left; (focus (unfold Oper.quietAt; dsimp only at hV; go_simp; try with_reducible rfl)); clear hK K; (try simp only [Act.put, List.setIfInBounds_toArray, List.set_cons_zero, List.set_cons_succ]))
    (refine q_want (by kernel_rfl) (fun K hK => ?_); refine ⟨?_, fun V hV => ?_, hK _ ?_⟩; rotate_left; (focus (unfold Oper.quietAt; dsimp only at hV; go_simp; try with_reducible rfl)); clear hK K; (try simp only [Act.put, List.setIfInBounds_toArray, List.set_cons_zero, List.set_cons_succ]))
    (refine q_want (by kernel_rfl) (fun K hK => ?_); refine ⟨?_, fun V hV => ?_, hK _ ?_⟩; rotate_left; (focus (unfold Oper.quietAt; dsimp only at hV; go_simp; try with_reducible rfl)); clear hK K; (try simp only [Act.put, List.setIfInBounds_toArray, List.set_cons_zero, List.set_cons_succ]))
    (refine q_want (by kernel_rfl) (fun K hK => ?_); refine ⟨?_, fun V hV => ?_, hK _ ?_⟩; rotate_left; (focus (unfold Oper.quietAt; dsimp only at hV; go_simp; try with_reducible rfl)); clear hK K; (try simp only [Act.put, List.setIfInBounds_toArray, List.set_cons_zero, List.set_cons_succ]))
    (refine q_want (by kernel_rfl) (fun K hK => ?_); refine ⟨?_, fun V hV => ?_, hK _ ?_⟩; rotate_left; (focus (unfold Oper.quietAt; dsimp only at hV; go_simp; try with_reducible rfl)); clear hK K; (try simp only [Act.put, List.setIfInBounds_toArray, List.set_cons_zero, List.set_cons_succ]))
    (refine q_want (by kernel_rfl) (fun K hK => ?_); refine ⟨?_, fun V hV => ?_, hK _ ?_⟩; rotate_left; (focus (unfold Oper.quietAt; dsimp only at hV; go_simp; try with_reducible rfl)); clear hK K; (try simp only [Act.put, List.setIfInBounds_toArray, List.set_cons_zero, List.set_cons_succ]))
    (refine q_want (by kernel_rfl) (fun K hK => ?_); refine ⟨?_, fun V hV => ?_, hK _ ?_⟩; rotate_left; (focus (unfold Oper.quietAt; dsimp only at hV; go_simp; try with_reducible rfl)); clear hK K; (try simp only [Act.put, List.setIfInBounds_toArray, List.set_cons_zero, List.set_cons_succ]))
    (refine q_want (by kernel_rfl) (fun K hK => ?_); refine ⟨?_, fun V hV => ?_, hK _ ?_⟩; rotate_left; (focus (unfold Oper.quietAt; dsimp only at hV; go_simp; try with_reducible rfl)); clear hK K; (try simp only [Act.put, List.setIfInBounds_toArray, List.set_cons_zero, List.set_cons_succ]))
    (refine q_want (by kernel_rfl) (fun K hK => ?_); refine ⟨?_, fun V hV => ?_, hK _ ?_⟩; rotate_left; (focus (unfold Oper.quietAt; dsimp only at hV; go_simp; try with_reducible rfl)); clear hK K; (try simp only [Act.put, List.setIfInBounds_toArray, List.set_cons_zero, List.set_cons_succ]))
    (refine q_want (by kernel_rfl) (fun K hK => ?_); refine ⟨?_, fun V hV => ?_, hK _ ?_⟩; rotate_left; (focus (unfold Oper.quietAt; dsimp only at hV; go_simp; try with_reducible rfl)); clear hK K; (try simp only [Act.put, List.setIfInBounds_toArray, List.set_cons_zero, List.set_cons_succ]))
    (refine q_want (by kernel_rfl) (fun K hK => ?_); refine ⟨?_, fun V hV => ?_, hK _ ?_⟩; rotate_left; (focus (unfold Oper.quietAt; dsimp only at hV; go_simp; try with_reducible rfl)); clear hK K; (try simp only [Act.put, List.setIfInBounds_toArray, List.set_cons_zero, List.set_cons_succ]))
    refine q_want (by kernel_rfl) (fun K hK => ?_)
    refine ⟨.bool true, fun V hV => ?_, hK _ ?_⟩
    · have HV := Lib.hid hV
      clear hV hK
      unfold Oper.quietAt
      go_simp
      exact HF7.out V HV.out
    clear hK K
    try simp only [Act.put, List.setIfInBounds_toArray, List.set_cons_zero, List.set_cons_succ]
    (refine q_want (by kernel_rfl) (fun K hK => ?_); refine ⟨?_, fun V hV => ?_, hK _ ?_⟩; rotate_left; (focus (unfold Oper.quietAt; dsimp only at hV; go_simp; try with_reducible rfl)); clear hK K; (try simp only [Act.put, List.setIfInBounds_toArray, List.set_cons_zero, List.set_cons_succ]))
    (refine q_want (by kernel_rfl) (fun K hK => ?_); refine ⟨?_, fun V hV => ?_, hK _ ?_⟩; rotate_left; (focus (unfold Oper.quietAt; dsimp only at hV; go_simp; try with_reducible rfl)); clear hK K; (try simp only [Act.put, List.setIfInBounds_toArray, List.set_cons_zero, List.set_cons_succ]))
    refine q_want (by kernel_rfl) (fun K hK => ?_)
    refine ⟨.bool true, fun V hV => ?_, hK _ ?_⟩
    · have HV := Lib.hid hV
      clear hV hK
      unfold Oper.quietAt
      go_simp
      exact HF8.out V HV.out
    clear hK K
    try simp only [Act.put, List.setIfInBounds_toArray, List.set_cons_zero, List.set_cons_succ]
    (refine q_want (by kernel_rfl) (fun K hK => ?_); refine ⟨?_, fun V hV => ?_, hK _ ?_⟩; rotate_left; (focus (unfold Oper.quietAt; dsimp only at hV; go_simp; try with_reducible rfl)); clear hK K; (try simp only [Act.put, List.setIfInBounds_toArray, List.set_cons_zero, List.set_cons_succ]))
    (refine q_want (by kernel_rfl) (fun K hK => ?_); refine ⟨?_, fun V hV => ?_, hK _ ?_⟩; rotate_left; (focus (unfold Oper.quietAt; dsimp only at hV; go_simp; try with_reducible rfl)); clear hK K; (try simp only [Act.put, List.setIfInBounds_toArray, List.set_cons_zero, List.set_cons_succ]))
    refine ⟨wpQuiet_nil ?_⟩
    intro w9 hV
    have HV := Lib.hid hV.1
    clear hV
    go_wp2
    go_ret
    exact ⟨rfl, bl_trans HFB.out HV.out⟩
end Go.Proofs.YtafiekelcoaadaaGreat

