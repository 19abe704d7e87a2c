import Derived.Test.YtkefndfgkmdphaaGreatFi
import Derived.Test.YtkefndfgkmdphaaGreatJn
import Derived.Test.YtkefndfgkmdphaaGreatMk
import Derived.Test.YtkefndfgkmdphaaGreatLx
import Derived.Test.YtkefndfgkmdphaaGreatFcx
import Derived.Test.YtkefndfgkmdphaaGreatFb

namespace Go.Proofs.YtkefndfgkmdphaaGreat
set_option maxHeartbeats 3200000
set_option maxRecDepth 100000
open Go.RowKit Tnr Tnt

theorem sameT_me {xs ys : List NV} (h : nds xs = nds ys) (a : List ByteArray) : sameT xs ys a a = true := by
 unfold sameT; rw [sameX_self, decide_eq_true h]; rfl
theorem LNs.far {w : World} {B n g cap b : Nat} {xs ys : List NV} (h : LNs w B n g cap xs ys) (hb : b < B) (i : Nat) (u : Value) : LNs (w.setCell ⟨b, i, none⟩ u) B n g cap xs ys := by
 refine ⟨h.1, h.2.1, h.2.2.1, row_far h.2.2.2.1 hb i u, fun j hj => ?_⟩
 obtain ⟨h0, ⟨g, h1, h2, h3, h4⟩, g', k1, k2, k3, k4⟩ := h.2.2.2.2 j hj
 exact ⟨h0, ⟨g, h1, h2, h3, row_far h4 hb i u⟩, g', k1, k2, k3, row_far k4 hb i u⟩
theorem LNs.down {w : World} {B B' n g cap : Nat} {xs ys : List NV} (h : LNs w B n g cap xs ys) (hB : B' ≤ B) : LNs w B' n g cap xs ys :=
 ⟨h.1, h.2.1, h.2.2.1, World.ownsRow.mono h.2.2.2.1 hB, fun i hi => (h.2.2.2.2 i hi).down hB⟩
theorem LNs.mem {w : World} {B n g cap : Nat} {xs ys : List NV} (h : LNs w B n g cap xs ys) (hn : n = xs.length) : ∀ y ∈ ys, NodeIn w y ∧ ∃ x ∈ xs, y.nd = x.nd := fun y hy => by
 obtain ⟨i, hi, rfl⟩ := List.mem_iff_getElem.1 hy
 have hi2 : i < n := by rw [h.1]; exact hi
 have hl := h.2.2.2.2 i hi2
 rw [gn_get hi] at hl
 exact ⟨hl.nodeIn, gn xs i, gn_mem (by omega), hl.nd⟩
theorem LNs.slN {w : World} {B n g cap : Nat} {xs ys : List NV} (h : LNs w B n g cap xs ys) (hn : n = xs.length) : SlN w (some ⟨g, 0, none⟩) ys := by
 refine ⟨fun y hy => (h.mem hn y hy).1, .inr ⟨g, 0, rfl, fun i hi => ?_⟩⟩
 have hc := rowN_cells h.2.2.2.1 (by rw [List.length_append, marksN_length, ← h.1]) i (by have := h.1; omega)
 rw [gn_front hi] at hc
 rw [Nat.zero_add]
 exact hc
theorem LNs.nds {w : World} {B n g cap : Nat} {xs ys : List NV} (h : LNs w B n g cap xs ys) (hn : n = xs.length) : nds ys = nds xs := by
 refine List.ext_getElem (by rw [nds_length, nds_length, ← h.1, ← hn]) fun i h1 h2 => ?_
 rw [nds_length] at h1 h2
 have e := (h.2.2.2.2 i (by rw [h.1]; exact h1)).nd
 rw [gn_get h1, gn_get h2] at e
 simpa [Go.Proofs.YtkefndfgkmdphaaGreat.nds] using e
theorem LNs.few {w : World} {B n g cap : Nat} {xs ys : List NV} (h : LNs w B n g cap xs ys) (hn : n = xs.length) (hf : Few xs) : Few ys := fun y hy => by
 obtain ⟨_, x, hx, e⟩ := h.mem hn y hy
 rw [e]; exact hf x hx
def LXs (w : World) (B nn g cap : Nat) (nm : List ByteArray) : Prop :=
 nn = nm.length ∧ nn + 12 ≤ cap ∧ cap ≤ 9223372036854775807 ∧ OwnX w B (.slice (some ⟨g, 0, none⟩) (nn + 12) cap) (nm ++ marksX 12)
theorem LXs.below {w w' : World} {B nn g cap : Nat} {nm : List ByteArray} (h : LXs w B nn g cap nm) (hb : Below w.heap.size w w') : LXs w' B nn g cap nm := ⟨h.1, h.2.1, h.2.2.1, ownX_below h.2.2.2 hb⟩
theorem LXs.slX {w : World} {B nn g cap : Nat} {nm : List ByteArray} (h : LXs w B nn g cap nm) : SlX w (some ⟨g, 0, none⟩) nm := lentX_sl h.2.2.2 (by rw [List.length_append, marksX_length, ← h.1])
def LentTPost (n nn : Nat) (xs : List NV) (nm : List ByteArray) (w : World) (e : Ending) (w' : World) : Prop :=
 ∃ g cap gx capx ys, e = .returned (.agg #[.slice (some ⟨g, 0, none⟩) n cap, .slice (some ⟨gx, 0, none⟩) nn capx]) ∧ LNs w' w.heap.size n g cap xs ys ∧ LXs w' w.heap.size nn gx capx nm ∧ Below w.heap.size w w'
theorem lentTree_any (p : Option Addr) (n c : Nat) (xs : List NV) (pn : Option Addr) (nn cn : Nat) (nm : List ByteArray) (w : World) (hn : n = xs.length) (hx : SlN w p xs) (hnm : n ≤ 3000) (hl : ∀ x ∈ xs, x.nd.kids.length ≤ 3000 ∧ x.nd.set.length ≤ 3000) (hnn : nn = nm.length) (hX : SlX w pn nm) (hn3 : nn ≤ 3000) (hpn : pn = none → cn = 0) :
  Calls Tryz.prog 22 #[.agg #[.slice p n c, .slice pn nn cn]] w (LentTPost n nn xs nm w) := by
 obtain ⟨W2, hW2⟩ : ∃ W, W = (w.alloc (.cells #[.slice p n c, .slice pn nn cn] 34)).alloc (.cells #[.slice none 0 0, .slice none 0 0] 34) := ⟨_, rfl⟩
 have hb2 : Below w.heap.size w W2 := by rw [hW2]; exact bl_trans (bl_alloc _ _) (bl_alloc _ _)
 have hB : Bx W2 w.heap.size 34 #[.slice p n c, .slice pn nn cn] := by rw [hW2]; exact (Bx.new w _ _).below (bl_alloc _ _)
 have hR : Bx W2 (w.heap.size + 1) 34 #[.slice none 0 0, .slice none 0 0] := by
  have h := Bx.new (w.alloc (.cells #[.slice p n c, .slice pn nn cn] 34)) 34 #[.slice none 0 0, .slice none 0 0]
  rw [World.size_alloc] at h; rw [hW2]; exact h
 have hs2 : W2.heap.size = w.heap.size + 1 + 1 := by rw [hW2]; simp
 obtain ⟨bx, hbx⟩ : ∃ b, b = w.heap.size := ⟨_, rfl⟩
 obtain ⟨br, hbr⟩ : ∃ b, b = bx + 1 := ⟨_, rfl⟩
 rw [← hbx] at hB
 rw [← hbx, ← hbr] at hR
 have HNB : Hid (w.heap.size = bx ∧ bx + 1 = br ∧ W2.heap.size = br + 1) := ⟨hbx.symm, hbr.symm, by rw [hs2, hbr, hbx]⟩
 have HW2 := lh hW2.symm
 have HLR := lh (lentNodes_any p c n xs W2 hn (hx.below hb2) hnm hl)
 have HB2 := lh hb2
 have HX := lh hB
 have HR := lh hR
 have HN := lh (And.intro hnn (And.intro hX (And.intro hn3 hpn)))
 clear hn hx hnm hl hnn hX hn3 hpn hW2 hb2 hR hs2 hbx hbr
 go_enter Tryz.func22, Tryz.ntmps22
 go_upto_region 1 with fail
 rw [HW2.out, HNB.out.1, HNB.out.2.1]
 have a0 := hB.cell (i := 0) rfl
 clear hB
 go_wp2_with fail
 refine (HLR.out).mono ?_
 rintro e w3 ⟨g1, c1, ys, rfl, ho, hb3⟩
 have hX3 := HX.out.below hb3
 have hR3 := HR.out.below hb3
 have x0 := hX3.cell (i := 0) rfl
 have f0 := hX3.free 0
 obtain ⟨w4, hw4⟩ : ∃ W, W = w3.setCell ⟨bx, 0, none⟩ (.slice (some ⟨g1, 0, none⟩) n c1) := ⟨_, rfl⟩
 have hX4 : Bx w4 bx 34 #[.slice (some ⟨g1, 0, none⟩) n c1, .slice pn nn cn] := by rw [hw4]; exact hX3.set 0 (.slice (some ⟨g1, 0, none⟩) n c1)
 have hR4 : Bx w4 br 34 #[.slice none 0 0, .slice none 0 0] := by rw [hw4]; exact hR3.other (a := ⟨bx, 0, none⟩) (show br ≠ bx by have := HNB.out.2.1; omega) (.slice (some ⟨g1, 0, none⟩) n c1)
 have ho4 : LNs w4 W2.heap.size n g1 c1 xs ys := by rw [hw4]; exact ho.far (by have := HNB.out; omega) 0 _
 have hb4 : Below w.heap.size w w4 := by rw [hw4]; exact (HB2.out.trans (hb3.mono HB2.out.size)).setCell (p := ⟨bx, 0, none⟩) (Nat.le_of_eq HNB.out.1) _
 have hle4 : W2.heap.size ≤ w4.heap.size := by rw [hw4, World.size_setCell]; exact hb3.size
 have HLI := lh (lentX_any pn cn nn nm w4 HN.out.1 (HN.out.2.1.below hb4) (by have := HN.out.1; have := HN.out.2.2.1; omega) HN.out.2.2.2)
 have HW4 : Hid (w3.setCell ⟨bx, 0, none⟩ (.slice (some ⟨g1, 0, none⟩) n c1) = w4) := hw4.symm
 have y1 := hX4.cell (i := 1) rfl
 rw [hw4] at y1
 have HX4 := lh hX4
 have HR4 := lh hR4
 have HO4 := lh ho4
 have HB4 := lh hb4
 have HL4 := lh hle4
 clear a0 hb3 hX3 hR3 hX4 hR4 hw4 ho ho4 hb4 hle4
 go_wp2_with fail
 rw [HW4.out]
 refine (HLI.out).mono ?_
 rintro e w5 ⟨g2, c2, rfl, h1, h2, ho, hb5⟩
 have hX5 := HX4.out.below hb5
 have hR5 := HR4.out.below hb5
 have hO5 := HO4.out.below hb5
 clear x0 f0 y1
 have x1 := hX5.cell (i := 1) rfl
 have f1 := hX5.free 1
 obtain ⟨w6, hw6⟩ : ∃ W, W = w5.setCell ⟨bx, 1, none⟩ (.slice (some ⟨g2, 0, none⟩) nn c2) := ⟨_, rfl⟩
 have hX6 : Bx w6 bx 34 #[.slice (some ⟨g1, 0, none⟩) n c1, .slice (some ⟨g2, 0, none⟩) nn c2] := by rw [hw6]; exact hX5.set 1 (.slice (some ⟨g2, 0, none⟩) nn c2)
 have hR6 : Bx w6 br 34 #[.slice none 0 0, .slice none 0 0] := by rw [hw6]; exact hR5.other (a := ⟨bx, 1, none⟩) (show br ≠ bx by have := HNB.out.2.1; omega) (.slice (some ⟨g2, 0, none⟩) nn c2)
 have hO6 : LNs w6 W2.heap.size n g1 c1 xs ys := by rw [hw6]; exact hO5.far (by have := HNB.out; omega) 1 _
 have hP6 : OwnX w6 w4.heap.size (.slice (some ⟨g2, 0, none⟩) (nn + 12) c2) (nm ++ marksX 12) := by rw [hw6]; exact row_far ho (by have := HNB.out; have := HL4.out; omega) 1 _
 have hb6 : Below w.heap.size w w6 := by rw [hw6]; exact (HB4.out.trans (hb5.mono HB4.out.size)).setCell (p := ⟨bx, 1, none⟩) (Nat.le_of_eq HNB.out.1) _
 have m0 := hX6.cell (i := 0) rfl
 have m1 := hX6.cell (i := 1) rfl
 have n0 := hR6.cell (i := 0) rfl
 have n1 := hR6.cell (i := 1) rfl
 have fz0 := hR6.free 0
 have fz1 := hR6.free 1
 obtain ⟨v, hv⟩ : ∃ v : Value, v = .slice (some ⟨g1, 0, none⟩) n c1 := ⟨_, rfl⟩
 obtain ⟨u, hu⟩ : ∃ v : Value, v = .slice (some ⟨g2, 0, none⟩) nn c2 := ⟨_, rfl⟩
 have hY : Bx ((w6.setCell ⟨br, 0, none⟩ v).setCell ⟨br, 1, none⟩ u) br 34 #[v, u] := (hR6.set 0 v).set 1 u
 have HFIN : Hid (LNs ((w6.setCell ⟨br, 0, none⟩ v).setCell ⟨br, 1, none⟩ u) w.heap.size n g1 c1 xs ys ∧ LXs ((w6.setCell ⟨br, 0, none⟩ v).setCell ⟨br, 1, none⟩ u) w.heap.size nn g2 c2 nm ∧ Below w.heap.size w ((w6.setCell ⟨br, 0, none⟩ v).setCell ⟨br, 1, none⟩ u)) := by
  refine ⟨?_, ⟨HN.out.1, h1, h2, ?_⟩, ?_⟩
  ·exact ((hO6.far (by have := HNB.out; omega) 0 v).far (by have := HNB.out; omega) 1 u).down HB2.out.size
  ·exact ownX_down (row_far (row_far hP6 (by have := HNB.out; have := HL4.out; omega) 0 v) (by have := HNB.out; have := HL4.out; omega) 1 u) (Nat.le_trans HB2.out.size HL4.out)
  ·exact (hb6.setCell (p := ⟨br, 0, none⟩) (show w.heap.size ≤ br by have := HNB.out; omega) v).setCell (p := ⟨br, 1, none⟩) (show w.heap.size ≤ br by have := HNB.out; omega) u
 have r0 := hY.cell (i := 0) rfl
 have r1 := hY.cell (i := 1) rfl
 rw [hw6, hv, hu] at r0 r1 HFIN
 rw [hw6] at m0 m1 n0 n1 fz0 fz1
 clear hX6 hR6 hY hO6 hP6 hb6 hw6 hO5 hX5 hR5 hb5 h1 h2 ho hv hu
 go_wp2
 refine bodyPost_ret (v := .agg #[.slice (some ⟨g1, 0, none⟩) n c1, .slice (some ⟨g2, 0, none⟩) nn c2]) (by simp [results, Tryz.results22, go_sem, r0, r1]) rfl ⟨_, _, _, _, _, rfl, HFIN.out.1, HFIN.out.2.1, HFIN.out.2.2⟩
theorem keptTree_any (p : Option Addr) (n c : Nat) (xs ys : List NV) (pn : Option Addr) (nn cn : Nat) (nm : List ByteArray) (B g cap gx capx : Nat) (w : World) (hn : n = xs.length) (hx : SlN w p xs) (hnm : n ≤ 3000) (hl : ∀ x ∈ xs, x.nd.kids.length ≤ 3000 ∧ x.nd.set.length ≤ 3000) (hX : SlX w pn nm) (hn3 : nn ≤ 3000) (ho : LNs w B n g cap xs ys) (hox : LXs w B nn gx capx nm) :
  Calls Tryz.prog 24 #[.agg #[.slice (some ⟨g, 0, none⟩) n cap, .slice (some ⟨gx, 0, none⟩) nn capx], .agg #[.slice p n c, .slice pn nn cn]] w fun e w' => e = .returned (.bool true) ∧ Below w.heap.size w w' := by
 obtain ⟨W2, hW2⟩ : ∃ W, W = (w.alloc (.cells #[.slice (some ⟨g, 0, none⟩) n cap, .slice (some ⟨gx, 0, none⟩) nn capx] 34)).alloc (.cells #[.slice p n c, .slice pn nn cn] 34) := ⟨_, rfl⟩
 have hb2 : Below w.heap.size w W2 := by rw [hW2]; exact bl_trans (bl_alloc _ _) (bl_alloc _ _)
 have hA : Bx W2 w.heap.size 34 #[.slice (some ⟨g, 0, none⟩) n cap, .slice (some ⟨gx, 0, none⟩) nn capx] := by rw [hW2]; exact (Bx.new w _ _).below (bl_alloc _ _)
 have hD : Bx W2 (w.heap.size + 1) 34 #[.slice p n c, .slice pn nn cn] := by
  have h := Bx.new (w.alloc (.cells #[.slice (some ⟨g, 0, none⟩) n cap, .slice (some ⟨gx, 0, none⟩) nn capx] 34)) 34 #[.slice p n c, .slice pn nn cn]
  rw [World.size_alloc] at h; rw [hW2]; exact h
 have hf : Few xs := fun x hx => by have := hl x hx; omega
 have ho2 := ho.below hb2
 have HS : Hid (Calls Tryz.prog 41 #[.agg #[.slice (some ⟨g, 0, none⟩) n cap, .slice (some ⟨gx, 0, none⟩) nn capx], .agg #[.slice p n c, .slice pn nn cn]] W2 fun e w' => e = .returned (.bool true) ∧ Below W2.heap.size W2 w') :=
  (sameTree_any (some ⟨g, 0, none⟩) p (some ⟨gx, 0, none⟩) pn n n cap c nn nn capx cn ys xs nm nm W2 ho.1 hn (by omega) (ho2.slN hn) (hx.below hb2) (ho.few hn hf) hf hox.1 hox.1 (by omega) (by omega) (hox.below hb2).slX (hX.below hb2)).mono fun e w' ⟨h1, h2⟩ => ⟨by rw [h1, sameT_me (ho.nds hn)], h2⟩
 have HR : Hid (∀ V, Below W2.heap.size W2 V → Calls Tryz.prog 65 #[.slice (some ⟨g, 0, none⟩) n cap, .slice p n c] V fun e w' => e = .returned (.bool true) ∧ Below V.heap.size V w') := fun V hV =>
  have hb := hb2.trans (hV.mono hb2.size)
  keptNodes_any p c n xs ys B g cap V hn (hx.below hb) hnm hl (ho.below hb)
 have HK : Hid (∀ V, Below W2.heap.size W2 V → Calls Tryz.prog 66 #[.slice (some ⟨gx, 0, none⟩) nn capx, .slice pn nn cn] V fun e w' => e = .returned (.bool true) ∧ Below V.heap.size V w') := fun V hV =>
  have hb := hb2.trans (hV.mono hb2.size)
  keptX_any pn cn nn nm B gx capx V hox.1 (hX.below hb) (by have := hox.1; omega) (hox.below hb).2.2.2 hox.2.1 hox.2.2.1
 have HB2 := lh hb2
 obtain ⟨bx, hbx⟩ : ∃ b, b = w.heap.size := ⟨_, rfl⟩
 obtain ⟨br, hbr⟩ : ∃ b, b = bx + 1 := ⟨_, rfl⟩
 rw [← hbx] at hA
 rw [← hbx, ← hbr] at hD
 have HNB : Hid (w.heap.size = bx ∧ bx + 1 = br) := ⟨hbx.symm, hbr.symm⟩
 have HW2 := lh hW2.symm
 have HX := lh hA
 have HY := lh hD
 have a0 := hA.cell (i := 0) rfl
 have a1 := hA.cell (i := 1) rfl
 have d0 := hD.cell (i := 0) rfl
 have d1 := hD.cell (i := 1) rfl
 clear hn hx hnm hl hX hn3 ho hox hW2 hb2 hbx hbr hA hD hf ho2
 go_enter Tryz.func24, Tryz.ntmps24
 go_upto_region 1 with fail
 rw [HW2.out, HNB.out.1, HNB.out.2]
 go_wp2_with fail
 refine HS.out.mono ?_
 rintro e w3 ⟨rfl, hb3⟩
 clear a0 a1 d0 d1
 have a0 := (HX.out.below hb3).cell (i := 0) rfl
 have d0 := (HY.out.below hb3).cell (i := 0) rfl
 have HB3 := lh hb3
 clear hb3
 go_wp2_with fail
 refine (HR.out w3 HB3.out).mono ?_
 rintro e w4 ⟨rfl, hb4⟩
 have HB4 := lh (bl_trans HB3.out hb4)
 clear a0 d0 hb4
 have a1 := (HX.out.below HB4.out).cell (i := 1) rfl
 have d1 := (HY.out.below HB4.out).cell (i := 1) rfl
 go_wp2_with fail
 refine (HK.out w4 HB4.out).mono ?_
 rintro e w5 ⟨rfl, hb5⟩
 have HB5 := lh (bl_trans HB4.out hb5)
 clear a1 d1 hb5
 go_wp2
 go_ret
 exact ⟨rfl, bl_trans HB2.out HB5.out⟩
end Go.Proofs.YtkefndfgkmdphaaGreat


namespace Go.Proofs.YtkefndfgkmdphaaGreat
open Go.RowKit Tnr Tnt

structure Kc where
 P : Value → World → Prop
 keep : ∀ {v : Value} {w w' : World}, P v w → Below w.heap.size w w' → P v w'
def Kc.val (u : Value) : Kc := ⟨fun v _ => v = u, fun h _ => h⟩
def Kc.box (z : Nat) (T : TypeId) (cs : Array Value) : Kc := ⟨fun v w => ∃ b : Nat, v = .pointer (some ⟨b, 0, none⟩) ∧ z ≤ b ∧ Bx w b T cs, fun ⟨b, h1, h2, h3⟩ hb => ⟨b, h1, h2, h3.below hb⟩⟩
theorem keep_cellK {w w' : World} {b i : Nat} {v : Value} (hb : Below w.heap.size w w') (h : w.cell? ⟨b, i, none⟩ = some v) : w'.cell? ⟨b, i, none⟩ = some v := by rw [hb.cell (World.block_lt_of_cell? w _ h)]; exact h
theorem sln_new {w : World} (xs : List NV) (h : ∀ x ∈ xs, NodeIn w x) (T : TypeId) : SlN (w.alloc (.cells (xs.flatMap encN).toArray T)) (some ⟨w.heap.size, 0, none⟩) xs := by
 refine ⟨fun x hx => (h x hx).below (bl_alloc _ _), .inr ⟨w.heap.size, 0, rfl, fun i hi => ?_⟩⟩
 have k : ∀ j, j < 9 → ∀ u, (encN (gn xs i))[j]? = some u → (w.alloc (.cells (xs.flatMap encN).toArray T)).cell? ⟨w.heap.size, 0 + i * 9 + j, none⟩ = some u := fun j hj u hu => by
  rw [Nat.zero_add, World.cell?_alloc_at _ _ _ _ rfl, ← hu, ← encN_at xs i j hi hj]
  simp
 exact ⟨k 0 (by omega) _ rfl, k 1 (by omega) _ rfl, k 2 (by omega) _ rfl, k 3 (by omega) _ rfl, k 4 (by omega) _ rfl, k 5 (by omega) _ rfl, k 6 (by omega) _ rfl, k 7 (by omega) _ rfl, k 8 (by omega) _ rfl⟩
def Kc.treeL (L : List Nd) : Kc := ⟨fun v w => ∃ (q : Option Addr) (m cq : Nat) (zs : List NV), v = .agg #[.slice q m cq, .slice none 0 0] ∧ m = zs.length ∧ SlN w q zs ∧ nds zs = L, fun ⟨q, m, cq, zs, h1, h2, h3, h4⟩ hb => ⟨q, m, cq, zs, h1, h2, h3.below hb, h4⟩⟩
theorem inv_stay {P : Program} {ops : Array Oper} {Q : Exit → Act → World → Prop} {o : Oper} {a : Act} {w : World} {v : Value} {K : Act → World → Prop} {G : Value → World → Prop} (hK : ∀ u y, G u y → Below w.heap.size w y → K (a.put o.dst u) y) (hG : G v w) (hrun : (execOp a.eval o).run P w = .ok (.value v) w) (hw : Region.wanted o (yielded ops a.tmps) = true) :
  if Region.wanted o (yielded ops a.tmps) = true then o.wp P a w K Q else K (a.put o.dst undef) w := inv_val hw hrun hK hG (Below.refl _ _)
theorem inv_away {P : Program} {ops : Array Oper} {Q : Exit → Act → World → Prop} {o : Oper} {a : Act} {w : World} {K : Act → World → Prop} {G : Value → World → Prop} (hK : ∀ u y, G u y → Below w.heap.size w y → K (a.put o.dst u) y) (hG : G undef w) (hw : Region.wanted o (yielded ops a.tmps) = false) :
  if Region.wanted o (yielded ops a.tmps) = true then o.wp P a w K Q else K (a.put o.dst undef) w := inv_left hw hK hG (Below.refl _ _)
theorem inv_enter {P : Program} {ops : Array Oper} {Q : Exit → Act → World → Prop} {o : Oper} {a : Act} {w : World} {K : Act → World → Prop} {G : Value → World → Prop} (F : FuncId) (args : Array Value) (hK : ∀ u y, G u y → Below w.heap.size w y → K (a.put o.dst u) y) (hrun : (execOp a.eval o).run P w = .ok (.enter F args) w) (hw : Region.wanted o (yielded ops a.tmps) = true)
  (hc : Calls P F args w fun e y => ∃ u, e = .returned u ∧ G u y ∧ Below w.heap.size w y) : if Region.wanted o (yielded ops a.tmps) = true then o.wp P a w K Q else K (a.put o.dst undef) w := inv_call hw hrun hK hc
theorem wanted_t {ops : Array Oper} {o : Oper} {a : Act} {j s : Nat} {b : Bool} (hv : a.tmps[s]? = some (.bool b)) (h : o.guard = some (j, b)) (hs : slotOf ops j = some s) : Region.wanted o (yielded ops a.tmps) = true := (wanted_some h hs hv).trans (by simp)
theorem wanted_f {ops : Array Oper} {o : Oper} {a : Act} {j s : Nat} {b : Bool} (hv : a.tmps[s]? = some (.bool b)) (h : o.guard = some (j, !b)) (hs : slotOf ops j = some s) : Region.wanted o (yielded ops a.tmps) = false := (wanted_some h hs hv).trans (by cases b <;> rfl)
end Go.Proofs.YtkefndfgkmdphaaGreat


namespace Go.Proofs.YtkefndfgkmdphaaGreat
set_option maxHeartbeats 3200000
set_option maxRecDepth 100000
open Go.RowKit Tnr Tnt

theorem markTreeV_any (k i : Nat) (w : World) (h0 : k ≤ 100000) (h1 : i ≤ 1000000) : Calls Tryz.prog 34 #[.int .i64 (k : Nat), .int .i64 (i : Nat)] w fun e w' => ∃ g, e = .returned (.agg #[.slice none 0 0, .slice (some ⟨g, 0, none⟩) 1 1]) ∧ Bx w' g 9 #[.string (mtx k i)] ∧ w.heap.size ≤ g ∧ Below w.heap.size w w' := by
 obtain ⟨W1, hW1⟩ : ∃ W, W = w.alloc (.cells #[.slice none 0 0, .slice none 0 0] 34) := ⟨_, rfl⟩
 obtain ⟨br, hbr⟩ : ∃ b, b = w.heap.size := ⟨_, rfl⟩
 have hb1 : Below w.heap.size w W1 := by rw [hW1]; exact bl_alloc _ _
 have hR : Bx W1 br 34 #[.slice none 0 0, .slice none 0 0] := by rw [hW1, hbr]; exact Bx.new _ _ _
 have HMT := lh (markX_any k i W1 h0 h1)
 have HB1 := lh hb1
 have HR := lh hR
 have HBR : Hid (w.heap.size ≤ br) := Nat.le_of_eq hbr.symm
 have HW1 := lh (And.intro hW1.symm hbr.symm)
 clear hW1 hbr hb1 hR
 go_enter Tryz.func34, Tryz.ntmps34
 go_upto_region 1 with fail
 rw [HW1.out.2, HW1.out.1]
 go_wp2_with fail
 refine HMT.out.mono ?_
 rintro e w3 ⟨rfl, hb3⟩
 obtain ⟨w4, hw4⟩ : ∃ W, W = w3.alloc (.cells #[.string (mtx k i)] 9) := ⟨_, rfl⟩
 obtain ⟨g, hg⟩ : ∃ b, b = w3.heap.size := ⟨_, rfl⟩
 have hb4 : Below w3.heap.size w3 w4 := by rw [hw4]; exact bl_alloc _ _
 have hG : Bx w4 g 9 #[.string (mtx k i)] := by rw [hw4, hg]; exact Bx.new _ _ _
 have hgB : w.heap.size ≤ g := by rw [hg]; exact Nat.le_trans HB1.out.size hb3.size
 have hR4 := (HR.out.below hb3).below hb4
 have hB4 := (HB1.out.trans ((bl_trans hb3 hb4).mono HB1.out.size))
 obtain ⟨nv, hnv⟩ : ∃ v : Value, v = .slice (some ⟨g, 0, none⟩) 1 1 := ⟨_, rfl⟩
 have k0 := hR4.cell (i := 0) rfl
 have k1 := hR4.cell (i := 1) rfl
 have f0 := hR4.free 0
 have f1 := hR4.free 1
 have hR6 : Bx ((w4.setCell ⟨br, 0, none⟩ (.slice none 0 0)).setCell ⟨br, 1, none⟩ nv) br 34 #[.slice none 0 0, nv] := (hR4.set 0 (.slice none 0 0)).set 1 nv
 have z0 := hR6.cell (i := 0) rfl
 have z1 := hR6.cell (i := 1) rfl
 have hO6 : Bx ((w4.setCell ⟨br, 0, none⟩ (.slice none 0 0)).setCell ⟨br, 1, none⟩ nv) g 9 #[.string (mtx k i)] := by
  have hne : g ≠ br := fun e => by
   have h1 := hG
   rw [e] at h1
   unfold Bx at h1
   rw [show w4.heap[br]? = _ from hR4] at h1
   simp at h1
  exact (hG.other (a := ⟨br, 0, none⟩) hne _).other (a := ⟨br, 1, none⟩) hne _
 have HFIN := lh (And.intro hO6 (And.intro hgB ((hB4.setCell (p := ⟨br, 0, none⟩) HBR.out (.slice none 0 0)).setCell (p := ⟨br, 1, none⟩) HBR.out nv)))
 rw [hnv] at z0 z1 HFIN
 have HW4 := lh (And.intro hw4.symm hg.symm)
 rw [hw4] at k0 k1 f0 f1 z0 z1 HFIN
 clear hb3 hb4 hG hgB hR4 hB4 hnv hR6 hO6 hw4
 rw [hg] at z0 z1 HFIN
 clear hg
 go_wp2
 refine bodyPost_ret (v := .agg #[.slice none 0 0, .slice (some ⟨w3.heap.size, 0, none⟩) 1 1]) (by simp [results, Tryz.results34, go_sem, z0, z1]) rfl ⟨_, rfl, HFIN.out.1, HFIN.out.2.1, HFIN.out.2.2⟩
def Kc.mark (t : ByteArray) : Kc := ⟨fun v w => ∃ g : Nat, v = .agg #[.slice none 0 0, .slice (some ⟨g, 0, none⟩) 1 1] ∧ Bx w g 9 #[.string t], fun ⟨g, h1, h2⟩ hb => ⟨g, h1, h2.below hb⟩⟩
theorem bx_slX {w : World} {g : Nat} {t : ByteArray} (h : Bx w g 9 #[.string t]) : SlX w (some ⟨g, 0, none⟩) [t] := by
 refine .inr ⟨g, 0, rfl, fun i hi => ?_⟩
 have : i = 0 := by simpa using hi
 subst this
 exact h.cell (i := 0) rfl
theorem sameMark_any (g g' : Nat) (t : ByteArray) (w : World) (h : Bx w g 9 #[.string t]) (h' : Bx w g' 9 #[.string t]) :
  Calls Tryz.prog 41 #[.agg #[.slice none 0 0, .slice (some ⟨g, 0, none⟩) 1 1], .agg #[.slice none 0 0, .slice (some ⟨g', 0, none⟩) 1 1]] w fun e w' => e = .returned (.bool true) ∧ Below w.heap.size w w' :=
 (sameTree_any none none (some ⟨g, 0, none⟩) (some ⟨g', 0, none⟩) 0 0 0 0 1 1 1 1 [] [] [t] [t] w rfl rfl (by decide) ⟨fun _ h => by simp at h, .inl rfl⟩ ⟨fun _ h => by simp at h, .inl rfl⟩ (fun _ h => by simp at h) (fun _ h => by simp at h) rfl rfl (by decide) (by decide) (bx_slX h) (bx_slX h')).mono fun e w' ⟨h1, h2⟩ => ⟨by rw [h1, sameT_me rfl], h2⟩
end Go.Proofs.YtkefndfgkmdphaaGreat


namespace Go.Proofs.YtkefndfgkmdphaaGreat
open Go.RowKit Tnr Tnt

def mcT (A : Nat → Nat → Nat) (k i : Nat) : List Value := [.slice none 0 0, .slice (some ⟨A k i, 0, none⟩) 1 1]
theorem mcT_length (A : Nat → Nat → Nat) (k i : Nat) : (mcT A k i).length = 2 := rfl
def upA (A : Nat → Nat → Nat) (k i g : Nat) : Nat → Nat → Nat := fun j t => if j = k ∧ t = i then g else A j t
theorem upA_same (A : Nat → Nat → Nat) (k i g : Nat) : upA A k i g k i = g := if_pos ⟨rfl, rfl⟩
theorem upA_ne (A : Nat → Nat → Nat) {k i g j t : Nat} (h : ¬ (j = k ∧ t = i)) : upA A k i g j t = A j t := if_neg h
theorem mrow_congr {A A' : Nat → Nat → Nat} {k : Nat} : ∀ {n : Nat}, (∀ i, i < n → A k i = A' k i) → mrow (mcT A) k n = mrow (mcT A') k n
 | 0, _ => rfl
 | n + 1, h => by
  rw [mrow_succ, mrow_succ, mrow_congr fun i hi => h i (by omega)]
  unfold mcT
  rw [h n (by omega)]
theorem mrow_up {A : Nat → Nat → Nat} {k i g j n : Nat} (h : j ≠ k ∨ n ≤ i) : mrow (mcT (upA A k i g)) j n = mrow (mcT A) j n :=
 mrow_congr fun t ht => upA_ne A fun ⟨h1, h2⟩ => by rcases h with h | h <;> omega
theorem mrow_upS (A : Nat → Nat → Nat) (k i g : Nat) : mrow (mcT (upA A k i g)) k (i + 1) = mrow (mcT A) k i ++ [.slice none 0 0, .slice (some ⟨g, 0, none⟩) 1 1] := by
 rw [mrow_succ, mrow_up (.inr (Nat.le_refl _))]
 unfold mcT
 rw [upA_same]
theorem L1.upA {A : Nat → Nat → Nat} {ds : List D} {m k i g k0 : Nat} {w wr : World} (h : L1 2 (mcT A) ds m w k0 wr) (hk : k0 ≤ k ∨ ∀ j, j < m → j = k → (dg ds j).n ≤ i) : L1 2 (mcT (Go.Proofs.YtkefndfgkmdphaaGreat.upA A k i g)) ds m w k0 wr :=
 ⟨h.but, h.room, fun j hj hjm => by
  rw [mrow_up (by
   by_cases e : j = k
   ·rcases hk with hk | hk
    ·omega
    ·exact .inr (hk j hjm e)
   ·exact .inl e)]
  exact h.fill j hj hjm⟩
theorem L2.upA {A : Nat → Nat → Nat} {ds es : List D} {m x k i g G Z : Nat} {w wr : World} (h : L2 2 (mcT A) ds es m x G Z w wr) (hd : ∀ j, j < m → j = k → (dg ds j).n ≤ i) (he : ∀ j, j < es.length → j = k → (dg ds j).n + x ≤ i) : L2 2 (mcT (Go.Proofs.YtkefndfgkmdphaaGreat.upA A k i g)) ds es m x G Z w wr :=
 ⟨h.but, h.room, fun j hj => by
  rw [mrow_up (by
   by_cases e : j = k
   ·exact .inr (hd j hj e)
   ·exact .inl e)]
  exact h.fill j hj, h.roomE, fun j hj => by
  rw [mrow_up (by
   by_cases e : j = k
   ·exact .inr (he j hj e)
   ·exact .inl e)]
  exact h.fillE j hj, h.nE, h.place, h.gn, h.gz, h.zs, h.wz, h.free, h.cell, h.em, h.dw, h.wg⟩
def TX (A : Nat → Nat → Nat) (S : Nat → Nat → Prop) (N : Nat → Prop) (w wr : World) : Prop :=
 ∀ j t, S j t → Bx wr (A j t) 9 #[.string (mtx j t)] ∧ w.heap.size ≤ A j t ∧ ¬ N (A j t)
section
variable {A : Nat → Nat → Nat} {S S' : Nat → Nat → Prop} {N N' : Nat → Prop} {w wr W : World}
theorem TX.below (h : TX A S N w wr) (hb : Below wr.heap.size wr W) : TX A S N w W := fun j t hs => ⟨(h j t hs).1.below hb, (h j t hs).2⟩
theorem TX.but {T : Nat → Prop} (h : TX A S N w wr) (hb : But T wr W) (hT : ∀ b, T b → b < w.heap.size ∨ N b) : TX A S N w W := fun j t hs => by
 obtain ⟨h1, h2, h3⟩ := h j t hs
 refine ⟨(hb.block _ h1.lt fun s => ?_).trans h1, h2, h3⟩
 rcases hT _ s with h4 | h4
 ·omega
 ·exact h3 h4
theorem TX.few (h : TX A S N w wr) (hS : ∀ j t, S' j t → S j t) : TX A S' N w wr := fun j t hs => h j t (hS j t hs)
theorem TX.more (h : TX A S N w wr) (hN : ∀ b, N' b → N b ∨ wr.heap.size ≤ b ∨ b < w.heap.size) : TX A S N' w wr := fun j t hs => by
 obtain ⟨h1, h2, h3⟩ := h j t hs
 refine ⟨h1, h2, fun s => ?_⟩
 rcases hN _ s with h4 | h4 | h4
 ·exact h3 h4
 ·have := h1.lt; omega
 ·omega
theorem TX.skip {k i g : Nat} (h : TX A S N w wr) (hn : ¬ S k i) : TX (Go.Proofs.YtkefndfgkmdphaaGreat.upA A k i g) S N w wr := fun j t hs => by
 rw [upA_ne A (fun ⟨e1, e2⟩ => hn (by rw [← e1, ← e2]; exact hs))]
 exact h j t hs
theorem TX.mark {k i g : Nat} (h : TX A S N w wr) (hb : Below wr.heap.size wr W) (hg : Bx W g 9 #[.string (mtx k i)]) (hgw : wr.heap.size ≤ g) (hw : w.heap.size ≤ wr.heap.size) (hN : ∀ b, N b → b < wr.heap.size) (hn : ¬ S k i) (hS : ∀ j t, S' j t → S j t ∨ (j = k ∧ t = i)) : TX (Go.Proofs.YtkefndfgkmdphaaGreat.upA A k i g) S' N w W := fun j t hs => by
 by_cases e : j = k ∧ t = i
 ·obtain ⟨rfl, rfl⟩ := e
  rw [upA_same]
  exact ⟨hg, by omega, fun s => by have := hN _ s; omega⟩
 ·rw [upA_ne A e]
  rcases hS j t hs with h1 | h1
  ·exact ⟨(h j t h1).1.below hb, (h j t h1).2⟩
  ·exact absurd h1 e
end
end Go.Proofs.YtkefndfgkmdphaaGreat

