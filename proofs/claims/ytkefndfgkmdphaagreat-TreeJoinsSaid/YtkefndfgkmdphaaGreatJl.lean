import Derived.Test.YtkefndfgkmdphaaGreatFi
import Derived.Test.YtkefndfgkmdphaaGreatJk
import Derived.Test.YtkefndfgkmdphaaGreatLe
import Derived.Test.YtkefndfgkmdphaaGreatJc

namespace Go.Proofs.YtkefndfgkmdphaaGreat
set_option maxHeartbeats 3200000
set_option maxRecDepth 100000
open Go.RowKit Tnr Tnt

def putN9 (w : World) (b : Nat) (v0 v1 v2 v3 v4 v5 v6 v7 v8 : Value) : World := ((((((((w.setCell ⟨b, 0, none⟩ v0).setCell ⟨b, 1, none⟩ v1).setCell ⟨b, 2, none⟩ v2).setCell ⟨b, 3, none⟩ v3).setCell ⟨b, 4, none⟩ v4).setCell ⟨b, 5, none⟩ v5).setCell ⟨b, 6, none⟩ v6).setCell ⟨b, 7, none⟩ v7).setCell ⟨b, 8, none⟩ v8
theorem bx_putN9 {w : World} {b : Nat} {T : TypeId} {z0 z1 z2 z3 z4 z5 z6 z7 z8 : Value} (h : Bx w b T #[z0, z1, z2, z3, z4, z5, z6, z7, z8]) (v0 v1 v2 v3 v4 v5 v6 v7 v8 : Value) : Bx (putN9 w b v0 v1 v2 v3 v4 v5 v6 v7 v8) b T #[v0, v1, v2, v3, v4, v5, v6, v7, v8] := by
 have h0 : Bx (w.setCell ⟨b, 0, none⟩ v0) b T #[v0, z1, z2, z3, z4, z5, z6, z7, z8] := h.set 0 v0
 have h1 : Bx ((w.setCell ⟨b, 0, none⟩ v0).setCell ⟨b, 1, none⟩ v1) b T #[v0, v1, z2, z3, z4, z5, z6, z7, z8] := h0.set 1 v1
 have h2 : Bx (((w.setCell ⟨b, 0, none⟩ v0).setCell ⟨b, 1, none⟩ v1).setCell ⟨b, 2, none⟩ v2) b T #[v0, v1, v2, z3, z4, z5, z6, z7, z8] := h1.set 2 v2
 have h3 : Bx ((((w.setCell ⟨b, 0, none⟩ v0).setCell ⟨b, 1, none⟩ v1).setCell ⟨b, 2, none⟩ v2).setCell ⟨b, 3, none⟩ v3) b T #[v0, v1, v2, v3, z4, z5, z6, z7, z8] := h2.set 3 v3
 have h4 : Bx (((((w.setCell ⟨b, 0, none⟩ v0).setCell ⟨b, 1, none⟩ v1).setCell ⟨b, 2, none⟩ v2).setCell ⟨b, 3, none⟩ v3).setCell ⟨b, 4, none⟩ v4) b T #[v0, v1, v2, v3, v4, z5, z6, z7, z8] := h3.set 4 v4
 have h5 : Bx ((((((w.setCell ⟨b, 0, none⟩ v0).setCell ⟨b, 1, none⟩ v1).setCell ⟨b, 2, none⟩ v2).setCell ⟨b, 3, none⟩ v3).setCell ⟨b, 4, none⟩ v4).setCell ⟨b, 5, none⟩ v5) b T #[v0, v1, v2, v3, v4, v5, z6, z7, z8] := h4.set 5 v5
 have h6 : Bx (((((((w.setCell ⟨b, 0, none⟩ v0).setCell ⟨b, 1, none⟩ v1).setCell ⟨b, 2, none⟩ v2).setCell ⟨b, 3, none⟩ v3).setCell ⟨b, 4, none⟩ v4).setCell ⟨b, 5, none⟩ v5).setCell ⟨b, 6, none⟩ v6) b T #[v0, v1, v2, v3, v4, v5, v6, z7, z8] := h5.set 6 v6
 have h7 : Bx ((((((((w.setCell ⟨b, 0, none⟩ v0).setCell ⟨b, 1, none⟩ v1).setCell ⟨b, 2, none⟩ v2).setCell ⟨b, 3, none⟩ v3).setCell ⟨b, 4, none⟩ v4).setCell ⟨b, 5, none⟩ v5).setCell ⟨b, 6, none⟩ v6).setCell ⟨b, 7, none⟩ v7) b T #[v0, v1, v2, v3, v4, v5, v6, v7, z8] := h6.set 7 v7
 have h8 : Bx (((((((((w.setCell ⟨b, 0, none⟩ v0).setCell ⟨b, 1, none⟩ v1).setCell ⟨b, 2, none⟩ v2).setCell ⟨b, 3, none⟩ v3).setCell ⟨b, 4, none⟩ v4).setCell ⟨b, 5, none⟩ v5).setCell ⟨b, 6, none⟩ v6).setCell ⟨b, 7, none⟩ v7).setCell ⟨b, 8, none⟩ v8) b T #[v0, v1, v2, v3, v4, v5, v6, v7, v8] := h7.set 8 v8
 exact h8
theorem below_putN9 {B : Nat} {a w : World} {b : Nat} (h : Below B a w) (hb : B ≤ b) (v0 v1 v2 v3 v4 v5 v6 v7 v8 : Value) : Below B a (putN9 w b v0 v1 v2 v3 v4 v5 v6 v7 v8) :=
 ((((((((h.setCell (p := ⟨b, 0, none⟩) hb v0).setCell (p := ⟨b, 1, none⟩) hb v1).setCell (p := ⟨b, 2, none⟩) hb v2).setCell (p := ⟨b, 3, none⟩) hb v3).setCell (p := ⟨b, 4, none⟩) hb v4).setCell (p := ⟨b, 5, none⟩) hb v5).setCell (p := ⟨b, 6, none⟩) hb v6).setCell (p := ⟨b, 7, none⟩) hb v7).setCell (p := ⟨b, 8, none⟩) hb v8
theorem own_putN9 {w : World} {BB n z b : Nat} {T : TypeId} {v : Value} {xs : List Value} (h : w.ownsRow BB T z v n xs) (hne : v.ownBlock ≠ some b) (v0 v1 v2 v3 v4 v5 v6 v7 v8 : Value) : (putN9 w b v0 v1 v2 v3 v4 v5 v6 v7 v8).ownsRow BB T z v n xs :=
 ownsRow_setCell_other (a := ⟨b, 8, none⟩) (ownsRow_setCell_other (a := ⟨b, 7, none⟩) (ownsRow_setCell_other (a := ⟨b, 6, none⟩) (ownsRow_setCell_other (a := ⟨b, 5, none⟩) (ownsRow_setCell_other (a := ⟨b, 4, none⟩) (ownsRow_setCell_other (a := ⟨b, 3, none⟩) (ownsRow_setCell_other (a := ⟨b, 2, none⟩) (ownsRow_setCell_other (a := ⟨b, 1, none⟩) (ownsRow_setCell_other (a := ⟨b, 0, none⟩) h hne v0) hne v1) hne v2) hne v3) hne v4) hne v5) hne v6) hne v7) hne v8
def mkNd (i : Nat) : Nd := ⟨0, [], [], 8000024 + (i : Int), 0, 0, 0, 0, false⟩
def markNV (i : Nat) : NV := ⟨mkNd i, none, 0, none, 0⟩
def marksN (k : Nat) : List NV := (List.range k).map markNV
theorem marksN_succ (k : Nat) : marksN (k + 1) = marksN k ++ [markNV k] := by unfold marksN; rw [List.range_succ, List.map_append]; rfl
theorem marksN_length (k : Nat) : (marksN k).length = k := by simp [marksN]
theorem markNode_any (i : Nat) (w : World) (hi : i ≤ 100) : Calls Tryz.prog 109 #[.int .i64 1, .int .i64 (i : Nat)] w fun e w' => e = .returned (.agg (encN (markNV i)).toArray) ∧ Below w.heap.size w w' := by
 have hiI : (i : Int) ≤ 100 := by omega
 have HE : Hid ((encN (markNV i)).toArray = #[.int .u8 0, .slice none 0 0, .slice none 0 0, .int .i64 (8000024 + (i : Int)), .int .i64 0, .int .i64 0, .int .u8 0, .int .u8 0, .bool false]) := rfl
 have hX := Bx.new w 28 #[.int .u8 0, .slice none 0 0, .slice none 0 0, .int .i64 (8000024 + (i : Int)), .int .i64 0, .int .i64 0, .int .u8 0, .int .u8 0, .bool false]
 obtain ⟨z0, z1, z2, z3, z4, z5, z6, z7, z8⟩ := nine hX
 clear hX
 go_enter Tryz.func109, Tryz.ntmps109
 go_wp2_with (go_at_call 76; refine (mark_any _ _ (by omega) (by omega)).mono ?_; rintro e w' ⟨rfl, hw'⟩; obtain rfl := hw'.symm; clear hw')
 refine bodyPost_ret (v := .agg #[.int .u8 0, .slice none 0 0, .slice none 0 0, .int .i64 (8000024 + (i : Int)), .int .i64 0, .int .i64 0, .int .u8 0, .int .u8 0, .bool false]) (by simp [results, Tryz.results109, go_sem, z0, z1, z2, z3, z4, z5, z6, z7, z8]) rfl ⟨by rw [HE.out], bl_alloc _ _⟩
structure LentN (w : World) (B : Nat) (x y : NV) : Prop where
 nd : y.nd = x.nd
 set : ∃ g, y.ps = some ⟨g, 0, none⟩ ∧ x.nd.set.length + 12 ≤ y.cs ∧ y.cs ≤ 9223372036854775807 ∧ OwnR w B (.slice (some ⟨g, 0, none⟩) (x.nd.set.length + 12) y.cs) (x.nd.set ++ marksR 12)
 kids : ∃ g, y.pk = some ⟨g, 0, none⟩ ∧ x.nd.kids.length + 12 ≤ y.ck ∧ y.ck ≤ 9223372036854775807 ∧ OwnZ w B (.slice (some ⟨g, 0, none⟩) (x.nd.kids.length + 12) y.ck) (x.nd.kids ++ marks 12)
theorem LentN.below {w w' : World} {B : Nat} {x y : NV} (h : LentN w B x y) (hb : Below w.heap.size w w') : LentN w' B x y := by
 obtain ⟨h0, ⟨g, h1, h2, h3, h4⟩, g', k1, k2, k3, k4⟩ := h
 exact ⟨h0, ⟨g, h1, h2, h3, ownR_below h4 hb⟩, g', k1, k2, k3, ownZ_below k4 hb⟩
theorem LentN.down {w : World} {B B' : Nat} {x y : NV} (h : LentN w B x y) (hB : B' ≤ B) : LentN w B' x y := by
 obtain ⟨h0, ⟨g, h1, h2, h3, h4⟩, g', k1, k2, k3, k4⟩ := h
 exact ⟨h0, ⟨g, h1, h2, h3, ownR_down h4 hB⟩, g', k1, k2, k3, ownZ_down k4 hB⟩
theorem LentN.nodeIn {w : World} {B : Nat} {x y : NV} (h : LentN w B x y) : NodeIn w y := by
 obtain ⟨h0, ⟨g, h1, h2, h3, h4⟩, g', k1, k2, k3, k4⟩ := h
 refine ⟨?_, ?_, fun e => ?_, fun e => ?_, ?_, ?_⟩
 ·rw [h0, h1]; exact lentR_sl h4
 ·rw [h0, k1]; exact lent_sl k4 rfl (marks_length 12)
 ·rw [h1] at e; cases e
 ·rw [k1] at e; cases e
 ·rw [h0]; omega
 ·rw [h0]; omega
theorem lentNode_any (x : NV) (w : World) (hI : NodeIn w x) (h3k : x.nd.kids.length ≤ 3000) (h3s : x.nd.set.length ≤ 3000) :
  Calls Tryz.prog 8 #[.agg (encN x).toArray] w fun e w' => ∃ y, e = .returned (.agg (encN y).toArray) ∧ LentN w' w.heap.size x y ∧ Below w.heap.size w w' := by
 obtain ⟨ls, lk, hls, hlk, hlit⟩ := node_lit2 x
 unfold NodeLit at hlit
 rw [hlit]
 have HI := lh hI
 have HLS := lh (And.intro hls (And.intro hlk (And.intro h3k h3s)))
 obtain ⟨kd, hkd⟩ : ∃ z, z = x.nd.kind := ⟨_, rfl⟩
 obtain ⟨gr, hgr⟩ : ∃ z, z = x.nd.group := ⟨_, rfl⟩
 obtain ⟨mn, hmn⟩ : ∃ z, z = x.nd.mn := ⟨_, rfl⟩
 obtain ⟨mx, hmx⟩ : ∃ z, z = x.nd.mx := ⟨_, rfl⟩
 obtain ⟨md, hmd⟩ : ∃ z, z = x.nd.mode := ⟨_, rfl⟩
 obtain ⟨sp, hsp⟩ : ∃ z, z = x.nd.spot := ⟨_, rfl⟩
 obtain ⟨ng, hng⟩ : ∃ z, z = x.nd.neg := ⟨_, rfl⟩
 obtain ⟨ps, hps⟩ : ∃ z, z = x.ps := ⟨_, rfl⟩
 obtain ⟨cs, hcs⟩ : ∃ z, z = x.cs := ⟨_, rfl⟩
 obtain ⟨pk, hpk⟩ : ∃ z, z = x.pk := ⟨_, rfl⟩
 obtain ⟨ck, hck⟩ : ∃ z, z = x.ck := ⟨_, rfl⟩
 have HEQ := lh (And.intro hkd (And.intro hgr (And.intro hmn (And.intro hmx (And.intro hmd (And.intro hsp (And.intro hng (And.intro hps (And.intro hcs (And.intro hpk hck))))))))))
 rw [← hkd, ← hgr, ← hmn, ← hmx, ← hmd, ← hsp, ← hng, ← hps, ← hcs, ← hpk, ← hck]
 obtain ⟨W2, hW2⟩ : ∃ W, W = (w.alloc (.cells #[.int .u8 kd, .slice ps ls cs, .slice pk lk ck, .int .i64 gr, .int .i64 mn, .int .i64 mx, .int .u8 md, .int .u8 sp, .bool ng] 28)).alloc (.cells #[.int .u8 0, .slice none 0 0, .slice none 0 0, .int .i64 0, .int .i64 0, .int .i64 0, .int .u8 0, .int .u8 0, .bool false] 28) := ⟨_, rfl⟩
 have hb2 : Below w.heap.size w W2 := by rw [hW2]; exact bl_trans (bl_alloc _ _) (bl_alloc _ _)
 have hX : Bx W2 w.heap.size 28 #[.int .u8 kd, .slice ps ls cs, .slice pk lk ck, .int .i64 gr, .int .i64 mn, .int .i64 mx, .int .u8 md, .int .u8 sp, .bool ng] := by rw [hW2]; exact (Bx.new w _ _).below (bl_alloc _ _)
 have hR : Bx W2 (w.heap.size + 1) 28 #[.int .u8 0, .slice none 0 0, .slice none 0 0, .int .i64 0, .int .i64 0, .int .i64 0, .int .u8 0, .int .u8 0, .bool false] := by
  have h := Bx.new (w.alloc (.cells #[.int .u8 kd, .slice ps ls cs, .slice pk lk ck, .int .i64 gr, .int .i64 mn, .int .i64 mx, .int .u8 md, .int .u8 sp, .bool ng] 28)) 28 #[.int .u8 0, .slice none 0 0, .slice none 0 0, .int .i64 0, .int .i64 0, .int .i64 0, .int .u8 0, .int .u8 0, .bool false]
  rw [World.size_alloc] at h; rw [hW2]; exact h
 have hs2 : W2.heap.size = w.heap.size + 1 + 1 := by rw [hW2]; simp
 obtain ⟨bx, hbx⟩ : ∃ b, b = w.heap.size := ⟨_, rfl⟩
 obtain ⟨br, hbr⟩ : ∃ b, b = bx + 1 := ⟨_, rfl⟩
 rw [← hbx] at hX
 rw [← hbx, ← hbr] at hR
 have HNB : Hid (w.heap.size = bx ∧ bx + 1 = br ∧ W2.heap.size = br + 1) := ⟨hbx.symm, hbr.symm, by rw [hs2, hbr, hbx]⟩
 have HW2 : Hid ((w.alloc (.cells #[.int .u8 kd, .slice ps ls cs, .slice pk lk ck, .int .i64 gr, .int .i64 mn, .int .i64 mx, .int .u8 md, .int .u8 sp, .bool ng] 28)).alloc (.cells #[.int .u8 0, .slice none 0 0, .slice none 0 0, .int .i64 0, .int .i64 0, .int .i64 0, .int .u8 0, .int .u8 0, .bool false] 28) = W2) := hW2.symm
 have hLR := lentR_any ps cs ls x.nd.set W2 hls (by rw [hps]; exact (hI.below hb2).set) h3s (by rw [hps, hcs]; exact hI.sn)
 have HLR := lh hLR
 have HB2 := lh hb2
 have HX := lh hX
 have HR := lh hR
 clear hlit hI hls hlk hkd hgr hmn hmx hmd hsp hng hps hcs hpk hck h3k h3s hW2 hs2 hb2 hR hbx hbr hLR
 go_enter Tryz.func8, Tryz.ntmps8
 go_upto_region 1 with fail
 rw [HW2.out, HNB.out.1, HNB.out.2.1]
 obtain ⟨_, a1, _, _, _, _, _, _, _⟩ := nine hX
 go_wp2_with fail
 refine (HLR.out).mono ?_
 rintro e w3 ⟨g1, c1, rfl, h1, h2, ho, hb3⟩
 have hX3 := HX.out.below hb3
 have hR3 := HR.out.below hb3
 have x1 := hX3.cell (i := 1) rfl
 have f1 := hX3.free 1
 have hX4 := hX3.set 1 (.slice (some ⟨g1, 0, none⟩) ls c1)
 have hR4 := hR3.other (a := ⟨bx, 1, none⟩) (show br ≠ bx by have := HNB.out.2.1; omega) (.slice (some ⟨g1, 0, none⟩) ls c1)
 obtain ⟨w4, hw4⟩ : ∃ W, W = w3.setCell ⟨bx, 1, none⟩ (.slice (some ⟨g1, 0, none⟩) ls c1) := ⟨_, rfl⟩
 have hX4 : Bx w4 bx 28 #[.int .u8 kd, .slice (some ⟨g1, 0, none⟩) ls c1, .slice pk lk ck, .int .i64 gr, .int .i64 mn, .int .i64 mx, .int .u8 md, .int .u8 sp, .bool ng] := by rw [hw4]; exact hX4
 have hR4 : Bx w4 br 28 #[.int .u8 0, .slice none 0 0, .slice none 0 0, .int .i64 0, .int .i64 0, .int .i64 0, .int .u8 0, .int .u8 0, .bool false] := by rw [hw4]; exact hR4
 have ho4 : OwnR w4 W2.heap.size (.slice (some ⟨g1, 0, none⟩) (ls + 12) c1) (x.nd.set ++ marksR 12) := by rw [hw4]; exact ownsRow_setCell_other (a := ⟨bx, 1, none⟩) ho (ownR_ne ho hX3 (by decide)) _
 have hb4 : Below w.heap.size w w4 := by rw [hw4]; exact (HB2.out.trans (hb3.mono HB2.out.size)).setCell (p := ⟨bx, 1, none⟩) (Nat.le_of_eq HNB.out.1) _
 have hle4 : W2.heap.size ≤ w4.heap.size := by rw [hw4, World.size_setCell]; exact hb3.size
 have HLI := lh (lent_any pk ck x.nd.kids w4 (by rw [HEQ.out.2.2.2.2.2.2.2.2.2.1]; exact (HI.out.below hb4).kids) HLS.out.2.2.1 (by rw [HEQ.out.2.2.2.2.2.2.2.2.2.1, HEQ.out.2.2.2.2.2.2.2.2.2.2]; exact HI.out.kn))
 rw [← HLS.out.2.1] at HLI
 have HW4 : Hid (w3.setCell ⟨bx, 1, none⟩ (.slice (some ⟨g1, 0, none⟩) ls c1) = w4) := hw4.symm
 have y2 := hX4.cell (i := 2) rfl
 rw [hw4] at y2
 have HX4 := lh hX4
 have HR4 := lh hR4
 have HO4 := lh ho4
 have HB4 := lh hb4
 have HL4 := lh hle4
 have HC1 := lh (And.intro h1 h2)
 clear hX a1 hb3 hX3 hR3 hX4 hR4 hw4 ho ho4 hb4 hle4 h1 h2
 go_wp2_with fail
 rw [HW4.out]
 refine (HLI.out).mono ?_
 rintro e w5 ⟨g2, c2, rfl, h1, h2, ho, hb5⟩
 have hX5 := HX4.out.below hb5
 have hR5 := HR4.out.below hb5
 have hO5 := ownR_below HO4.out hb5
 clear x1 f1 y2
 have x2 := hX5.cell (i := 2) rfl
 have f2 := hX5.free 2
 have hX6 := hX5.set 2 (.slice (some ⟨g2, 0, none⟩) lk c2)
 have hR6 := hR5.other (a := ⟨bx, 2, none⟩) (show br ≠ bx by have := HNB.out.2.1; omega) (.slice (some ⟨g2, 0, none⟩) lk c2)
 obtain ⟨w6, hw6⟩ : ∃ W, W = w5.setCell ⟨bx, 2, none⟩ (.slice (some ⟨g2, 0, none⟩) lk c2) := ⟨_, rfl⟩
 have hX6 : Bx w6 bx 28 #[.int .u8 kd, .slice (some ⟨g1, 0, none⟩) ls c1, .slice (some ⟨g2, 0, none⟩) lk c2, .int .i64 gr, .int .i64 mn, .int .i64 mx, .int .u8 md, .int .u8 sp, .bool ng] := by rw [hw6]; exact hX6
 have hR6 : Bx w6 br 28 #[.int .u8 0, .slice none 0 0, .slice none 0 0, .int .i64 0, .int .i64 0, .int .i64 0, .int .u8 0, .int .u8 0, .bool false] := by rw [hw6]; exact hR6
 have hO6 : OwnR w6 W2.heap.size (.slice (some ⟨g1, 0, none⟩) (ls + 12) c1) (x.nd.set ++ marksR 12) := by rw [hw6]; exact ownsRow_setCell_other (a := ⟨bx, 2, none⟩) hO5 (ownR_ne hO5 hX5 (by decide)) _
 have hP6 : OwnZ w6 w4.heap.size (.slice (some ⟨g2, 0, none⟩) (lk + 12) c2) (x.nd.kids ++ marks 12) := by rw [hw6]; exact ownsRow_setCell_other (a := ⟨bx, 2, none⟩) ho (row_ne ho hX5 (by decide)) _
 have hb6 : Below w.heap.size w w6 := by rw [hw6]; exact (HB4.out.trans (hb5.mono HB4.out.size)).setCell (p := ⟨bx, 2, none⟩) (Nat.le_of_eq HNB.out.1) _
 obtain ⟨m0, m1, m2, m3, m4, m5, m6, m7, m8⟩ := nine hX6
 obtain ⟨n0, n1, n2, n3, n4, n5, n6, n7, n8⟩ := nine hR6
 have fz0 := hR6.free 0
 have fz1 := hR6.free 1
 have fz2 := hR6.free 2
 have fz3 := hR6.free 3
 have fz4 := hR6.free 4
 have fz5 := hR6.free 5
 have fz6 := hR6.free 6
 have fz7 := hR6.free 7
 have fz8 := hR6.free 8
 rw [hw6] at m0 m1 m2 m3 m4 m5 m6 m7 m8 n0 n1 n2 n3 n4 n5 n6 n7 n8 fz0 fz1 fz2 fz3 fz4 fz5 fz6 fz7 fz8
 have hY := bx_putN9 hR6 (.int .u8 kd) (.slice (some ⟨g1, 0, none⟩) ls c1) (.slice (some ⟨g2, 0, none⟩) lk c2) (.int .i64 gr) (.int .i64 mn) (.int .i64 mx) (.int .u8 md) (.int .u8 sp) (.bool ng)
 have hO7 := own_putN9 hO6 (ownR_ne hO6 hR6 (by decide)) (.int .u8 kd) (.slice (some ⟨g1, 0, none⟩) ls c1) (.slice (some ⟨g2, 0, none⟩) lk c2) (.int .i64 gr) (.int .i64 mn) (.int .i64 mx) (.int .u8 md) (.int .u8 sp) (.bool ng)
 have hP7 := own_putN9 hP6 (row_ne hP6 hR6 (by decide)) (.int .u8 kd) (.slice (some ⟨g1, 0, none⟩) ls c1) (.slice (some ⟨g2, 0, none⟩) lk c2) (.int .i64 gr) (.int .i64 mn) (.int .i64 mx) (.int .u8 md) (.int .u8 sp) (.bool ng)
 have hb7 := below_putN9 hb6 (show w.heap.size ≤ br by have := HNB.out; omega) (.int .u8 kd) (.slice (some ⟨g1, 0, none⟩) ls c1) (.slice (some ⟨g2, 0, none⟩) lk c2) (.int .i64 gr) (.int .i64 mn) (.int .i64 mx) (.int .u8 md) (.int .u8 sp) (.bool ng)
 obtain ⟨r0, r1, r2, r3, r4, r5, r6, r7, r8⟩ := nine hY
 unfold putN9 at r0 r1 r2 r3 r4 r5 r6 r7 r8
 rw [hw6] at r0 r1 r2 r3 r4 r5 r6 r7 r8
 have HFIN : Hid (LentN (putN9 (w5.setCell ⟨bx, 2, none⟩ (.slice (some ⟨g2, 0, none⟩) lk c2)) br (.int .u8 kd) (.slice (some ⟨g1, 0, none⟩) ls c1) (.slice (some ⟨g2, 0, none⟩) lk c2) (.int .i64 gr) (.int .i64 mn) (.int .i64 mx) (.int .u8 md) (.int .u8 sp) (.bool ng)) w.heap.size x ⟨x.nd, some ⟨g1, 0, none⟩, c1, some ⟨g2, 0, none⟩, c2⟩ ∧ Below w.heap.size w (putN9 (w5.setCell ⟨bx, 2, none⟩ (.slice (some ⟨g2, 0, none⟩) lk c2)) br (.int .u8 kd) (.slice (some ⟨g1, 0, none⟩) ls c1) (.slice (some ⟨g2, 0, none⟩) lk c2) (.int .i64 gr) (.int .i64 mn) (.int .i64 mx) (.int .u8 md) (.int .u8 sp) (.bool ng))) := by
  rw [← hw6]
  refine ⟨⟨rfl, ⟨g1, rfl, ?_, HC1.out.2, ?_⟩, g2, rfl, ?_, h2, ?_⟩, hb7⟩
  ·rw [← HLS.out.1]; exact HC1.out.1
  ·rw [← HLS.out.1]; exact ownR_down hO7 HB2.out.size
  ·rw [← HLS.out.2.1]; exact h1
  ·rw [← HLS.out.2.1]; exact ownZ_down hP7 (Nat.le_trans HB2.out.size HL4.out)
 have HENC : Hid (Value.agg (encN ⟨x.nd, some ⟨g1, 0, none⟩, c1, some ⟨g2, 0, none⟩, c2⟩).toArray = .agg #[.int .u8 kd, .slice (some ⟨g1, 0, none⟩) ls c1, .slice (some ⟨g2, 0, none⟩) lk c2, .int .i64 gr, .int .i64 mn, .int .i64 mx, .int .u8 md, .int .u8 sp, .bool ng]) := by
  show _ = _
  unfold encN
  rw [HEQ.out.1, HEQ.out.2.1, HEQ.out.2.2.1, HEQ.out.2.2.2.1, HEQ.out.2.2.2.2.1, HEQ.out.2.2.2.2.2.1, HEQ.out.2.2.2.2.2.2.1, HLS.out.1, HLS.out.2.1]
 clear hX6 hR6 hY hO7 hP7 hb7 hO6 hP6 hb6 hw6 hO5 hX5 hR5 hb5 h1 h2 ho
 go_wp2
 refine bodyPost_ret (v := .agg #[.int .u8 kd, .slice (some ⟨g1, 0, none⟩) ls c1, .slice (some ⟨g2, 0, none⟩) lk c2, .int .i64 gr, .int .i64 mn, .int .i64 mx, .int .u8 md, .int .u8 sp, .bool ng]) (by simp [results, Tryz.results8, go_sem, r0, r1, r2, r3, r4, r5, r6, r7, r8]) rfl ⟨_, by rw [HENC.out], HFIN.out.1, HFIN.out.2⟩
end Go.Proofs.YtkefndfgkmdphaaGreat
