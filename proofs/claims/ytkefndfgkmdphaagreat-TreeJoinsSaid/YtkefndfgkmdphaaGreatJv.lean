import Derived.Test.YtkefndfgkmdphaaGreatFi
import Derived.Test.YtkefndfgkmdphaaGreatJu
import Derived.Test.YtkefndfgkmdphaaGreatJc

namespace Go.Proofs.YtkefndfgkmdphaaGreat
set_option maxHeartbeats 12800000
set_option maxRecDepth 100000
open Go.RowKit Tnr Tnt

structure OS (w : World) (B bT br na : Nat) (q : Option Addr) (cq : Nat) (ys : List NV) : Prop where
 tree : Bx w bT 34 #[.slice q na cq, .slice none 0 0]
 res : Bx w br 34 #[.slice none 0 0, .slice none 0 0]
 nodes : OwnN w B (.slice q na cq) ys
 hna : na = ys.length
theorem OS.below {w w' : World} {B bT br na : Nat} {q : Option Addr} {cq : Nat} {ys : List NV} (h : OS w B bT br na q cq ys) (hb : Below w.heap.size w w') : OS w' B bT br na q cq ys := ⟨h.tree.below hb, h.res.below hb, h.nodes.below hb, h.hna⟩
theorem OS.more {w w' : World} {B bT br na : Nat} {q : Option Addr} {cq : Nat} {ys : List NV} (h : OS w B bT br na q cq ys) {y : NV} {g cap : Nat} (hbr : br ≠ bT) (hs : OwnR w B (.slice y.ps y.nd.set.length y.cs) y.nd.set) (hk : OwnZ w B (.slice y.pk y.nd.kids.length y.ck) y.nd.kids)
  (hown : w'.ownsRow B 28 9 (.slice (some ⟨g, 0, none⟩) (na + 1) cap) (na + 1) (ys.flatMap encN ++ encN y)) (hg : w.grownBy w' (Value.slice q na cq).ownBlock) :
  OS (w'.setCell ⟨bT, 0, none⟩ (.slice (some ⟨g, 0, none⟩) (na + 1) cap)) B bT br (na + 1) (some ⟨g, 0, none⟩) cap (ys ++ [y]) := by
 have kT : Bx w' bT 34 #[.slice q na cq, .slice none 0 0] := h.tree.kept hg (Ne.symm (row_ne h.nodes.row h.tree (by decide)))
 have kR := h.res.kept hg (Ne.symm (row_ne h.nodes.row h.res (by decide)))
 have hM : OwnN w' B (.slice (some ⟨g, 0, none⟩) (na + 1) cap) (ys ++ [y]) := OwnN.more h.nodes h.hna hs hk hown hg
 exact ⟨kT.set 0 _, kR.other (a := ⟨bT, 0, none⟩) hbr _, hM.other kT (by decide) (by decide) (by decide) 0 _, by rw [List.length_append, ← h.hna]; rfl⟩
theorem nds_seg {xs : List NV} {f j : Nat} (hf : f ≤ j) (hj : j < xs.length) : ((nds xs).drop f).take (j + 1 - f) = ((nds xs).drop f).take (j - f) ++ [(gn xs j).nd] := by
 rw [show j + 1 - f = (j - f) + 1 by omega, List.take_add_one, List.getElem?_drop, show f + (j - f) = j by omega, List.getElem?_eq_getElem (by rw [nds_length]; exact hj), nds_get hj]; rfl
theorem rof_any (p : Option Addr) (n c : Nat) (xs : List NV) (names : Value) (x : Int) (w : World) (hn : n = xs.length) (hnm : n ≤ 1000000000) (hp : SlN w p xs) (hf : Few xs) :
  Calls Tryz.prog 13 #[.agg #[.slice p n c, names], .int .i64 x] w (TreePost w (ofT (nds xs) x)) := by
 obtain ⟨i0, hinf, hz0, hz1, hz2⟩ := info_parts info_node
 obtain ⟨W2, hW2⟩ : ∃ W, W = (w.alloc (.cells #[.slice p n c, names] 34)).alloc (.cells #[.slice none 0 0, .slice none 0 0] 34) := ⟨_, rfl⟩
 have hb2 : Below w.heap.size w W2 := by rw [hW2]; exact bl_trans (bl_alloc _ _) (bl_alloc _ _)
 have hX : Bx W2 w.heap.size 34 #[.slice p n c, names] := by rw [hW2]; exact (Bx.new w _ _).below (bl_alloc _ _)
 have hR : Bx W2 (w.heap.size + 1) 34 #[.slice none 0 0, .slice none 0 0] := by
  have h := Bx.new (w.alloc (.cells #[.slice p n c, names] 34)) 34 #[.slice none 0 0, .slice none 0 0]
  rw [World.size_alloc] at h; rw [hW2]; exact h
 have hs2 : W2.heap.size = w.heap.size + 1 + 1 := by rw [hW2]; simp
 obtain ⟨bx, hbx⟩ : ∃ b, b = w.heap.size := ⟨_, rfl⟩
 obtain ⟨br, hbr⟩ : ∃ b, b = bx + 1 := ⟨_, rfl⟩
 rw [← hbx] at hX
 rw [← hbx, ← hbr] at hR
 have HNB : Hid (w.heap.size = bx ∧ bx + 1 = br ∧ W2.heap.size = br + 1) := ⟨hbx.symm, hbr.symm, by rw [hs2, hbr, hbx]⟩
 have HO := lh (rfirsts_any p n c xs names W2 hn hnm (hp.below hb2) hf)
 have HW2 := lh hW2.symm
 have HB2 := lh hb2
 have HX := lh hX
 have HR := lh hR
 have HN := lh hn
 have HP := lh (And.intro hp hf)
 have hnI : (n : Int) ≤ 1000000000 := by omega
 have cX0 := hX.cell (i := 0) rfl
 have cX1 := hX.cell (i := 1) rfl
 clear hp hf hn hnm hW2 hb2 hX hR hs2 hbx hbr
 go_enter Tryz.func13, Tryz.ntmps13
 go_upto_region 1 with fail
 rw [HW2.out, HNB.out.1, HNB.out.2.1]
 go_wp2_with fail
 refine HO.out.mono ?_
 rintro e w5 ⟨hb5, ⟨ho, a, m, d, rfl⟩ | ⟨l, pf, cf, ho, hl, rfl, hfs⟩⟩
 ·have HR5 := lh (HR.out.below hb5)
  have HB5 := lh (bl_trans HB2.out hb5)
  have HE : Hid (ofT (nds xs) x = []) := by show _ = _; unfold ofT; rw [ho]
  clear cX0 cX1 ho hb5
  have k0 := HR5.out.cell (i := 0) rfl
  have k1 := HR5.out.cell (i := 1) rfl
  have f0 := HR5.out.free 0
  have f1 := HR5.out.free 1
  have hR6 : Bx ((w5.setCell ⟨br, 0, none⟩ (.slice none 0 0)).setCell ⟨br, 1, none⟩ (.slice none 0 0)) br 34 #[.slice none 0 0, .slice none 0 0] := (HR5.out.set 0 (.slice none 0 0)).set 1 (.slice none 0 0)
  have z0 := hR6.cell (i := 0) rfl
  have z1 := hR6.cell (i := 1) rfl
  have HBE := lh ((HB5.out.setCell (p := ⟨br, 0, none⟩) (show w.heap.size ≤ br by have := HNB.out; omega) (.slice none 0 0)).setCell (p := ⟨br, 1, none⟩) (show w.heap.size ≤ br by have := HNB.out; omega) (.slice none 0 0))
  clear hR6
  go_wp2
  refine bodyPost_ret (v := .agg #[.slice none 0 0, .slice none 0 0]) (by simp [results, Tryz.results13, go_sem, z0, z1]) rfl ?_
  exact ⟨none, 0, 0, [], rfl, rfl, ownN_nil _ _, by rw [HE.out]; rfl, HBE.out⟩
 ·have HR5 := lh (HR.out.below hb5)
  have HB5 := lh (bl_trans HB2.out hb5)
  have HX5 := lh (HX.out.below hb5)
  clear cX0 cX1
  have cX0 := HX5.out.cell (i := 0) rfl
  have cX1 := HX5.out.cell (i := 1) rfl
  by_cases hx0 : x < 0
  ·have HE : Hid (ofT (nds xs) x = []) := by show _ = _; unfold ofT; rw [ho]; simp only; rw [if_neg (by omega)]
   clear ho hb5 hfs hl
   have k0 := HR5.out.cell (i := 0) rfl
   have k1 := HR5.out.cell (i := 1) rfl
   have f0 := HR5.out.free 0
   have f1 := HR5.out.free 1
   have hR6 : Bx ((w5.setCell ⟨br, 0, none⟩ (.slice none 0 0)).setCell ⟨br, 1, none⟩ (.slice none 0 0)) br 34 #[.slice none 0 0, .slice none 0 0] := (HR5.out.set 0 (.slice none 0 0)).set 1 (.slice none 0 0)
   have z0 := hR6.cell (i := 0) rfl
   have z1 := hR6.cell (i := 1) rfl
   have HBE := lh ((HB5.out.setCell (p := ⟨br, 0, none⟩) (show w.heap.size ≤ br by have := HNB.out; omega) (.slice none 0 0)).setCell (p := ⟨br, 1, none⟩) (show w.heap.size ≤ br by have := HNB.out; omega) (.slice none 0 0))
   clear hR6
   go_wp2
   refine bodyPost_ret (v := .agg #[.slice none 0 0, .slice none 0 0]) (by simp [results, Tryz.results13, go_sem, z0, z1]) rfl ?_
   exact ⟨none, 0, 0, [], rfl, rfl, ownN_nil _ _, by rw [HE.out]; rfl, HBE.out⟩
  ·have hx1 : 0 ≤ x := by omega
   by_cases hxn : (n : Int) ≤ x
   ·have HE : Hid (ofT (nds xs) x = []) := by show _ = _; unfold ofT; rw [ho]; simp only; rw [if_neg (by rw [nds_length, ← HN.out]; omega)]
    clear ho hb5 hfs hl
    have k0 := HR5.out.cell (i := 0) rfl
    have k1 := HR5.out.cell (i := 1) rfl
    have f0 := HR5.out.free 0
    have f1 := HR5.out.free 1
    have hR6 : Bx ((w5.setCell ⟨br, 0, none⟩ (.slice none 0 0)).setCell ⟨br, 1, none⟩ (.slice none 0 0)) br 34 #[.slice none 0 0, .slice none 0 0] := (HR5.out.set 0 (.slice none 0 0)).set 1 (.slice none 0 0)
    have z0 := hR6.cell (i := 0) rfl
    have z1 := hR6.cell (i := 1) rfl
    have HBE := lh ((HB5.out.setCell (p := ⟨br, 0, none⟩) (show w.heap.size ≤ br by have := HNB.out; omega) (.slice none 0 0)).setCell (p := ⟨br, 1, none⟩) (show w.heap.size ≤ br by have := HNB.out; omega) (.slice none 0 0))
    clear hR6
    go_wp2
    refine bodyPost_ret (v := .agg #[.slice none 0 0, .slice none 0 0]) (by simp [results, Tryz.results13, go_sem, z0, z1]) rfl ?_
    exact ⟨none, 0, 0, [], rfl, rfl, ownN_nil _ _, by rw [HE.out]; rfl, HBE.out⟩
   ·obtain ⟨k, rfl⟩ : ∃ k : Nat, x = (k : Int) := ⟨x.toNat, by omega⟩
    have hkn : k < n := by omega
    obtain ⟨hok, _, hn1, hn4⟩ := ordT_ok ho
    rw [nds_length, ← HN.out] at hn1 hn4
    obtain ⟨gF, rfl, _, cF, _, _⟩ := ownZ_at hfs (by rw [fsZ_length]; exact hl) hkn
    rw [fsZ_at (by rw [← hl]; exact hkn)] at cF
    have hfk := (hok.2.1 k (by rw [nds_length, ← HN.out]; exact hkn)).1
    have HE : Hid (ofT (nds xs) (k : Int) = covN (nds xs) (gf l k).1 k) := by
     show _ = _; unfold ofT; rw [ho]; simp only; rw [if_pos (by rw [nds_length, ← HN.out]; omega)]; simp
    obtain ⟨f, hfe⟩ : ∃ f, f = (gf l k).1 := ⟨_, rfl⟩
    rw [← hfe] at cF hfk HE
    have HCF : Hid (∀ (V : World) (B : Nat) (v : Nat), OwnZ V B (.slice (some ⟨gF, 0, none⟩) n cf) (fsZ l) → V.cell? ⟨gF, k, none⟩ = some (.int .i64 (f : Nat))) := by
     intro V B v hV
     obtain ⟨g2, e2, _, c2, _, _⟩ := ownZ_at hV (by rw [fsZ_length]; exact hl) hkn
     rw [fsZ_at (by rw [← hl]; exact hkn), ← hfe] at c2
     simp only [Option.some.injEq, Addr.mk.injEq, and_true] at e2
     subst e2; exact c2
    obtain ⟨B, hBe⟩ : ∃ B, B = W2.heap.size := ⟨_, rfl⟩
    rw [← hBe] at hfs
    obtain ⟨bT, hbT⟩ : ∃ b, b = w5.heap.size := ⟨_, rfl⟩
    obtain ⟨w6, hw6⟩ : ∃ W, W = w5.alloc (.cells #[.slice none 0 0, .slice none 0 0] 34) := ⟨_, rfl⟩
    have hb6 : Below w5.heap.size w5 w6 := by rw [hw6]; exact bl_alloc _ _
    have hT6 : Bx w6 bT 34 #[.slice none 0 0, .slice none 0 0] := by rw [hw6, hbT]; exact Bx.new _ _ _
    have HJ0 : Hid (OS w6 B bT br 0 none 0 []) := ⟨hT6, HR5.out.below hb6, ownN_nil _ _, rfl⟩
    have HX6 := lh (HX5.out.below hb6)
    have HF6 := lh (ownZ_below hfs hb6)
    have HB6 := lh (HB5.out.trans (hb6.mono HB5.out.size))
    have HBB : Hid (w.heap.size ≤ B) := by show _ ≤ _; rw [hBe]; exact HB2.out.size
    have HBT : Hid (w.heap.size ≤ bT ∧ B ≤ bT ∧ br < bT ∧ bx < bT) := by have h1 := hb5.size; have h2 := HNB.out; show _ ∧ _; omega
    have HBRT : Hid (br ≠ bT) := by have := HBT.out; show _ ≠ _; omega
    have HBXT : Hid (bx ≠ bT) := by have := HBT.out; show _ ≠ _; omega
    have HW6 := lh (And.intro hw6.symm hbT.symm)
    have hkI : (k : Int) < n := by omega
    have hk4 : (k : Int) ≤ 4000 := by omega
    have hfI : (f : Int) ≤ k := by omega
    have hneg : IntKind.i64.wrap (-(f : Int)) = -(f : Int) := by rw [IntKind.wrap_i64]; omega
    have HL := lh (And.intro hl (And.intro hn4 hkn))
    have HFK := lh hfk
    have cF6 := HCF.out w6 B 0 HF6.out
    clear ho hok hn1 hn4 hl hfs hb5 hb6 hT6 hw6 hbT hfe hBe hkn hfk hx0 hx1 hxn
    have hk0 : ¬ ((k : Int) < 0) := by omega
    have hkN : ¬ ((n : Int) ≤ (k : Int)) := by omega
    go_upto_region 4 with fail
    clear cX0 cX1 cF
    go_upto_region 5 with fail
    rw [HW6.out.2, HW6.out.1]
    go_wp2
    go_loopw [8] (fun jv wq => ∃ (j na2 : Nat) (q2 : Option Addr) (cq2 : Nat) (ys2 : List NV), f ≤ j ∧ j ≤ k + 1 ∧ jv = .int .i64 (j : Nat) ∧ Hid (na2 = j - f) ∧ Hid (OS wq B bT br na2 q2 cq2 ys2) ∧ Hid (Bx wq bx 34 #[.slice p n c, names]) ∧ Hid (OwnZ wq B (.slice (some ⟨gF, 0, none⟩) n cf) (fsZ l)) ∧ Hid (nds ys2 = (((nds xs).drop f).take (j - f)).map (mv (-(f : Int)))) ∧ Hid (Below w.heap.size w wq)) (fun jv _ => k + 1 - (intOf jv).toNat)
    case atStart => exact ⟨f, 0, none, 0, [], Nat.le_refl _, by have := HFK.out; omega, rfl, by show _ = _; omega, HJ0.out, HX6.out, HF6.out, by show _ = _; simp [nds], HB6.out⟩
    case round =>
     obtain ⟨j, na2, q2, cq2, ys2, hfj, hj, rfl, HNA, HJq, HXq, HFq, HN2, HBq⟩ := hrel
     rename World => wq
     clear cF6
     have tc0 := HJq.out.tree.cell (i := 0) rfl
     have tc1 := HJq.out.tree.cell (i := 1) rfl
     by_cases hjk : j ≤ k
     ·have hjx : j < xs.length := by have := HN.out; have := HL.out.2.2; omega
      have hjnI : (j : Int) < n := by have := HL.out.2.2; omega
      obtain ⟨bn, on, rfl, hcells, hin⟩ := HP.out.1.at hjx
      have hzf := HP.out.2 _ (gn_mem hjx)
      have hnt := nds_seg hfj hjx
      obtain ⟨z, hz⟩ : ∃ z, z = gn xs j := ⟨_, rfl⟩
      rw [← hz] at hcells hin hzf hnt
      obtain ⟨u0, u1, u2, u3, u4, u5, u6, u7, u8, hzl⟩ : ∃ v0 v1 v2 v3 v4 v5 v6 v7 v8, (encN z).toArray = #[v0, v1, v2, v3, v4, v5, v6, v7, v8] := ⟨_, _, _, _, _, _, _, _, _, rfl⟩
      obtain ⟨z0, z1, z2, z3, z4, z5, z6, z7, z8⟩ := cellsN_lit hcells hzl
      have HSS : Hid (∀ V, Below w.heap.size w V → Bx V bT 34 #[.slice q2 na2 cq2, .slice none 0 0] → Bx V bx 34 #[.slice (some ⟨bn, on, none⟩) n c, names] → OwnZ V B (.slice (some ⟨gF, 0, none⟩) n cf) (fsZ l) → (fun (V : World) => V.cell? ⟨bT, 0, none⟩ = some (.slice q2 na2 cq2) ∧ V.cell? ⟨bT, 1, none⟩ = some (.slice none 0 0) ∧ V.cell? ⟨bx, 0, none⟩ = some (.slice (some ⟨bn, on, none⟩) n c) ∧ V.cell? ⟨bx, 1, none⟩ = some names ∧ V.cell? ⟨gF, k, none⟩ = some (.int .i64 (f : Nat)) ∧ V.cell? ⟨bn, on + j * 9, none⟩ = some u0 ∧ V.cell? ⟨bn, on + j * 9 + 1, none⟩ = some u1 ∧ V.cell? ⟨bn, on + j * 9 + 2, none⟩ = some u2 ∧ V.cell? ⟨bn, on + j * 9 + 3, none⟩ = some u3 ∧ V.cell? ⟨bn, on + j * 9 + 4, none⟩ = some u4 ∧ V.cell? ⟨bn, on + j * 9 + 5, none⟩ = some u5 ∧ V.cell? ⟨bn, on + j * 9 + 6, none⟩ = some u6 ∧ V.cell? ⟨bn, on + j * 9 + 7, none⟩ = some u7 ∧ V.cell? ⟨bn, on + j * 9 + 8, none⟩ = some u8) V) := fun V hV hT hX hF => ⟨hT.cell rfl, hT.cell rfl, hX.cell rfl, hX.cell rfl, HCF.out V B 0 hF, cell_keepX z0 hV, cell_keepX z1 hV, cell_keepX z2 hV, cell_keepX z3 hV, cell_keepX z4 hV, cell_keepX z5 hV, cell_keepX z6 hV, cell_keepX z7 hV, cell_keepX z8 hV⟩
      have HMV := lh (fun V (hV : Below w.heap.size w V) => rmoved_any z (-(f : Int)) V (hin.below hV) hzf.1 hzf.2)
      unfold Hid at HMV
      simp only [hzl] at HMV
      have HMV := lh HMV
      have HNT := lh hnt
      have hjI : (j : Int) ≤ k := by omega
      have hna2I : na2 ≤ 5000 := by have := HNA.out; omega
      clear hjx hcells hin hzf hz hzl z0 z1 z2 z3 z4 z5 z6 z7 z8 hnt
      go_wp2
      refine wp_region_L (S := (fun (V : World) => V.cell? ⟨bT, 0, none⟩ = some (.slice q2 na2 cq2) ∧ V.cell? ⟨bT, 1, none⟩ = some (.slice none 0 0) ∧ V.cell? ⟨bx, 0, none⟩ = some (.slice (some ⟨bn, on, none⟩) n c) ∧ V.cell? ⟨bx, 1, none⟩ = some names ∧ V.cell? ⟨gF, k, none⟩ = some (.int .i64 (f : Nat)) ∧ V.cell? ⟨bn, on + j * 9, none⟩ = some u0 ∧ V.cell? ⟨bn, on + j * 9 + 1, none⟩ = some u1 ∧ V.cell? ⟨bn, on + j * 9 + 2, none⟩ = some u2 ∧ V.cell? ⟨bn, on + j * 9 + 3, none⟩ = some u3 ∧ V.cell? ⟨bn, on + j * 9 + 4, none⟩ = some u4 ∧ V.cell? ⟨bn, on + j * 9 + 5, none⟩ = some u5 ∧ V.cell? ⟨bn, on + j * 9 + 6, none⟩ = some u6 ∧ V.cell? ⟨bn, on + j * 9 + 7, none⟩ = some u7 ∧ V.cell? ⟨bn, on + j * 9 + 8, none⟩ = some u8)) (S2 := (fun (V : World) => V.cell? ⟨bT, 0, none⟩ = some (.slice q2 na2 cq2) ∧ V.cell? ⟨bT, 1, none⟩ = some (.slice none 0 0) ∧ V.cell? ⟨bx, 0, none⟩ = some (.slice (some ⟨bn, on, none⟩) n c) ∧ V.cell? ⟨bx, 1, none⟩ = some names ∧ V.cell? ⟨gF, k, none⟩ = some (.int .i64 (f : Nat)) ∧ V.cell? ⟨bn, on + j * 9, none⟩ = some u0 ∧ V.cell? ⟨bn, on + j * 9 + 1, none⟩ = some u1 ∧ V.cell? ⟨bn, on + j * 9 + 2, none⟩ = some u2 ∧ V.cell? ⟨bn, on + j * 9 + 3, none⟩ = some u3 ∧ V.cell? ⟨bn, on + j * 9 + 4, none⟩ = some u4 ∧ V.cell? ⟨bn, on + j * 9 + 5, none⟩ = some u5 ∧ V.cell? ⟨bn, on + j * 9 + 6, none⟩ = some u6 ∧ V.cell? ⟨bn, on + j * 9 + 7, none⟩ = some u7 ∧ V.cell? ⟨bn, on + j * 9 + 8, none⟩ = some u8)) 16 16 (by kernel_rfl) ?_
      have hbd : Below w.heap.size w wq.drew := HBq.out.drew
      have hJd := HJq.out.below (bl_drew wq)
      have hXd := HXq.out.below (bl_drew wq)
      have hFd := ownZ_below HFq.out (bl_drew wq)
      obtain ⟨WZ, hWZ⟩ : ∃ W, W = wq.drew := ⟨_, rfl⟩
      rw [← hWZ] at hbd hJd hXd hFd ⊢
      have HBD := lh hbd
      have HJD := lh hJd
      have HXD := lh hXd
      have HFD := lh hFd
      have hS := HSS.out WZ hbd hJd.tree hXd hFd
      have hS2 := hS
      have HW3S := lh (show B ≤ WZ.heap.size by have := HJD.out.tree.lt; have := HBT.out; omega)
      clear hWZ hbd hJd hXd hFd tc0 tc1
      refine tk1 0 ⟨hS, hS2⟩ ?_
      try simp only [Act.put, sb]
      refine tk1 1 ⟨hS, hS2⟩ ?_
      try simp only [Act.put, sb]
      refine tk1 2 ⟨hS, hS2⟩ ?_
      try simp only [Act.put, sb]
      refine tk1 3 ⟨hS, hS2⟩ ?_
      try simp only [Act.put, sb]
      refine tk1 4 ⟨hS, hS2⟩ ?_
      try simp only [Act.put, sb]
      refine tk1 5 ⟨hS, hS2⟩ ?_
      try simp only [Act.put, sb]
      refine tk1 6 ⟨hS, hS2⟩ ?_
      try simp only [Act.put, sb]
      refine tk1 7 ⟨hS, hS2⟩ ?_
      try simp only [Act.put, sb]
      refine tk1 8 ⟨hS, hS2⟩ ?_
      try simp only [Act.put, sb]
      refine tk1 9 ⟨hS, hS2⟩ ?_
      try simp only [Act.put, sb]
      refine tk1 10 ⟨hS, hS2⟩ ?_
      try simp only [Act.put, sb]
      refine tk1 11 ⟨hS, hS2⟩ ?_
      try simp only [Act.put, sb]
      refine aone 12 (fun K hK => ?_)
      go_simp
      refine (HMV.out WZ HBD.out).mono ?_
      rintro e v1 ⟨y, rfl, hyn, hys, hyk, hbv1⟩
      obtain ⟨lys, hlys⟩ : ∃ n, n = y.nd.set.length := ⟨_, rfl⟩
      obtain ⟨lyk, hlyk⟩ : ∃ n, n = y.nd.kids.length := ⟨_, rfl⟩
      obtain ⟨p0, p3, p4, p5, p6, p7, p8, hyl, _⟩ := node_lit5 y lys lyk hlys hlyk
      rw [hyl]
      have hJ1 := HJD.out.below hbv1
      have HB1 := lh (HBD.out.trans (hbv1.mono HBD.out.size))
      have HJ1 := lh hJ1
      have HY := lh (And.intro hyn (And.intro hys (And.intro hyk (And.intro hyl hbv1.size))))
      have HF1 := lh (ownZ_below HFD.out hbv1)
      have hSv1 := HSS.out v1 HB1.out hJ1.tree (HXD.out.below hbv1) HF1.out
      have HX1 := lh (HXD.out.below hbv1)
      refine hK.out _ _ ⟨fun _ => hSv1, fun _ => hSv1⟩ ?_
      clear hK K hS hS2 hbv1 hyn hys hyk hlys hlyk hyl hJ1
      have hS := hSv1
      have hS2 := hSv1
      clear hSv1
      try simp only [Act.put, sb]
      refine aone 13 (fun K hK => ?_)
      go_simp
      obtain ⟨v2, hv2⟩ : ∃ W, W = v1.alloc (.cells #[.int .u8 p0, .slice y.ps lys y.cs, .slice y.pk lyk y.ck, .int .i64 p3, .int .i64 p4, .int .i64 p5, .int .u8 p6, .int .u8 p7, .bool p8] 28) := ⟨_, rfl⟩
      have hbl : Below v1.heap.size v1 v2 := by rw [hv2]; exact bl_alloc _ _
      have HC2 : Hid (∀ i u, [Value.int .u8 p0, .slice y.ps lys y.cs, .slice y.pk lyk y.ck, .int .i64 p3, .int .i64 p4, .int .i64 p5, .int .u8 p6, .int .u8 p7, .bool p8][i]? = some u → v2.cell? ((⟨v1.heap.size, 0, none⟩ : Addr).add i) = some u) := by rw [hv2]; exact cells_nine v1 _ _
      rw [← hv2]
      have HJ2 := lh (HJ1.out.below hbl)
      have HB2x := lh (HB1.out.trans (hbl.mono HB1.out.size))
      have HBL := lh hbl
      have HF2 := lh (ownZ_below HF1.out hbl)
      have HX2 := lh (HX1.out.below hbl)
      have hSv2 := HSS.out v2 HB2x.out HJ2.out.tree HX2.out HF2.out
      refine hK.out _ _ ⟨fun _ => hSv2, fun _ => hSv2⟩ ?_
      clear hK K hS hS2 hv2 hbl
      have hS := hSv2
      have hS2 := hSv2
      clear hSv2
      try simp only [Act.put, sb]
      refine aone 14 (fun K hK => ?_)
      have HROW := lh (ownN_row HJ2.out.nodes HJ2.out.hna)
      refine step_append_lies _ rfl _ _ 31 rfl B 28 i0 (.agg #[.int .u8 0, .slice none 0 0, .slice none 0 0, .int .i64 0, .int .i64 0, .int .i64 0, .int .u8 0, .int .u8 0, .bool false]) 9 88 Tryz.underlying31 hinf hz0 hz1 hz2 rfl (by decide) (.slice q2 na2 cq2) na2 _ rfl HROW.out ⟨v1.heap.size, 0, none⟩ 1 1 [.int .u8 p0, .slice y.ps lys y.cs, .slice y.pk lyk y.ck, .int .i64 p3, .int .i64 p4, .int .i64 p5, .int .u8 p6, .int .u8 p7, .bool p8] rfl rfl HC2.out (by simp [Value.oneCell']) (by decide) (by simp only [maxLen]; omega) (by omega) (by have := HW3S.out; have := HY.out.2.2.2.2; have := HBL.out.size; omega) _ rfl ?_
      intro gg cap w9 hown hgrow hat hlt
      have hey : encN y = [.int .u8 p0, .slice y.ps lys y.cs, .slice y.pk lyk y.ck, .int .i64 p3, .int .i64 p4, .int .i64 p5, .int .u8 p6, .int .u8 p7, .bool p8] := congrArg Array.toList HY.out.2.2.2.1
      have hJ9 := HJ2.out.more (y := y) HBRT.out (by rw [HY.out.1]; exact ownR_below (ownR_down HY.out.2.1 HW3S.out) HBL.out) (by rw [HY.out.1]; show OwnZ _ _ (.slice y.pk (z.nd.kids.map fun k => w64 (k + -(f : Int))).length y.ck) (z.nd.kids.map fun k => w64 (k + -(f : Int))); rw [List.length_map]; exact ownZ_below (ownZ_down HY.out.2.2.1 HW3S.out) HBL.out) (by rw [hey]; exact hown) hgrow
      have kT := HJ2.out.tree.kept hgrow (Ne.symm (row_ne HJ2.out.nodes.row HJ2.out.tree (by decide)))
      have kX := HX2.out.kept hgrow (Ne.symm (row_ne HJ2.out.nodes.row HX2.out (by decide)))
      have kF : OwnZ w9 B (.slice (some ⟨gF, 0, none⟩) n cf) (fsZ l) := kept_beside HF2.out HJ2.out.nodes.row (by decide) hgrow
      have hB9 : Below w.heap.size w w9 := HB2x.out.grown hgrow HB2x.out.size (fun g e => Nat.le_trans HBB.out (HROW.out.lt g e).1)
      have HJ9 := lh hJ9
      have HX9 := lh (kX.other (a := ⟨bT, 0, none⟩) HBXT.out (.slice (some ⟨gg, 0, none⟩) (na2 + 1) cap))
      have HF9 : Hid (OwnZ _ B (.slice (some ⟨gF, 0, none⟩) n cf) (fsZ l)) := ownsRow_setCell_other (a := ⟨bT, 0, none⟩) kF (row_ne kF kT (by decide)) (.slice (some ⟨gg, 0, none⟩) (na2 + 1) cap)
      have HB9 := lh (hB9.setCell (p := ⟨bT, 0, none⟩) (show w.heap.size ≤ bT by have := HBT.out; omega) (.slice (some ⟨gg, 0, none⟩) (na2 + 1) cap))
      have HN9 : Hid (nds (ys2 ++ [y]) = (((nds xs).drop f).take (j + 1 - f)).map (mv (-(f : Int)))) := by show _ = _; rw [HNT.out, List.map_append, ← HN2.out]; simp [nds, HY.out.1]
      have hSw := HSS.out w9 hB9 kT kX kF
      have t0 := kT.cell (i := 0) rfl
      have ft0 := kT.free 0
      refine hK.out _ _ ⟨fun _ => hSw, fun _ => hSw⟩ ?_
      clear hK K hS hS2 hown hgrow hat hlt hJ9 hB9 kT hey kX kF
      have hS := hSw
      have hS2 := hSw
      clear hSw
      try simp only [Act.put, sb]
      refine tk1 15 ⟨hS, hS2⟩ ?_
      try simp only [Act.put, sb]
      refine aone 16 (fun K hK => ?_)
      go_simp
      refine hK.out _ _ ⟨fun h => absurd h (by decide), fun h => absurd h (by decide)⟩ ?_
      clear hK K hS hS2
      try simp only [Act.put, sb]
      refine anyL_done (by kernel_rfl) (show onlyN _ .normal _ _ from ?_) _
      dsimp only [onlyN]
      go_wp2
      go_roundw
      case rel => exact ⟨j + 1, by omega, by omega, by go_num, na2 + 1, by have := HNA.out; show _ = _; omega, some ⟨gg, 0, none⟩, cap, ys2 ++ [y], HJ9.out, by show _ = _; rw [HN9.out, List.map_take, List.map_drop]⟩
      case measure => simp [intOf] <;> omega
     ·have hjI : ¬ ((j : Int) ≤ k) := by omega
      obtain rfl : j = k + 1 := by omega
      obtain ⟨nv, hnv⟩ : ∃ v : Value, v = .slice q2 na2 cq2 := ⟨_, rfl⟩
      have k0 := HJq.out.res.cell (i := 0) rfl
      have k1 := HJq.out.res.cell (i := 1) rfl
      have f0 := HJq.out.res.free 0
      have f1 := HJq.out.res.free 1
      have hR6 : Bx ((wq.setCell ⟨br, 0, none⟩ nv).setCell ⟨br, 1, none⟩ (.slice none 0 0)) br 34 #[nv, .slice none 0 0] := (HJq.out.res.set 0 nv).set 1 (.slice none 0 0)
      have z0 := hR6.cell (i := 0) rfl
      have z1 := hR6.cell (i := 1) rfl
      have hM := (HJq.out.nodes.other HJq.out.res (by decide) (by decide) (by decide) 0 nv).other (HJq.out.res.set 0 nv) (by decide) (by decide) (by decide) 1 (.slice none 0 0)
      have HFIN := lh (And.intro hM ((HBq.out.setCell (p := ⟨br, 0, none⟩) (show w.heap.size ≤ br by have := HNB.out; omega) nv).setCell (p := ⟨br, 1, none⟩) (show w.heap.size ≤ br by have := HNB.out; omega) (.slice none 0 0)))
      have HNE : Hid (nds ys2 = ofT (nds xs) (k : Int)) := by show _ = _; rw [HN2.out, HE.out]; rfl
      rw [hnv] at z0 z1 HFIN
      have HJN := lh HJq.out.hna
      clear hR6 hM hnv
      go_wp2
      refine bodyPost_ret (v := .agg #[.slice q2 na2 cq2, .slice none 0 0]) (by simp [results, Tryz.results13, go_sem, z0, z1]) rfl ?_
      exact ⟨_, _, _, _, HJN.out, rfl, HFIN.out.1.down HBB.out, HNE.out, HFIN.out.2⟩
end Go.Proofs.YtkefndfgkmdphaaGreat
