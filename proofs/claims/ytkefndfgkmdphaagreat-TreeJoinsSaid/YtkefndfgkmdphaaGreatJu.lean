import Derived.Test.YtkefndfgkmdphaaGreatFi
import Derived.Test.YtkefndfgkmdphaaGreatJt
import Derived.Test.YtkefndfgkmdphaaGreatFl

namespace Go.Proofs.YtkefndfgkmdphaaGreat
set_option maxHeartbeats 12800000
set_option maxRecDepth 100000
open Go.RowKit Tnr Tnt

theorem nds_take7 {xs : List NV} {k : Nat} (h : k < xs.length) : (nds xs).take (k + 1) = (nds xs).take k ++ [(gn xs k).nd] := by
 unfold nds
 rw [← List.map_take, ← List.map_take, take_gn h, List.map_append]; rfl
theorem rjoin_any (x : NV) (p : Option Addr) (m c : Nat) (ts : List TV) (w : World) (hx : NodeIn w x) (hxs : x.nd.set.length ≤ 1000000) (hxk : x.nd.kids.length ≤ 1000000) (hm : m = ts.length) (hp : SlT w p ts) (hf : FewT ts) (hmm : m ≤ 1000000) (hsz : sizeT ts ≤ 1000000) :
  Calls Tryz.prog 10 #[.agg (encN x).toArray, .slice p m c] w (TreePost w (joinT x.nd (treesN ts))) := by
 obtain ⟨i0, hinf, hz0, hz1, hz2⟩ := info_parts info_node
 obtain ⟨j0, jinf, jz0, jz1, jz2⟩ := info_parts info_intz
 obtain ⟨a0, a1, a2, a3, a4, a5, a6, a7, a8, hlit⟩ : ∃ v0 v1 v2 v3 v4 v5 v6 v7 v8, (encN x).toArray = #[v0, v1, v2, v3, v4, v5, v6, v7, v8] := ⟨_, _, _, _, _, _, _, _, _, rfl⟩
 obtain ⟨W3, hW3⟩ : ∃ W, W = ((w.alloc (.cells (encN x).toArray 28)).alloc (.cells #[.slice none 0 0, .slice none 0 0] 34)).alloc (.cells #[.slice none 0 0, .slice none 0 0] 34) := ⟨_, rfl⟩
 have hb3 : Below w.heap.size w W3 := by rw [hW3]; exact bl_trans (bl_trans (bl_alloc _ _) (bl_alloc _ _)) (bl_alloc _ _)
 have hX : Bx W3 w.heap.size 28 (encN x).toArray := by rw [hW3]; exact ((Bx.new w _ _).below (bl_alloc _ _)).below (bl_alloc _ _)
 have hR : Bx W3 (w.heap.size + 1) 34 #[.slice none 0 0, .slice none 0 0] := by
  have h := Bx.new (w.alloc (.cells (encN x).toArray 28)) 34 #[.slice none 0 0, .slice none 0 0]
  rw [World.size_alloc] at h; rw [hW3]; exact h.below (bl_alloc _ _)
 have hT : Bx W3 (w.heap.size + 1 + 1) 34 #[.slice none 0 0, .slice none 0 0] := by
  have h := Bx.new ((w.alloc (.cells (encN x).toArray 28)).alloc (.cells #[.slice none 0 0, .slice none 0 0] 34)) 34 #[.slice none 0 0, .slice none 0 0]
  rw [World.size_alloc, World.size_alloc] at h; rw [hW3]; exact h
 have hs3 : W3.heap.size = w.heap.size + 1 + 1 + 1 := by rw [hW3]; simp
 have HCP := lh (copyNode_any x W3 (hx.below hb3) hxk hxs)
 unfold Hid at HCP
 rw [hlit] at hX hW3 HCP ⊢
 have HCP := lh HCP
 obtain ⟨bx, hbx⟩ : ∃ b, b = w.heap.size := ⟨_, rfl⟩
 obtain ⟨br, hbr⟩ : ∃ b, b = bx + 1 := ⟨_, rfl⟩
 obtain ⟨bT, hbT⟩ : ∃ b, b = br + 1 := ⟨_, rfl⟩
 rw [← hbx] at hX
 rw [← hbx, ← hbr] at hR
 rw [← hbx, ← hbr, ← hbT] at hT
 have HNB : Hid (w.heap.size = bx ∧ bx + 1 = br ∧ br + 1 = bT ∧ W3.heap.size = bT + 1) := ⟨hbx.symm, hbr.symm, hbT.symm, by rw [hs3, hbT, hbr, hbx]⟩
 have HW3 := lh hW3.symm
 have HB3 := lh hb3
 have HR := lh hR
 have HT := lh hT
 have HP := lh (And.intro hp (And.intro hf (And.intro hm hsz)))
 have hmI : (m : Int) ≤ 1000000 := by omega
 obtain ⟨ls, hls⟩ : ∃ n, n = x.nd.set.length := ⟨_, rfl⟩
 obtain ⟨lk, hlk⟩ : ∃ n, n = x.nd.kids.length := ⟨_, rfl⟩
 have HL := lh (And.intro hls hlk)
 clear hx hxs hxk hm hp hf hmm hsz hW3 hb3 hR hT hs3 hbx hbr hbT hlit hls hlk
 go_enter Tryz.func10, Tryz.ntmps10
 go_upto_region 2 with fail
 rw [HW3.out, HNB.out.1, HNB.out.2.1, HNB.out.2.2.1]
 obtain ⟨c0, c1, c2, c3, c4, c5, c6, c7, c8⟩ := nine hX
 clear hX
 go_wp2_with fail
 refine (HCP.out).mono ?_
 rintro e w4 ⟨y, rfl, hy, hb4⟩
 clear c0 c1 c2 c3 c4 c5 c6 c7 c8
 obtain ⟨v0, v3, v4, v5, v6, v7, v8, hl1, hl2⟩ := node_lit5 y ls lk (by rw [hy.nd]; exact HL.out.1) (by rw [hy.nd]; exact HL.out.2)
 obtain ⟨qs, hqs⟩ : ∃ z, z = y.ps := ⟨_, rfl⟩
 obtain ⟨es, hes⟩ : ∃ z, z = y.cs := ⟨_, rfl⟩
 obtain ⟨qk, hqk⟩ : ∃ z, z = y.pk := ⟨_, rfl⟩
 obtain ⟨ek, hek⟩ : ∃ z, z = y.ck := ⟨_, rfl⟩
 have hys := hy.set
 rw [← HL.out.1, ← hqs, ← hes] at hys
 rw [← hqs, ← hes, ← hqk, ← hek] at hl1
 rw [hy.nd, ← hqs, ← hes] at hl2
 rw [hl1]
 obtain ⟨w5, hw5⟩ : ∃ W, W = w4.alloc (.cells #[.int .u8 v0, .slice qs ls es, .slice qk lk ek, .int .i64 v3, .int .i64 v4, .int .i64 v5, .int .u8 v6, .int .u8 v7, .bool v8] 28) := ⟨_, rfl⟩
 obtain ⟨bN, hbN⟩ : ∃ b, b = w4.heap.size := ⟨_, rfl⟩
 have hb5 : Below w4.heap.size w4 w5 := by rw [hw5]; exact bl_alloc _ _
 have hC : Bx w5 bN 28 #[.int .u8 v0, .slice qs ls es, .slice qk lk ek, .int .i64 v3, .int .i64 v4, .int .i64 v5, .int .u8 v6, .int .u8 v7, .bool v8] := by rw [hw5, hbN]; exact Bx.new w4 _ _
 have hbNT : W3.heap.size ≤ bN := by rw [hbN]; exact hb4.size
 have hS5 := ownR_below hys hb5
 have hT5 := (HT.out.below hb4).below hb5
 have hR5 := (HR.out.below hb4).below hb5
 have hJ0 : JS (w5.setCell ⟨bN, 2, none⟩ (.slice none 0 0)) W3.heap.size bT bN br (fun kv => #[.int .u8 v0, .slice qs ls es, kv, .int .i64 v3, .int .i64 v4, .int .i64 v5, .int .u8 v6, .int .u8 v7, .bool v8]) x.nd.set (.slice qs ls es) 0 0 none 0 [] none 0 [] :=
  ⟨hT5.other (a := ⟨bN, 2, none⟩) (bx_apart hT5 hC (by decide)) _, hC.set 2 (.slice none 0 0), hR5.other (a := ⟨bN, 2, none⟩) (bx_apart hR5 hC (by decide)) _, ownsRow_setCell_other (a := ⟨bN, 2, none⟩) hS5 (ownR_ne hS5 hC (by decide)) _, ownN_nil _ _, ownZ_nil _ _, rfl, rfl, by simp [Value.ownBlock], fun g e => by simp [Value.ownBlock] at e⟩
 have hB6 : Below w.heap.size w (w5.setCell ⟨bN, 2, none⟩ (.slice none 0 0)) := (HB3.out.trans ((bl_trans hb4 hb5).mono HB3.out.size)).setCell (p := ⟨bN, 2, none⟩) (Nat.le_trans HB3.out.size hbNT) _
 have HJ0 := lh hJ0
 have HB6 := lh hB6
 have HL2 := lh hl2
 have HBN := lh hbNT
 have HW5 := lh (And.intro hw5.symm hbN.symm)
 have n2 := (nine hC).2.2.1
 have f2 := hC.free 2
 have hbrT : br ≠ bT := by have := HNB.out; omega
 have HBRT := lh hbrT
 clear hJ0 hB6 hl2 hbNT hw5 hbN hb5 hC hS5 hT5 hR5 hys hy hb4 hl1 hqs hes hqk hek hbrT
 go_upto_region 3 with fail
 rw [HW5.out.2, HW5.out.1]
 go_wp2
 go_loopw [7] (fun iv wr => ∃ (k na nl : Nat) (q : Option Addr) (cq : Nat) (ys : List NV) (r : Option Addr) (cr : Nat) (L : List Int), k ≤ m ∧ nl ≤ k ∧ iv = .int .i64 (k : Nat) ∧ Hid (na + sizeT (ts.drop k) ≤ 1000000) ∧ Hid (JS wr W3.heap.size bT bN br (fun kv => #[.int .u8 v0, .slice qs ls es, kv, .int .i64 v3, .int .i64 v4, .int .i64 v5, .int .u8 v6, .int .u8 v7, .bool v8]) x.nd.set (.slice qs ls es) na nl q cq ys r cr L) ∧ Hid (joinA ((treesN ts).drop k) (nds ys) L = joinA (treesN ts) [] []) ∧ Hid (Below w.heap.size w wr)) (fun iv _ => m - (intOf iv).toNat)
 case atStart => exact ⟨0, 0, 0, none, 0, [], none, 0, [], Nat.zero_le _, Nat.le_refl _, rfl, by show _ ≤ _; have := HP.out.2.2.2; simpa using this, HJ0.out, rfl, HB6.out⟩
 case round =>
  obtain ⟨k, na, nl, q, cq, ys, r, cr, L, hk, hnl, rfl, HS, HJ, HJA, HB⟩ := hrel
  rename World => wr
  clear n2 f2
  have tc0 := HJ.out.tree.cell (i := 0) rfl
  have tc1 := HJ.out.tree.cell (i := 1) rfl
  by_cases hkm : k < m
  ·have hkx : k < ts.length := by have := HP.out.2.2.1; omega
   obtain ⟨b, o, rfl, ct0, ct1, hti⟩ := HP.out.1.at hkx
   have hkI : (k : Int) < m := by omega
   obtain ⟨t, ht⟩ : ∃ t, t = gt ts k := ⟨_, rfl⟩
   have htf : Few t.ys := by rw [ht]; exact HP.out.2.1 _ (gt_mem hkx)
   rw [← ht] at ct0 ct1 hti
   obtain ⟨ly, hly⟩ : ∃ n, n = t.ys.length := ⟨_, rfl⟩
   rw [← hly] at ct0
   have hsz2 : na + ly + sizeT (ts.drop (k + 1)) ≤ 1000000 := by
    have := HS.out
    rw [sizeT_drop hkx, ← ht] at this; omega
   have HCT : Hid (∀ V, Below w.heap.size w V → V.cell? ⟨b, o + k * 2, none⟩ = some (.slice t.q ly t.cq) ∧ V.cell? ⟨b, o + k * 2 + 1, none⟩ = some (.slice t.na t.nn t.nc)) := fun V hV => ⟨cell_keepX ct0 hV, cell_keepX ct1 hV⟩
   have HTI := lh hti
   have HTT := lh (And.intro ht (And.intro hly (And.intro htf (And.intro hkx hkm))))
   have HSZ := lh hsz2
   have hlyI : (ly : Int) ≤ 1000000 := by omega
   have hnaI : (na : Int) ≤ 1000000 := by omega
   clear ct0 ct1 hti ht hly htf hkx hkm hsz2
   go_wp2
   go_loopw [9] (fun jv wq => ∃ (j na2 : Nat) (q2 : Option Addr) (cq2 : Nat) (ys2 : List NV), j ≤ ly ∧ jv = .int .i64 (j : Nat) ∧ Hid (na2 = na + j) ∧ Hid (JS wq W3.heap.size bT bN br (fun kv => #[.int .u8 v0, .slice qs ls es, kv, .int .i64 v3, .int .i64 v4, .int .i64 v5, .int .u8 v6, .int .u8 v7, .bool v8]) x.nd.set (.slice qs ls es) na2 nl q2 cq2 ys2 r cr L) ∧ Hid (nds ys2 = nds ys ++ ((nds t.ys).take j).map (mv (na : Int))) ∧ Hid (Below w.heap.size w wq)) (fun jv _ => ly - (intOf jv).toNat)
   case atStart => exact ⟨0, na, q, cq, ys, Nat.zero_le _, rfl, rfl, HJ.out, by show _ = _; simp, HB.out⟩
   case round =>
    obtain ⟨j, na2, q2, cq2, ys2, hj, rfl, HNA, HJq, HN2, HBq⟩ := hrel
    rename World => wq
    clear tc0 tc1
    obtain ⟨ct0, ct1⟩ := HCT.out wq HBq.out
    have tc0 := HJq.out.tree.cell (i := 0) rfl
    have tc1 := HJq.out.tree.cell (i := 1) rfl
    by_cases hjl : j < ly
    ·have hjx : j < t.ys.length := by have := HTT.out.2.1; omega
     obtain ⟨bn, on, hq, hcells, hin⟩ := HTI.out.nodes.at hjx
     have hzf := HTT.out.2.2.1 _ (gn_mem hjx)
     have hnt := nds_take7 hjx
     obtain ⟨z, hz⟩ : ∃ z, z = gn t.ys j := ⟨_, rfl⟩
     rw [← hz] at hcells hin hzf hnt
     obtain ⟨u0, u1, u2, u3, u4, u5, u6, u7, u8, hzl⟩ : ∃ v0 v1 v2 v3 v4 v5 v6 v7 v8, (encN z).toArray = #[v0, v1, v2, v3, v4, v5, v6, v7, v8] := ⟨_, _, _, _, _, _, _, _, _, rfl⟩
     obtain ⟨z0, z1, z2, z3, z4, z5, z6, z7, z8⟩ := cellsN_lit hcells hzl
     have HSS : Hid (∀ V, Below w.heap.size w V → Bx V bT 34 #[.slice q2 na2 cq2, .slice none 0 0] → (fun (V : World) => V.cell? ⟨bT, 0, none⟩ = some (.slice q2 na2 cq2) ∧ V.cell? ⟨bT, 1, none⟩ = some (.slice none 0 0) ∧ V.cell? ⟨b, o + k * 2, none⟩ = some (.slice (some ⟨bn, on, none⟩) ly t.cq) ∧ V.cell? ⟨b, o + k * 2 + 1, none⟩ = some (.slice t.na t.nn t.nc) ∧ V.cell? ⟨bn, on + j * 9, none⟩ = some u0 ∧ V.cell? ⟨bn, on + j * 9 + 1, none⟩ = some u1 ∧ V.cell? ⟨bn, on + j * 9 + 2, none⟩ = some u2 ∧ V.cell? ⟨bn, on + j * 9 + 3, none⟩ = some u3 ∧ V.cell? ⟨bn, on + j * 9 + 4, none⟩ = some u4 ∧ V.cell? ⟨bn, on + j * 9 + 5, none⟩ = some u5 ∧ V.cell? ⟨bn, on + j * 9 + 6, none⟩ = some u6 ∧ V.cell? ⟨bn, on + j * 9 + 7, none⟩ = some u7 ∧ V.cell? ⟨bn, on + j * 9 + 8, none⟩ = some u8) V) := fun V hV hT => ⟨hT.cell rfl, hT.cell rfl, by rw [← hq]; exact (HCT.out V hV).1, (HCT.out V hV).2, cell_keepX z0 hV, cell_keepX z1 hV, cell_keepX z2 hV, cell_keepX z3 hV, cell_keepX z4 hV, cell_keepX z5 hV, cell_keepX z6 hV, cell_keepX z7 hV, cell_keepX z8 hV⟩
     have HMV := lh (fun V (hV : Below w.heap.size w V) => rmoved_any z (na : Int) V (hin.below hV) hzf.1 hzf.2)
     unfold Hid at HMV
     simp only [hzl] at HMV
     have HMV := lh HMV
     have HNT := lh hnt
     have hjI : (j : Int) < ly := by omega
     have hna2I : na2 ≤ 2000000 := by have := HNA.out; omega
     rw [hq] at ct0
     clear hjx hq hcells hin hzf hz hzl z0 z1 z2 z3 z4 z5 z6 z7 z8 hnt
     go_wp2
     refine wp_region_L (S := (fun (V : World) => V.cell? ⟨bT, 0, none⟩ = some (.slice q2 na2 cq2) ∧ V.cell? ⟨bT, 1, none⟩ = some (.slice none 0 0) ∧ V.cell? ⟨b, o + k * 2, none⟩ = some (.slice (some ⟨bn, on, none⟩) ly t.cq) ∧ V.cell? ⟨b, o + k * 2 + 1, none⟩ = some (.slice t.na t.nn t.nc) ∧ V.cell? ⟨bn, on + j * 9, none⟩ = some u0 ∧ V.cell? ⟨bn, on + j * 9 + 1, none⟩ = some u1 ∧ V.cell? ⟨bn, on + j * 9 + 2, none⟩ = some u2 ∧ V.cell? ⟨bn, on + j * 9 + 3, none⟩ = some u3 ∧ V.cell? ⟨bn, on + j * 9 + 4, none⟩ = some u4 ∧ V.cell? ⟨bn, on + j * 9 + 5, none⟩ = some u5 ∧ V.cell? ⟨bn, on + j * 9 + 6, none⟩ = some u6 ∧ V.cell? ⟨bn, on + j * 9 + 7, none⟩ = some u7 ∧ V.cell? ⟨bn, on + j * 9 + 8, none⟩ = some u8)) (S2 := (fun (V : World) => V.cell? ⟨bT, 0, none⟩ = some (.slice q2 na2 cq2) ∧ V.cell? ⟨bT, 1, none⟩ = some (.slice none 0 0) ∧ V.cell? ⟨b, o + k * 2, none⟩ = some (.slice (some ⟨bn, on, none⟩) ly t.cq) ∧ V.cell? ⟨b, o + k * 2 + 1, none⟩ = some (.slice t.na t.nn t.nc) ∧ V.cell? ⟨bn, on + j * 9, none⟩ = some u0 ∧ V.cell? ⟨bn, on + j * 9 + 1, none⟩ = some u1 ∧ V.cell? ⟨bn, on + j * 9 + 2, none⟩ = some u2 ∧ V.cell? ⟨bn, on + j * 9 + 3, none⟩ = some u3 ∧ V.cell? ⟨bn, on + j * 9 + 4, none⟩ = some u4 ∧ V.cell? ⟨bn, on + j * 9 + 5, none⟩ = some u5 ∧ V.cell? ⟨bn, on + j * 9 + 6, none⟩ = some u6 ∧ V.cell? ⟨bn, on + j * 9 + 7, none⟩ = some u7 ∧ V.cell? ⟨bn, on + j * 9 + 8, none⟩ = some u8)) 15 15 (by kernel_rfl) ?_
     have hbd : Below w.heap.size w wq.drew := HBq.out.drew
     have hJd := HJq.out.below (bl_drew wq)
     obtain ⟨WZ, hWZ⟩ : ∃ W, W = wq.drew := ⟨_, rfl⟩
     rw [← hWZ] at hbd hJd ⊢
     have HBD := lh hbd
     have HJD := lh hJd
     have hS := HSS.out WZ hbd hJd.tree
     have hS2 := hS
     have HW3S := lh (show W3.heap.size ≤ WZ.heap.size by have := HJD.out.tree.lt; have := HNB.out; omega)
     clear hWZ hbd hJd tc0 tc1 ct0 ct1
     refine tk1 0 ⟨hS, hS2⟩ ?_
     try simp only [Act.put, sb]
     refine tk1 1 ⟨hS, hS2⟩ ?_
     try simp only [Act.put, sb]
     refine tk1 2 ⟨hS, hS2⟩ ?_
     try simp only [Act.put, sb]
     refine tk1 3 ⟨hS, hS2⟩ ?_
     try simp only [Act.put, sb]
     refine tk1 4 ⟨hS, hS2⟩ ?_
     try simp only [Act.put, sb]
     refine tk1 5 ⟨hS, hS2⟩ ?_
     try simp only [Act.put, sb]
     refine tk1 6 ⟨hS, hS2⟩ ?_
     try simp only [Act.put, sb]
     refine tk1 7 ⟨hS, hS2⟩ ?_
     try simp only [Act.put, sb]
     refine tk1 8 ⟨hS, hS2⟩ ?_
     try simp only [Act.put, sb]
     refine tk1 9 ⟨hS, hS2⟩ ?_
     try simp only [Act.put, sb]
     refine tk1 10 ⟨hS, hS2⟩ ?_
     try simp only [Act.put, sb]
     refine aone 11 (fun K hK => ?_)
     go_simp
     refine (HMV.out WZ HBD.out).mono ?_
     rintro e v1 ⟨y, rfl, hyn, hys, hyk, hbv1⟩
     obtain ⟨lys, hlys⟩ : ∃ n, n = y.nd.set.length := ⟨_, rfl⟩
     obtain ⟨lyk, hlyk⟩ : ∃ n, n = y.nd.kids.length := ⟨_, rfl⟩
     obtain ⟨p0, p3, p4, p5, p6, p7, p8, hyl, _⟩ := node_lit5 y lys lyk hlys hlyk
     rw [hyl]
     have hJ1 := HJD.out.below hbv1
     have HB1 := lh (HBD.out.trans (hbv1.mono HBD.out.size))
     have HJ1 := lh hJ1
     have HY := lh (And.intro hyn (And.intro hys (And.intro hyk (And.intro hyl hbv1.size))))
     have hSv1 := HSS.out v1 HB1.out hJ1.tree
     refine hK.out _ _ ⟨fun _ => hSv1, fun _ => hSv1⟩ ?_
     clear hK K hS hS2 hbv1 hyn hys hyk hlys hlyk hyl hJ1
     have hS := hSv1
     have hS2 := hSv1
     clear hSv1
     try simp only [Act.put, sb]
     refine aone 12 (fun K hK => ?_)
     go_simp
     obtain ⟨v2, hv2⟩ : ∃ W, W = v1.alloc (.cells #[.int .u8 p0, .slice y.ps lys y.cs, .slice y.pk lyk y.ck, .int .i64 p3, .int .i64 p4, .int .i64 p5, .int .u8 p6, .int .u8 p7, .bool p8] 28) := ⟨_, rfl⟩
     have hbl : Below v1.heap.size v1 v2 := by rw [hv2]; exact bl_alloc _ _
     have HC2 : Hid (∀ i u, [Value.int .u8 p0, .slice y.ps lys y.cs, .slice y.pk lyk y.ck, .int .i64 p3, .int .i64 p4, .int .i64 p5, .int .u8 p6, .int .u8 p7, .bool p8][i]? = some u → v2.cell? ((⟨v1.heap.size, 0, none⟩ : Addr).add i) = some u) := by rw [hv2]; exact cells_nine v1 _ _
     rw [← hv2]
     have HJ2 := lh (HJ1.out.below hbl)
     have HB2 := lh (HB1.out.trans (hbl.mono HB1.out.size))
     have HBL := lh hbl
     have hSv2 := HSS.out v2 HB2.out HJ2.out.tree
     refine hK.out _ _ ⟨fun _ => hSv2, fun _ => hSv2⟩ ?_
     clear hK K hS hS2 hv2 hbl
     have hS := hSv2
     have hS2 := hSv2
     clear hSv2
     try simp only [Act.put, sb]
     refine aone 13 (fun K hK => ?_)
     have HROW := lh (ownN_row HJ2.out.nodes HJ2.out.hna)
     refine step_append_lies _ rfl _ _ 31 rfl W3.heap.size 28 i0 (.agg #[.int .u8 0, .slice none 0 0, .slice none 0 0, .int .i64 0, .int .i64 0, .int .i64 0, .int .u8 0, .int .u8 0, .bool false]) 9 88 Tryz.underlying31 hinf hz0 hz1 hz2 rfl (by decide) (.slice q2 na2 cq2) na2 _ rfl HROW.out ⟨v1.heap.size, 0, none⟩ 1 1 [.int .u8 p0, .slice y.ps lys y.cs, .slice y.pk lyk y.ck, .int .i64 p3, .int .i64 p4, .int .i64 p5, .int .u8 p6, .int .u8 p7, .bool p8] rfl rfl HC2.out (by simp [Value.oneCell']) (by decide) (by simp only [maxLen]; omega) (by omega) (by have := HW3S.out; have := HY.out.2.2.2.2; have := HBL.out.size; omega) _ rfl ?_
     intro gg cap w9 hown hgrow hat hlt
     have hey : encN y = [.int .u8 p0, .slice y.ps lys y.cs, .slice y.pk lyk y.ck, .int .i64 p3, .int .i64 p4, .int .i64 p5, .int .u8 p6, .int .u8 p7, .bool p8] := congrArg Array.toList HY.out.2.2.2.1
     have hJ9 := HJ2.out.more (y := y) HBRT.out (by rw [HY.out.1]; exact ownR_below (ownR_down HY.out.2.1 HW3S.out) HBL.out) (by rw [HY.out.1]; show OwnZ _ _ (.slice y.pk (z.nd.kids.map fun k => w64 (k + (na : Int))).length y.ck) (z.nd.kids.map fun k => w64 (k + (na : Int))); rw [List.length_map]; exact ownZ_below (ownZ_down HY.out.2.2.1 HW3S.out) HBL.out) (fun g' hg' e => by have h1 := (World.ownsRow.lt HJD.out.kids g' hg').2; rw [HY.out.1] at e; have h2 := (World.ownsRow.lt HY.out.2.2.1 g' (by rw [← e]; show _ = (Value.slice y.pk (z.nd.kids.map fun k => w64 (k + (na : Int))).length y.ck).ownBlock; rw [List.length_map])).1; omega) (by rw [hey]; exact hown) hgrow hat
     have kT := HJ2.out.tree.kept hgrow (Ne.symm (row_ne HJ2.out.nodes.row HJ2.out.tree (by decide)))
     have hB9 : Below w.heap.size w w9 := HB2.out.grown hgrow HB2.out.size (fun g e => Nat.le_trans HB3.out.size (HROW.out.lt g e).1)
     have HJ9 := lh hJ9
     have HB9 := lh (hB9.setCell (p := ⟨bT, 0, none⟩) (show w.heap.size ≤ bT by have := HNB.out; omega) (.slice (some ⟨gg, 0, none⟩) (na2 + 1) cap))
     have HN9 : Hid (nds (ys2 ++ [y]) = nds ys ++ ((nds t.ys).take (j + 1)).map (mv (na : Int))) := by show _ = _; rw [HNT.out, List.map_append, ← List.append_assoc, ← HN2.out]; simp [nds, HY.out.1]
     have hSw := HSS.out w9 hB9 kT
     have t0 := kT.cell (i := 0) rfl
     have ft0 := kT.free 0
     refine hK.out _ _ ⟨fun _ => hSw, fun _ => hSw⟩ ?_
     clear hK K hS hS2 hown hgrow hat hlt hJ9 hB9 kT hey
     have hS := hSw
     have hS2 := hSw
     clear hSw
     try simp only [Act.put, sb]
     refine tk1 14 ⟨hS, hS2⟩ ?_
     try simp only [Act.put, sb]
     refine aone 15 (fun K hK => ?_)
     go_simp
     refine hK.out _ _ ⟨fun h => absurd h (by decide), fun h => absurd h (by decide)⟩ ?_
     clear hK K hS hS2
     try simp only [Act.put, sb]
     refine anyL_done (by kernel_rfl) (show onlyN _ .normal _ _ from ?_) _
     dsimp only [onlyN]
     go_wp2
     go_roundw
     case rel => exact ⟨j + 1, na2 + 1, some ⟨gg, 0, none⟩, cap, ys2 ++ [y], by omega, by go_num, by have := HNA.out; show _ = _; omega, HJ9.out, HN9.out, HB9.out⟩
     case measure => simp [intOf] <;> omega
    ·obtain rfl : ly = j := by omega
     have hjI : (ly : Int) ≤ ly := by omega
     have hna2I : (na2 : Int) ≤ 2000000 := by have := HNA.out; omega
     have hend : nds ys2 = nds ys ++ (nds t.ys).map (mv (na : Int)) := by
      have h := HN2.out
      rw [HTT.out.2.1, ← nds_length, List.take_length] at h; exact h
     have hlen : na = (nds ys).length := by rw [nds_length]; exact HJ.out.hna
     by_cases h0 : ly = 0
     ·have hq : ¬ ((0 : Int) < (ly : Int)) := by omega
      have HJ5 : Hid (joinA ((treesN ts).drop (k + 1)) (nds ys2) L = joinA (treesN ts) [] []) := by
       show _ = _
       have hy0 : nds t.ys = [] := List.eq_nil_of_length_eq_zero (by rw [nds_length, ← HTT.out.2.1]; exact h0)
       rw [← HJA.out, treesN_drop HTT.out.2.2.2.1, ← HTT.out.1, hend, hy0]
       simp [joinA]
      have HSZ2 : Hid (na2 + sizeT (ts.drop (k + 1)) ≤ 1000000) := by have := HSZ.out; have := HNA.out; show _ ≤ _; omega
      have HKM := lh HTT.out.2.2.2.2
      clear hend hlen
      go_wp2
      go_roundw
      case rel => exact ⟨k + 1, na2, nl, q2, cq2, ys2, r, cr, L, by have := HKM.out; omega, by omega, by go_num, HSZ2.out, HJq.out, HJ5.out, HBq.out⟩
      case measure => have := HKM.out; simp [intOf]; omega
     ·have hq : (0 : Int) < (ly : Int) := by omega
      have h1 : (1 : Int) ≤ (na2 : Int) := by have := HNA.out; omega
      have HJ5 : Hid (joinA ((treesN ts).drop (k + 1)) (nds ys2) (L ++ [(na2 : Int) - 1]) = joinA (treesN ts) [] []) := by
       show _ = _
       have hd := treesN_drop HTT.out.2.2.2.1
       rw [← HTT.out.1] at hd
       have hy0 : ¬ (nds t.ys).length = 0 := by rw [nds_length, ← HTT.out.2.1]; exact h0
       rw [← HJA.out, hd, hend]
       rw [show joinA (nds t.ys :: (treesN ts).drop (k + 1)) (nds ys) L = if (nds t.ys).length = 0 then joinA ((treesN ts).drop (k + 1)) (nds ys) L else joinA ((treesN ts).drop (k + 1)) (nds ys ++ (nds t.ys).map (mv ((nds ys).length : Int))) (L ++ [(((nds ys).length + (nds t.ys).length : Nat) : Int) - 1]) from rfl, if_neg hy0]
       rw [nds_length t.ys, ← HTT.out.2.1, ← hlen, HNA.out]
      have HSZ2 : Hid (na2 + sizeT (ts.drop (k + 1)) ≤ 1000000) := by have := HSZ.out; have := HNA.out; show _ ≤ _; omega
      have HKM := lh HTT.out.2.2.2.2
      have hn2 : Bx wq bN 28 #[.int .u8 v0, .slice qs ls es, .slice r nl cr, .int .i64 v3, .int .i64 v4, .int .i64 v5, .int .u8 v6, .int .u8 v7, .bool v8] := HJq.out.node
      have cN2 := (nine hn2).2.2.1
      have HROW := lh (ownZ_row HJq.out.kids HJq.out.hnl)
      have HWS := lh (show W3.heap.size ≤ wq.heap.size by have := HJq.out.node.lt; have := HBN.out; have := (HJq.out.node).lt; have := HNB.out; have := HJq.out.tree.lt; omega)
      have hnlI : nl ≤ 1000000 := by omega
      clear hend hlen hn2 h0
      go_wp2_with (at_builtin; refine wpList_append_lies _ rfl _ _ 24 rfl W3.heap.size 3 j0 (.int .i64 0) 1 8 Tryz.underlying24 jinf jz0 jz1 jz2 rfl (by decide) (.slice r nl cr) nl _ rfl (HROW.out.alloc _) ⟨wq.heap.size, 0, none⟩ 1 1 [.int .i64 ((na2 : Int) - 1)] rfl rfl (cells_one_z _ _ _) (by simp [Value.oneCell']) (by decide) (by simp only [maxLen]; omega) (by omega) (by have := HWS.out; simp; omega) _ rfl ?_)
      intro gg cap w9 hown hgrow hat hlt
      have hbl := bl_alloc wq (.cells #[.int .i64 ((na2 : Int) - 1)] 3)
      have hJa := HJq.out.below hbl
      have hJ9 := hJa.kid (x := (na2 : Int) - 1) (fun _ _ => rfl) hown hgrow (by rw [World.size_alloc]; exact hat)
      have kN : Bx w9 bN 28 #[.int .u8 v0, .slice qs ls es, .slice r nl cr, .int .i64 v3, .int .i64 v4, .int .i64 v5, .int .u8 v6, .int .u8 v7, .bool v8] := hJa.node.kept hgrow (Ne.symm (row_ne hJa.kids hJa.node (by decide)))
      have m2 := (nine kN).2.2.1
      have fz2 := kN.free 2
      have hB9 : Below w.heap.size w (w9.setCell ⟨bN, 2, none⟩ (.slice (some ⟨gg, 0, none⟩) (nl + 1) cap)) := ((HBq.out.alloc HBq.out.size _).grown hgrow (by have := HBq.out.size; simp; omega) (fun g e => Nat.le_trans HB3.out.size (HROW.out.lt g e).1)).setCell (p := ⟨bN, 2, none⟩) (Nat.le_trans HB3.out.size HBN.out) _
      have HJ9 := lh hJ9
      have HB9 := lh hB9
      clear hown hgrow hat hlt hbl hJa hJ9 kN hB9 tc0 tc1 ct0 ct1 cN2
      go_wp2
      go_roundw
      case rel => exact ⟨k + 1, na2, nl + 1, q2, cq2, ys2, some ⟨gg, 0, none⟩, cap, _, by have := HKM.out; omega, by omega, by go_num, HSZ2.out, HJ9.out, HJ5.out, HB9.out⟩
      case measure => have := HKM.out; simp [intOf]; omega
  ·have hkI : (m : Int) ≤ k := by omega
   have hdrop : (treesN ts).drop k = [] := by
    rw [List.drop_eq_nil_iff]; unfold treesN; rw [List.length_map]; have := HP.out.2.2.1; omega
   have hJA := HJA.out
   rw [hdrop] at hJA
   obtain ⟨yz, hyz⟩ : ∃ y : NV, y = ⟨{ x.nd with kids := L }, qs, es, r, cr⟩ := ⟨_, rfl⟩
   have hey : encN yz = [.int .u8 v0, .slice qs ls es, .slice r nl cr, .int .i64 v3, .int .i64 v4, .int .i64 v5, .int .u8 v6, .int .u8 v7, .bool v8] := by
    rw [hyz]; exact HL2.out L r nl cr HJ.out.hnl
   have hfin : nds (ys ++ [yz]) = joinT x.nd (treesN ts) := by
    unfold joinT
    rw [← hJA, hyz]
    simp [nds, joinA]
   have hn2 : Bx wr bN 28 #[.int .u8 v0, .slice qs ls es, .slice r nl cr, .int .i64 v3, .int .i64 v4, .int .i64 v5, .int .u8 v6, .int .u8 v7, .bool v8] := HJ.out.node
   obtain ⟨e0, e1, e2, e3, e4, e5, e6, e7, e8⟩ := nine hn2
   have HROW := lh (ownN_row HJ.out.nodes HJ.out.hna)
   have HWS := lh (show W3.heap.size ≤ wr.heap.size by have := HJ.out.tree.lt; have := HNB.out; omega)
   have hna1 : na ≤ 1000000 := by have := HS.out; omega
   have HEY := lh (And.intro hey hfin)
   have HYZ := lh hyz
   clear hdrop hJA hyz hey hfin hn2
   go_wp2_with (at_builtin; refine wpList_append_lies _ rfl _ _ 31 rfl W3.heap.size 28 i0 (.agg #[.int .u8 0, .slice none 0 0, .slice none 0 0, .int .i64 0, .int .i64 0, .int .i64 0, .int .u8 0, .int .u8 0, .bool false]) 9 88 Tryz.underlying31 hinf hz0 hz1 hz2 rfl (by decide) (.slice q na cq) na _ rfl (HROW.out.alloc _) ⟨wr.heap.size, 0, none⟩ 1 1 [.int .u8 v0, .slice qs ls es, .slice r nl cr, .int .i64 v3, .int .i64 v4, .int .i64 v5, .int .u8 v6, .int .u8 v7, .bool v8] rfl rfl (cells_nine wr _ _) (by simp [Value.oneCell']) (by decide) (by simp only [maxLen]; omega) (by omega) (by have := HWS.out; simp; omega) _ rfl ?_)
   intro gg cap w9 hown hgrow hat hlt
   have hbl := bl_alloc wr (.cells #[.int .u8 v0, .slice qs ls es, .slice r nl cr, .int .i64 v3, .int .i64 v4, .int .i64 v5, .int .u8 v6, .int .u8 v7, .bool v8] 28)
   have hJa := HJ.out.below hbl
   have hM : OwnN w9 W3.heap.size (.slice (some ⟨gg, 0, none⟩) (na + 1) cap) (ys ++ [yz]) := by
    refine OwnN.more hJa.nodes hJa.hna ?_ ?_ (by rw [HEY.out.1]; exact hown) hgrow
    ·rw [HYZ.out]; show OwnR _ _ (.slice qs x.nd.set.length es) x.nd.set
     rw [← HL.out.1]; exact hJa.set
    ·rw [HYZ.out]; show OwnZ _ _ (.slice r L.length cr) L
     rw [← hJa.hnl]; exact hJa.kids
   have kT := hJa.tree.kept hgrow (Ne.symm (row_ne hJa.nodes.row hJa.tree (by decide)))
   have kR := hJa.res.kept hgrow (Ne.symm (row_ne hJa.nodes.row hJa.res (by decide)))
   obtain ⟨nv, hnv⟩ : ∃ v : Value, v = .slice (some ⟨gg, 0, none⟩) (na + 1) cap := ⟨_, rfl⟩
   have kT2 : Bx (w9.setCell ⟨bT, 0, none⟩ nv) bT 34 #[nv, .slice none 0 0] := kT.set 0 nv
   have kR2 := kR.other (a := ⟨bT, 0, none⟩) HBRT.out nv
   have kR3 : Bx (((w9.setCell ⟨bT, 0, none⟩ nv).setCell ⟨br, 0, none⟩ nv).setCell ⟨br, 1, none⟩ (.slice none 0 0)) br 34 #[nv, .slice none 0 0] := (kR2.set 0 nv).set 1 (.slice none 0 0)
   have hM3 := ((hM.other kT (by decide) (by decide) (by decide) 0 nv).other kR2 (by decide) (by decide) (by decide) 0 nv).other (kR2.set 0 nv) (by decide) (by decide) (by decide) 1 (.slice none 0 0)
   have hle := HB3.out.size
   have hB9 : Below w.heap.size w w9 := (HB.out.alloc HB.out.size _).grown hgrow (by have := HB.out.size; simp; omega) (fun g e => Nat.le_trans hle (HROW.out.lt g e).1)
   have hB12 := ((hB9.setCell (p := ⟨bT, 0, none⟩) (show w.heap.size ≤ bT by have := HNB.out; omega) nv).setCell (p := ⟨br, 0, none⟩) (show w.heap.size ≤ br by have := HNB.out; omega) nv).setCell (p := ⟨br, 1, none⟩) (show w.heap.size ≤ br by have := HNB.out; omega) (.slice none 0 0)
   have t0 := kT.cell (i := 0) rfl
   have ft0 := kT.free 0
   have t20 := kT2.cell (i := 0) rfl
   have t21 := kT2.cell (i := 1) rfl
   have n0 := kR2.cell (i := 0) rfl
   have n1 := kR2.cell (i := 1) rfl
   have fz0 := kR2.free 0
   have fz1 := kR2.free 1
   have r0 := kR3.cell (i := 0) rfl
   have r1 := kR3.cell (i := 1) rfl
   have hlen : na + 1 = (ys ++ [yz]).length := by rw [List.length_append, ← HJ.out.hna]; rfl
   have HFIN := lh (And.intro hM3 (And.intro hB12 hlen))
   rw [hnv] at t20 t21 n0 n1 fz0 fz1 r0 r1 HFIN
   clear hown hgrow hat hlt hbl hJa hM kT kR hnv kT2 kR2 kR3 hM3 hB9 hB12 hlen hle e0 e1 e2 e3 e4 e5 e6 e7 e8 tc0 tc1
   go_wp2
   refine bodyPost_ret (v := .agg #[.slice (some ⟨gg, 0, none⟩) (na + 1) cap, .slice none 0 0]) (by simp [results, Tryz.results10, go_sem, r0, r1]) rfl ⟨_, _, _, _, HFIN.out.2.2, rfl, HFIN.out.1.down HB3.out.size, HEY.out.2, HFIN.out.2.1⟩
end Go.Proofs.YtkefndfgkmdphaaGreat
