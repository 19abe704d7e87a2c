import Derived.Test.YtkefndfgkmdphaaGreatFi
import Derived.Test.YtkefndfgkmdphaaGreatFjr
import Derived.Test.YtkefndfgkmdphaaGreatJy
import Derived.Test.YtkefndfgkmdphaaGreatMq

namespace Go.Proofs.YtkefndfgkmdphaaGreat
set_option maxHeartbeats 12800000
set_option maxRecDepth 100000
open Go.RowKit Tnr Tnt

theorem greatN_any (p : Option Addr) (c m : Nat) (ts : List TV) (w : World) (hm : m = ts.length) (hmI : (m : Int) ≤ 9223372036854775807) (hp : SlT w p ts) (hn : ∀ t ∈ ts, ∃ nm, TNm w t nm) :
  Calls Tryz.prog 5 #[.slice p m c] w fun e w' => (∃ g : Bool, e = .returned (.bool g) ∧ (g = false → Small7 m ts)) ∧ Below w.heap.size w w' := by
 have HT := lh (treesOfN_any p c m ts w hm hmI hp hn)
 clear hm hp hn
 go_enter Tryz.func5, Tryz.ntmps5
 go_wp2_with fail
 refine (HT.out).mono ?_
 rintro e w5 ⟨⟨z, rfl, hz⟩, hb5⟩
 have HZ := lh hz
 have HB5 := lh hb5
 clear hz hb5
 go_wp2
 go_ret
 exact ⟨⟨decide (z > 3000), rfl, fun h => HZ.out (by have := of_decide_eq_false h; omega)⟩, HB5.out⟩
theorem sln_one {w : World} (x : NV) (h : NodeIn w x) (T : TypeId) : SlN (w.alloc (.cells (encN x).toArray T)) (some ⟨w.heap.size, 0, none⟩) [x] := by
 have k := sln_new (w := w) [x] (fun y hy => by rw [List.mem_singleton.1 hy]; exact h) T
 rwa [show [x].flatMap encN = encN x by simp] at k
theorem joinT_le (n : Nd) (ts : List TV) : (joinT n (treesN ts)).length = sizeT ts + 1 := by rw [joinT_len, sizeT_nds]
structure Lg (L : List Nd) : Prop where
 len : L.length ≤ 3001
 few : NdB 3000 L
theorem Lg.of {L : List Nd} (h : Lg L) (z : Int) : Lg (ofT L z) := ⟨Nat.le_trans (ofT_len L z) h.len, ndB_of h.few z⟩
theorem Lg.ys {L : List Nd} (h : Lg L) {ys : List NV} (e : nds ys = L) : ys.length ≤ 3001 ∧ Few ys := by
 refine ⟨by rw [← nds_length, e]; exact h.len, ndB_few (M := 3000) (by rw [e]; exact h.few) (by decide)⟩
theorem Lg.same {L : List Nd} (h : Lg L) (V : World) (q1 q2 : Option Addr) (m1 c1 m2 c2 : Nat) (xs zs : List NV) (h1 : m1 = xs.length) (h2 : m2 = zs.length) (s1 : SlN V q1 xs) (s2 : SlN V q2 zs) (e1 : nds xs = L) (e2 : nds zs = L) :
  Calls Tryz.prog 11 #[.agg #[.slice q1 m1 c1, .slice none 0 0], .agg #[.slice q2 m2 c2, .slice none 0 0]] V fun e w' => e = .returned (.bool true) ∧ Below V.heap.size V w' :=
 (same6_any q1 q2 none none m1 m2 c1 c2 0 0 0 0 xs zs [] [] V h1 h2 (by have := (h.ys e1).1; omega) s1 s2 (h.ys e1).2 (h.ys e2).2 rfl rfl (Nat.zero_le _) (Nat.zero_le _) (slx_nil _) (slx_nil _)).mono fun e w' ⟨k1, k2⟩ => ⟨by rw [k1, sameT_me (e1.trans e2.symm)], k2⟩
theorem Lg.sameT {L : List Nd} (h : Lg L) (V : World) (q1 q2 : Option Addr) (m1 c1 m2 c2 : Nat) (xs zs : List TV) (h1 : m1 = xs.length) (h2 : m2 = zs.length) (s1 : SlT V q1 xs) (s2 : SlT V q2 zs) (e1 : treesN xs = kidsT L) (e2 : treesN zs = kidsT L) (b1 : Bare xs) (b2 : Bare zs) :
  Calls Tryz.prog 14 #[.slice q1 m1 c1, .slice q2 m2 c2] V fun e w' => e = .returned (.bool true) ∧ Below V.heap.size V w' := by
 have hm : m1 = m2 := by
  have := congrArg List.length (e1.trans e2.symm)
  unfold treesN at this
  rw [List.length_map, List.length_map] at this
  omega
 subst hm
 have k := kids_many e1 h.few
 have hz := kids_size e1
 have hl := h.len
 exact sameTrees_any q1 q2 m1 c1 c2 xs zs V h1 h2 (by omega) s1 s2 (ndB_fewT e1 (ndB_kids h.few) (by decide)) (ndB_fewT e2 (ndB_kids h.few) (by decide)) (fun t ht => by have := sizeT_each ht; omega) b1 b2 (e1.trans e2.symm)
theorem keptNode_lit (x y : NV) (B : Nat) (w : World) (ax ay : Array Value) (ex : (encN x).toArray = ax) (ey : (encN y).toArray = ay) (h : LentN w B x y) (hI : NodeIn w x) (h3k : x.nd.kids.length ≤ 3000) (h3s : x.nd.set.length ≤ 3000) :
  Calls Tryz.prog 18 #[.agg ay, .agg ax] w fun e w' => e = .returned (.bool true) ∧ Below w.heap.size w w' := by
 subst ex ey
 exact keptNode_any x y B w h hI h3k h3s
theorem own_treeIn {w : World} {B m cq : Nat} {q : Option Addr} {ys : List NV} (h : OwnN w B (.slice q m cq) ys) (hm : m = ys.length) : m ≤ cq ∧ cq ≤ 9223372036854775807 ∧ SlN w q ys := by
 obtain ⟨p, c, e, k1, k2, k3, k4⟩ := h.form
 simp only [Value.slice.injEq] at e
 obtain ⟨rfl, rfl, rfl⟩ := e
 exact ⟨k1, k2, k4⟩
theorem ownT_slT {w : World} {B m cq : Nat} {q : Option Addr} {ts : List TV} (h : OwnT w B (.slice q m cq) ts) (hm : m = ts.length) : SlT w q ts := by
 obtain ⟨p, c, e, k1, k2, k3, k4⟩ := h.form
 simp only [Value.slice.injEq] at e
 obtain ⟨rfl, rfl, rfl⟩ := e
 exact k4
theorem treeJoins_any (xn : NV) (p : Option Addr) (n c : Nat) (ts : List TV) (nms : Nat → List ByteArray) (at_ : Int) (w : World) (hx : NodeIn w xn) (hxf : xn.nd.kids.length ≤ 9223372036854775807 ∧ xn.nd.set.length ≤ 9223372036854775807) (hn : n = ts.length) (hnI : (n : Int) ≤ 9223372036854775807) (hp : SlT w p ts) (hnm : ∀ i, i < n → TNm w (gt ts i) (nms i)) (hnil : ∀ t ∈ ts, t.na = none → t.nc = 0) :
  Calls Tryz.prog 3 #[.agg (encN xn).toArray, .slice p n c, .int .i64 at_] w fun e w' => e = .returned (.bool true) ∧ Below w.heap.size w w' := by
 obtain ⟨zx0, zx1, zx2, zx3, zx4, zx5, zx6, zx7, zx8, hlx⟩ : ∃ zx0 zx1 zx2 zx3 zx4 zx5 zx6 zx7 zx8, (encN xn).toArray = #[zx0, zx1, zx2, zx3, zx4, zx5, zx6, zx7, zx8] := ⟨_, _, _, _, _, _, _, _, _, rfl⟩
 rw [hlx]
 obtain ⟨W1, hW1⟩ : ∃ W, W = w.alloc (.cells #[zx0, zx1, zx2, zx3, zx4, zx5, zx6, zx7, zx8] 28) := ⟨_, rfl⟩
 obtain ⟨b3, hb3⟩ : ∃ b, b = w.heap.size := ⟨_, rfl⟩
 have hB1 : Below w.heap.size w W1 := by rw [hW1]; exact bl_alloc _ _
 have hX1 : Bx W1 b3 28 #[zx0, zx1, zx2, zx3, zx4, zx5, zx6, zx7, zx8] := by rw [hW1, hb3]; exact Bx.new w _ _
 have HG := lh (greatN_any p c n ts W1 hn hnI (hp.below hB1) (fun t ht => by
  obtain ⟨i, hi, rfl⟩ := List.getElem_of_mem ht
  have h := hnm i (by omega)
  rw [gt_get hi] at h
  exact ⟨nms i, h.below hB1⟩))
 have HW1 := lh (And.intro hW1 hb3)
 have HX1 := lh hX1
 have HB1 := lh hB1
 have HIN := lh (And.intro hx (And.intro hxf (And.intro hn (And.intro hp (And.intro hnm hnil)))))
 have HLX := lh hlx
 clear hx hxf hn hp hnm hnil hW1 hb3 hB1 hX1 hlx
 go_enter Tryz.func3, Tryz.ntmps3
 go_upto_region 1 with fail
 rw [← HW1.out.2, show w.alloc (.cells #[zx0, zx1, zx2, zx3, zx4, zx5, zx6, zx7, zx8] 28) = W1 from HW1.out.1.symm]
 go_wp2_with fail
 refine (HG.out).mono ?_
 rintro e w2 ⟨⟨gr, rfl, hgr⟩, hb2⟩
 have HB2 := lh hb2
 have HGR := lh hgr
 clear hb2 hgr HG
 cases gr with
 | true =>
  have HA := lh (awake_any w2)
  go_wp2_with fail
  refine (HA.out).mono ?_
  rintro e w4 ⟨rfl, hb4⟩
  have HB4 := lh (HB1.out.trans ((bl_trans HB2.out hb4).mono HB1.out.size))
  clear hb4
  go_wp2
  go_ret
  exact ⟨rfl, HB4.out⟩
 | false =>
  have HSM := lh (HGR.out rfl)
  clear HGR
  have hX2 := HX1.out.below HB2.out
  obtain ⟨kx0, kx1, kx2, kx3, kx4, kx5, kx6, kx7, kx8⟩ := nine hX2
  obtain ⟨w3, hw3⟩ : ∃ W, W = w2.alloc (.cells #[zx0, zx1, zx2, zx3, zx4, zx5, zx6, zx7, zx8] 28) := ⟨_, rfl⟩
  have hb3 : Below w2.heap.size w2 w3 := by rw [hw3]; exact bl_alloc _ _
  obtain ⟨w4, hw4⟩ : ∃ W, W = w3.alloc (.cells #[.slice (some ⟨w2.heap.size, 0, none⟩) 1 1, .slice none 0 0] 34) := ⟨_, rfl⟩
  have hb4 : Below w3.heap.size w3 w4 := by rw [hw4]; exact bl_alloc _ _
  have hT4 : Bx w4 w3.heap.size 34 #[.slice (some ⟨w2.heap.size, 0, none⟩) 1 1, .slice none 0 0] := by rw [hw4]; exact Bx.new w3 _ _
  have hs3 : SlN w3 (some ⟨w2.heap.size, 0, none⟩) [xn] := by
   have h := sln_one xn (HIN.out.1.below (HB1.out.trans (HB2.out.mono HB1.out.size))) 28
   rw [HLX.out, ← hw3] at h
   exact h
  have HG2 := lh (great1_any w3.heap.size (some ⟨w2.heap.size, 0, none⟩) 1 1 [xn] none 0 0 [] w4 (hT4.cell rfl) (hT4.cell rfl) rfl (by decide) (hs3.below hb4) (fun y hy => by rw [List.mem_singleton.1 hy]; exact HIN.out.2.1) rfl (by decide) (.inl rfl) (fun y hy => by simp at hy))
  rw [show w3.heap.size = w2.heap.size + 1 by rw [hw3, World.size_alloc]] at HG2
  have HW34 := lh (And.intro hw3 hw4)
  have HB4 := lh (bl_trans hb3 hb4)
  clear hw3 hw4 hb3 hb4 hT4 hs3 hX2
  go_wp2_with fail
  rw [← HW34.out.1, ← HW34.out.2]
  refine (HG2.out).mono ?_
  rintro e w5 ⟨⟨gr2, rfl, hgr2⟩, hb5⟩
  have HB5 := lh (bl_trans HB2.out (bl_trans HB4.out hb5))
  have HGR2 := lh hgr2
  clear hb5 hgr2 HG2 HW34 HB4 kx0 kx1 kx2 kx3 kx4 kx5 kx6 kx7 kx8
  cases gr2 with
  | true =>
   have HA := lh (awake_any w5)
   go_wp2_with fail
   refine (HA.out).mono ?_
   rintro e w6 ⟨rfl, hb6⟩
   have HB6 := lh (HB1.out.trans ((bl_trans HB5.out hb6).mono HB1.out.size))
   clear hb6
   go_wp2
   go_ret
   exact ⟨rfl, HB6.out⟩
  | false =>
   have hS6 := HGR2.out rfl
   have hxs : xn.nd.kids.length ≤ 3000 ∧ xn.nd.set.length ≤ 3000 := hS6.2.2 xn (List.mem_singleton.2 rfl)
   have HXF := lh hxs
   have HX5 := lh (HX1.out.below HB5.out)
   have HBW := lh (HB1.out.trans (HB5.out.mono HB1.out.size))
   clear hS6 hxs HGR2 HB2
   have HSL := lh (HIN.out.2.2.2.1.below HBW.out)
   have HNM := lh (fun i (hi : i < n) => (HIN.out.2.2.2.2.1 i hi).below HBW.out)
   have HNI := lh (HIN.out.1.below HBW.out)
   go_upto_region 3 with fail
   refine tj3_all p n c b3 w5.drew.heap.size 0 ts nms xn zx0 zx1 zx2 zx3 zx4 zx5 zx6 zx7 zx8 (by rfl) (by rfl) (by rfl) rfl (HX5.out.below (bl_drew w5)) (fun V hV => ?_) (fun V hV => ?_) ?_ _
   ·have hb := bl_trans (bl_drew w5) hV
    refine (lentTrees_any p c n ts nms V HIN.out.2.2.1 (HSL.out.below hb) HSM.out (fun i hi => (HNM.out i hi).below hb) HIN.out.2.2.2.2.2).mono ?_
    rintro e w' ⟨g, cap, us, rfl, h1, h2, h3, h4, h5⟩
    exact ⟨g, cap, us, rfl, h1, h2, h3, h4.down (Nat.zero_le _), h5⟩
   ·have hb := bl_trans (bl_drew w5) hV
    have h := lentNode_any xn V (HNI.out.below hb) HXF.out.1 HXF.out.2
    rw [HLX.out] at h
    refine h.mono ?_
    rintro e w' ⟨y, rfl, h1, h2⟩
    exact ⟨y, rfl, h1.down (Nat.zero_le _), h2⟩
   intro g cap b8 us yn zy0 zy1 zy2 zy3 zy4 zy5 zy6 zy7 zy8 W6 hlu hji _ hb6 hY6
   have HB56 := lh (bl_trans (bl_drew w5) hb6)
   have HJI := lh hji
   have HY6 := lh hY6
   have HX6 := lh (HX5.out.below HB56.out)
   have HLU := lh hlu
   have HB6 := lh (HBW.out.trans (HB56.out.mono HBW.out.size))
   have HIS := lh (hji.slT HIN.out.2.2.1)
   clear hlu hji hb6 hY6
   simp only [putL, List.foldl, Act.put, sb]
   obtain ⟨L, hL⟩ : ∃ L, L = joinT xn.nd (treesN ts) := ⟨_, rfl⟩
   have HLL := lh hL
   have HLG : Hid (Lg L) := by
    show Lg L
    rw [hL]
    refine ⟨by rw [joinT_le]; have := HSM.out.2.1; omega, ndB_join HXF.out.2 ?_ fun K hK => ?_⟩
    ·unfold treesN; rw [List.length_map, ← HIN.out.2.2.1]; exact HSM.out.1
    ·obtain ⟨t, ht, rfl⟩ := List.mem_map.1 hK
     exact nds_ndB (HSM.out.2.2 t ht).2.2
   have HFT : Hid (FewT ts) := fun t ht x hx => by have := (HSM.out.2.2 t ht).2.2 x hx; omega
   have HFU : Hid (FewT (us.take n)) := by
    refine ndB_fewT (M := 3000) HIS.out.2.1 (fun K hK => ?_) (by decide)
    obtain ⟨t, ht, rfl⟩ := List.mem_map.1 hK
    exact nds_ndB (HSM.out.2.2 t ht).2.2
   have HSU : Hid (sizeT (us.take n) ≤ 3000) := by
    show _ ≤ _
    rw [sizeT_nds, HIS.out.2.1, ← sizeT_nds]; exact HSM.out.2.1
   have HJN : Hid (∀ V, Below W6.heap.size W6 V → Calls Tryz.prog 9 #[.agg #[zy0, zy1, zy2, zy3, zy4, zy5, zy6, zy7, zy8], .slice (some ⟨g, 0, none⟩) n cap] V (TreeUp V L)) := fun V hV => by
    have h := join_up yn (some ⟨g, 0, none⟩) n cap (us.take n) V (HJI.out.ln.nodeIn.below hV) (by rw [HJI.out.ln.nd]; have := HXF.out.2; omega) HIS.out.2.2.symm (HIS.out.1.below hV) HFU.out (by have := HSM.out.1; omega) (by have := HSU.out; omega)
    rw [← HLU.out, HJI.out.ln.nd, HIS.out.2.1, ← HLL.out] at h
    exact h
   clear hL
   go_upto_region 4 with fail
   obtain ⟨ku0, ku1, ku2, ku3, ku4, ku5, ku6, ku7, ku8⟩ := nine HY6.out
   go_wp2_with fail
   refine (HJN.out W6 (Below.refl _ _)).mono ?_
   rintro e w7 ⟨q, m, cq, ys, hm, rfl, hown, hnd, hb7, hdis⟩
   clear ku0 ku1 ku2 ku3 ku4 ku5 ku6 ku7 ku8
   obtain ⟨W7, hW7⟩ : ∃ W, W = w7.alloc (.cells #[.slice q m cq, .slice none 0 0] 34) := ⟨_, rfl⟩
   obtain ⟨b9, hb9⟩ : ∃ b, b = w7.heap.size := ⟨_, rfl⟩
   have hb77 : Below w7.heap.size w7 W7 := by rw [hW7]; exact bl_alloc _ _
   have HB67 := lh (bl_trans hb7 hb77)
   have HO7 := lh (hown.below hb77)
   have HT7 : Hid (Bx W7 b9 34 #[.slice q m cq, .slice none 0 0]) := by show Bx _ _ _ _; rw [hW7, hb9]; exact Bx.new _ _ _
   have HND := lh (And.intro hnd (And.intro hdis hm))
   have HB9 : Hid (W6.heap.size ≤ b9) := by show _ ≤ _; rw [hb9]; exact hb7.size
   have HW7 := lh (And.intro hW7.symm hb9.symm)
   clear hW7 hb9 hb77 hb7 hown hnd hdis hm
   have HRJ : Hid (∀ V, Below W6.heap.size W6 V → Calls Tryz.prog 10 #[.agg #[zx0, zx1, zx2, zx3, zx4, zx5, zx6, zx7, zx8], .slice p n c] V (TreePost V L)) := fun V hV => by
    have hb := bl_trans HB56.out hV
    have h := rjoin_any xn p n c ts V (HNI.out.below hb) (by have := HXF.out.2; omega) (by have := HXF.out.1; omega) HIN.out.2.2.1 (HSL.out.below hb) HFT.out (by have := HSM.out.1; omega) (by have := HSM.out.2.1; omega)
    rw [HLX.out, ← HLL.out] at h
    exact h
   go_upto_region 5 with fail
   rw [HW7.out.1, HW7.out.2]
   obtain ⟨kx0, kx1, kx2, kx3, kx4, kx5, kx6, kx7, kx8⟩ := nine (HX6.out.below HB67.out)
   go_wp2_with fail
   refine (HRJ.out W7 HB67.out).mono ?_
   rintro e w8 ⟨qw, mw, cw, zs, hm, rfl, hown, hnd, hb8⟩
   clear kx0 kx1 kx2 kx3 kx4 kx5 kx6 kx7 kx8
   obtain ⟨W8, hW8⟩ : ∃ W, W = w8.alloc (.cells #[.slice qw mw cw, .slice none 0 0] 34) := ⟨_, rfl⟩
   obtain ⟨b10, hb10⟩ : ∃ b, b = w8.heap.size := ⟨_, rfl⟩
   have hb88 : Below w8.heap.size w8 W8 := by rw [hW8]; exact bl_alloc _ _
   have HB78 := lh (bl_trans hb8 hb88)
   have HO8 := lh (hown.below hb88)
   have HT8 : Hid (Bx W8 b10 34 #[.slice qw mw cw, .slice none 0 0]) := by show Bx _ _ _ _; rw [hW8, hb10]; exact Bx.new _ _ _
   have HT9 := lh (HT7.out.below HB78.out)
   have HND8 := lh (And.intro hnd hm)
   have HW8 := lh (And.intro hW8.symm hb10.symm)
   clear hW8 hb10 hb88 hb8 hown hnd hm
   have HB68 := lh (bl_trans HB67.out HB78.out)
   have HOT := lh (HO7.out.below HB78.out)
   have HOU : Hid (∀ V, Below W8.heap.size W8 V → Calls Tryz.prog 12 #[.agg #[.slice q m cq, .slice none 0 0], .int .i64 at_] V (TreeUp V (ofT L at_))) := fun V hV => by
    have k := own_treeIn (HOT.out.below hV) HND.out.2.2
    have hl := HLG.out.ys HND.out.1
    have h := of_up q m cq ys (.slice none 0 0) at_ V HND.out.2.2 (by have := HND.out.2.2; omega) k.1 k.2.1 k.2.2 hl.2
    rw [HND.out.1] at h
    exact h
   have HKU : Hid (∀ V, Below W8.heap.size W8 V → Calls Tryz.prog 15 #[.agg #[.slice q m cq, .slice none 0 0]] V (KidsUp V (kidsT L))) := fun V hV => by
    have k := own_treeIn (HOT.out.below hV) HND.out.2.2
    have hl := HLG.out.ys HND.out.1
    have h := kids_up q m cq ys (.slice none 0 0) V HND.out.2.2 (by have := HND.out.2.2; omega) k.1 k.2.1 k.2.2 hl.2
    rw [HND.out.1] at h
    exact h
   go_upto_region 6 with fail
   rw [HW8.out.1, HW8.out.2]
   refine tj6_wp b9 b10 q qw m cq mw cw at_ (ofT L at_) (kidsT L) (by rfl) (by rfl) (by rfl) (by rfl) (HT9.out.below (bl_drew W8)) (HT8.out.below (bl_drew W8)) (fun V hV => ?_) (fun V hV => ?_) (fun V hV => ?_) (fun V qa qb ma ca mb cb xs zs' hV h1 h2 h3 h4 h5 h6 => (HLG.out.of at_).same V qa qb ma ca mb cb xs zs' h1 h2 h3 h4 h5 h6) (fun V hV => ?_) (fun V hV => ?_) (fun V qa qb ma ca mb cb xs zs' hV h1 h2 h3 h4 h5 h6 h7 h8 => HLG.out.sameT V qa qb ma ca mb cb xs zs' h1 h2 h3 h4 h5 h6 h7 h8) ?_ _
   ·have hb := bl_trans (bl_drew W8) hV
    exact HLG.out.same V q qw m cq mw cw ys zs HND.out.2.2 HND8.out.2 (own_treeIn (HOT.out.below hb) HND.out.2.2).2.2 (own_treeIn (HO8.out.below hb) HND8.out.2).2.2 HND.out.1 HND8.out.1
   ·refine (HOU.out V (bl_trans (bl_drew W8) hV)).mono ?_
    rintro e w' ⟨q, m, cq, ys, h1, rfl, h2, h3, h4, _⟩
    exact ⟨q, m, cq, ys, h1, rfl, (own_treeIn h2 h1).2.2, h3, h4⟩
   ·have k := own_treeIn (HO8.out.below (bl_trans (bl_drew W8) hV)) HND8.out.2
    have hl := HLG.out.ys HND8.out.1
    have h := rof_any qw mw cw zs (.slice none 0 0) at_ V HND8.out.2 (by have := HND8.out.2; omega) k.2.2 hl.2
    rw [HND8.out.1] at h
    refine h.mono ?_
    rintro e w' ⟨q, m, cq, ys, h1, rfl, h2, h3, h4⟩
    exact ⟨q, m, cq, ys, h1, rfl, (own_treeIn h2 h1).2.2, h3, h4⟩
   ·refine (HKU.out V (bl_trans (bl_drew W8) hV)).mono ?_
    rintro e w' ⟨q, m, cq, ts, h1, rfl, h2, h3, h4, h5, _⟩
    exact ⟨q, m, cq, ts, h1, rfl, ownT_slT h2 h1, h3, h4, h5⟩
   ·have k := own_treeIn (HO8.out.below (bl_trans (bl_drew W8) hV)) HND8.out.2
    have hl := HLG.out.ys HND8.out.1
    have h := rkids_any qw mw cw zs (.slice none 0 0) V HND8.out.2 (by have := HND8.out.2; omega) k.2.2 hl.2
    rw [HND8.out.1] at h
    refine h.mono ?_
    rintro e w' ⟨q, m, cq, ts, h1, rfl, h2, h3, h4, h5⟩
    exact ⟨q, m, cq, ts, h1, rfl, ownT_slT h2 h1, h3, h4, h5⟩
   intro f W9 hk hb9
   have e21 : f 21 = .bool false := hk 21 (by decide) (by decide)
   rw [e21]
   have HB89 := lh (bl_trans (bl_drew W8) hb9)
   clear hk hb9 e21
   generalize f 0 = f0, f 1 = f1, f 2 = f2, f 3 = f3, f 4 = f4, f 5 = f5, f 6 = f6, f 7 = f7, f 8 = f8, f 9 = f9, f 10 = f10, f 11 = f11, f 12 = f12, f 13 = f13, f 14 = f14, f 15 = f15, f 16 = f16, f 17 = f17, f 18 = f18, f 19 = f19, f 20 = f20
   simp only [putL, List.foldl, Act.put, sb]
   clear f
   have HB69 := lh (bl_trans HB68.out HB89.out)
   have hnI3 : (n : Int) ≤ 3000 := by have := HSM.out.1; omega
   go_wp2
   go_loopw [11] (fun iv wr => ∃ (k : Nat), k ≤ n ∧ iv = .int .i64 (k : Nat) ∧ Hid (Below W9.heap.size W9 wr)) (fun iv _ => n - (intOf iv).toNat)
   case atStart => exact ⟨0, Nat.zero_le _, rfl, Below.refl _ _⟩
   case round =>
    obtain ⟨k, hk, rfl, HB⟩ := hrel
    rename World => wr
    by_cases hkn : k < n
    ·have hbd := bl_trans HB69.out (bl_trans HB.out (bl_drew wr))
     have hkx : k < ts.length := by rw [← HIN.out.2.2.1]; exact hkn
     obtain ⟨bp, op, rfl, t0, t1, hti⟩ := (HSL.out.below (bl_trans HB56.out hbd)).at hkx
     obtain ⟨bg, og, eg, u0', u1', hui⟩ := (HIS.out.1.below hbd).at (k := k) (by rw [HIS.out.2.2]; exact hkn)
     simp only [Option.some.injEq, Addr.mk.injEq, and_true] at eg
     obtain ⟨rfl, rfl⟩ := eg
     rw [Nat.zero_add] at u0' u1'
     have hen : nds (gt (us.take n) k).ys = nds (gt ts k).ys := gt_nds HIS.out.2.1 (by rw [HIS.out.2.2]; exact hkn) hkx
     have hlk : Lg (nds (gt ts k).ys) := ⟨by rw [nds_length]; have := (HSM.out.2.2 _ (gt_mem hkx)).2.1; omega, nds_ndB (HSM.out.2.2 _ (gt_mem hkx)).2.2⟩
     obtain ⟨t, ht⟩ : ∃ t, t = gt ts k := ⟨_, rfl⟩
     obtain ⟨u, hu⟩ : ∃ t, t = gt (us.take n) k := ⟨_, rfl⟩
     rw [← ht] at t0 t1 hti hen hlk
     rw [← hu] at u0' u1' hui hen
     obtain ⟨lt, hlt⟩ : ∃ n, n = t.ys.length := ⟨_, rfl⟩
     obtain ⟨lu, hlu⟩ : ∃ n, n = u.ys.length := ⟨_, rfl⟩
     rw [← hlt] at t0
     rw [← hlu] at u0'
     obtain ⟨M, hM⟩ : ∃ M, M = nds t.ys := ⟨_, rfl⟩
     rw [← hM] at hlk hen
     have HOA := lh (fun V (hV : Below wr.drew.heap.size wr.drew V) => of_up u.q lu u.cq u.ys (.slice u.na u.nn u.nc) at_ V hlu (by have := (hlk.ys hen).1; omega) (by have := hui.le; omega) hui.max (hui.nodes.below hV) (hlk.ys hen).2)
     rw [hen] at HOA
     have HOB := lh (fun V (hV : Below wr.drew.heap.size wr.drew V) => rof_any t.q lt t.cq t.ys (.slice t.na t.nn t.nc) at_ V hlt (by have := (hlk.ys hM.symm).1; omega) (hti.nodes.below hV) (hlk.ys hM.symm).2)
     rw [← hM] at HOB
     have HLK := lh (hlk.of at_)
     have HKN := lh hkn
     have hkI : (k : Int) < n := by omega
     clear ht hu hlt hlu hM hti hui hen hlk hkx hbd hkn
     go_wp2
     refine tj11_wp bp op g n c cap k u.q u.na t.q t.na lu u.cq u.nn u.nc lt t.cq t.nn t.nc at_ (ofT M at_) (by rfl) (by rfl) (by rfl) (by rfl) (by rfl) HKN.out u0' u1' t0 t1 (fun V hV => ?_) (fun V hV => ?_) (fun V qa qb ma ca mb cb xs zs' hV h1 h2 h3 h4 h5 h6 => HLK.out.same V qa qb ma ca mb cb xs zs' h1 h2 h3 h4 h5 h6) ?_ _
     ·refine (HOA.out V hV).mono ?_
      rintro e w' ⟨q, m, cq, ys, h1, rfl, h2, h3, h4, _⟩
      exact ⟨q, m, cq, ys, h1, rfl, (own_treeIn h2 h1).2.2, h3, h4⟩
     ·refine (HOB.out V hV).mono ?_
      rintro e w' ⟨q, m, cq, ys, h1, rfl, h2, h3, h4⟩
      exact ⟨q, m, cq, ys, h1, rfl, (own_treeIn h2 h1).2.2, h3, h4⟩
     intro f y hk2 hb
     have e13 : f 13 = .bool false := hk2 13 (by decide) (by decide)
     rw [e13]
     have HBY := lh (bl_trans HB.out (bl_trans (bl_drew wr) hb))
     clear hk2 hb e13 u0' u1' t0 t1 HOA HOB HLK
     generalize f 0 = f0, f 1 = f1, f 2 = f2, f 3 = f3, f 4 = f4, f 5 = f5, f 6 = f6, f 7 = f7, f 8 = f8, f 9 = f9, f 10 = f10, f 11 = f11, f 12 = f12
     simp only [putL, List.foldl, Act.put, sb]
     clear f
     go_wp2
     go_roundw
     case rel => exact ⟨k + 1, by have := HKN.out; omega, by go_num, HBY.out⟩
     case measure => have := HKN.out; simp [intOf]; omega
    ·have hkI : (n : Int) ≤ k := by omega
     have HB6r := lh (bl_trans HB69.out HB.out)
     have HB8r := lh (bl_trans HB89.out HB.out)
     have HBwr := lh (HB6.out.trans (HB6r.out.mono HB6.out.size))
     clear hkn HB
     go_wp2
     obtain ⟨W0, hW0⟩ : ∃ W, W = wr.drew := ⟨_, rfl⟩
     have hbr0 : Below wr.heap.size wr W0 := by rw [hW0]; exact bl_drew wr
     have HB60 := lh (bl_trans HB6r.out hbr0)
     have HB80 := lh (bl_trans HB8r.out hbr0)
     have HBW0 := lh (bl_trans HBwr.out hbr0)
     have HT0 := lh (HT9.out.below HB80.out)
     have HSV : Hid (∀ V, Below W6.heap.size W6 V → Bx V b9 34 #[.slice q m cq, .slice none 0 0] → (fun (V : World) => V.cell? ⟨b8, 0, none⟩ = some zy0 ∧ V.cell? ⟨b8, 1, none⟩ = some zy1 ∧ V.cell? ⟨b8, 2, none⟩ = some zy2 ∧ V.cell? ⟨b8, 3, none⟩ = some zy3 ∧ V.cell? ⟨b8, 4, none⟩ = some zy4 ∧ V.cell? ⟨b8, 5, none⟩ = some zy5 ∧ V.cell? ⟨b8, 6, none⟩ = some zy6 ∧ V.cell? ⟨b8, 7, none⟩ = some zy7 ∧ V.cell? ⟨b8, 8, none⟩ = some zy8 ∧ V.cell? ⟨b3, 0, none⟩ = some zx0 ∧ V.cell? ⟨b3, 1, none⟩ = some zx1 ∧ V.cell? ⟨b3, 2, none⟩ = some zx2 ∧ V.cell? ⟨b3, 3, none⟩ = some zx3 ∧ V.cell? ⟨b3, 4, none⟩ = some zx4 ∧ V.cell? ⟨b3, 5, none⟩ = some zx5 ∧ V.cell? ⟨b3, 6, none⟩ = some zx6 ∧ V.cell? ⟨b3, 7, none⟩ = some zx7 ∧ V.cell? ⟨b3, 8, none⟩ = some zx8 ∧ V.cell? ⟨b9, 0, none⟩ = some (.slice q m cq) ∧ V.cell? ⟨b9, 1, none⟩ = some (.slice none 0 0)) V) := by
      intro V hV hT
      obtain ⟨a0, a1, a2, a3, a4, a5, a6, a7, a8⟩ := nine (HY6.out.below hV)
      obtain ⟨d0, d1, d2, d3, d4, d5, d6, d7, d8⟩ := nine (HX6.out.below hV)
      exact ⟨a0, a1, a2, a3, a4, a5, a6, a7, a8, d0, d1, d2, d3, d4, d5, d6, d7, d8, hT.cell rfl, hT.cell rfl⟩
     have HKT : Hid (∀ V, Below W6.heap.size W6 V → Calls Tryz.prog 17 #[.slice (some ⟨g, 0, none⟩) n cap, .slice p n c] V fun e w' => e = .returned (.bool true) ∧ Below V.heap.size V w') := fun V hV =>
      keptTrees_any p c n ts us nms 0 g cap V HIN.out.2.2.1 (HSL.out.below (bl_trans HB56.out hV)) HSM.out (fun i hi => (HNM.out i hi).below (bl_trans HB56.out hV)) HJI.out.len HJI.out.le HJI.out.max (HJI.out.rq.below hV)
     have HKN : Hid (∀ V, Below W6.heap.size W6 V → Calls Tryz.prog 18 #[.agg #[zy0, zy1, zy2, zy3, zy4, zy5, zy6, zy7, zy8], .agg #[zx0, zx1, zx2, zx3, zx4, zx5, zx6, zx7, zx8]] V fun e w' => e = .returned (.bool true) ∧ Below V.heap.size V w') := fun V hV => keptNode_lit xn yn 0 V _ _ HLX.out HLU.out.symm (HJI.out.ln.below hV) (HNI.out.below (bl_trans HB56.out hV)) HXF.out.1 HXF.out.2
     have hS0 := HSV.out W0 HB60.out HT0.out
     have HW0 := lh hW0.symm
     clear hW0 hbr0
     refine wp_region_L (S := fun (V : World) => V.cell? ⟨b8, 0, none⟩ = some zy0 ∧ V.cell? ⟨b8, 1, none⟩ = some zy1 ∧ V.cell? ⟨b8, 2, none⟩ = some zy2 ∧ V.cell? ⟨b8, 3, none⟩ = some zy3 ∧ V.cell? ⟨b8, 4, none⟩ = some zy4 ∧ V.cell? ⟨b8, 5, none⟩ = some zy5 ∧ V.cell? ⟨b8, 6, none⟩ = some zy6 ∧ V.cell? ⟨b8, 7, none⟩ = some zy7 ∧ V.cell? ⟨b8, 8, none⟩ = some zy8 ∧ V.cell? ⟨b3, 0, none⟩ = some zx0 ∧ V.cell? ⟨b3, 1, none⟩ = some zx1 ∧ V.cell? ⟨b3, 2, none⟩ = some zx2 ∧ V.cell? ⟨b3, 3, none⟩ = some zx3 ∧ V.cell? ⟨b3, 4, none⟩ = some zx4 ∧ V.cell? ⟨b3, 5, none⟩ = some zx5 ∧ V.cell? ⟨b3, 6, none⟩ = some zx6 ∧ V.cell? ⟨b3, 7, none⟩ = some zx7 ∧ V.cell? ⟨b3, 8, none⟩ = some zx8 ∧ V.cell? ⟨b9, 0, none⟩ = some (.slice q m cq) ∧ V.cell? ⟨b9, 1, none⟩ = some (.slice none 0 0)) (S2 := fun (V : World) => V.cell? ⟨b8, 0, none⟩ = some zy0 ∧ V.cell? ⟨b8, 1, none⟩ = some zy1 ∧ V.cell? ⟨b8, 2, none⟩ = some zy2 ∧ V.cell? ⟨b8, 3, none⟩ = some zy3 ∧ V.cell? ⟨b8, 4, none⟩ = some zy4 ∧ V.cell? ⟨b8, 5, none⟩ = some zy5 ∧ V.cell? ⟨b8, 6, none⟩ = some zy6 ∧ V.cell? ⟨b8, 7, none⟩ = some zy7 ∧ V.cell? ⟨b8, 8, none⟩ = some zy8 ∧ V.cell? ⟨b3, 0, none⟩ = some zx0 ∧ V.cell? ⟨b3, 1, none⟩ = some zx1 ∧ V.cell? ⟨b3, 2, none⟩ = some zx2 ∧ V.cell? ⟨b3, 3, none⟩ = some zx3 ∧ V.cell? ⟨b3, 4, none⟩ = some zx4 ∧ V.cell? ⟨b3, 5, none⟩ = some zx5 ∧ V.cell? ⟨b3, 6, none⟩ = some zx6 ∧ V.cell? ⟨b3, 7, none⟩ = some zx7 ∧ V.cell? ⟨b3, 8, none⟩ = some zx8 ∧ V.cell? ⟨b9, 0, none⟩ = some (.slice q m cq) ∧ V.cell? ⟨b9, 1, none⟩ = some (.slice none 0 0)) 35 35 (by kernel_rfl) ?_
     rw [HW0.out]
     have hS := hS0
     have hS2 := hS0
     clear hS0
     refine tk1 0 ⟨hS, hS2⟩ ?_
     try simp only [Act.put, sb]
     refine tk1 1 ⟨hS, hS2⟩ ?_
     try simp only [Act.put, sb]
     refine aone 2 (fun K hK => ?_)
     go_simp
     refine (HKT.out W0 HB60.out).mono ?_
     rintro e v1 ⟨rfl, hbv1⟩
     have HBv1 := lh hbv1
     clear hbv1
     have hSN := HSV.out v1 (bl_trans HB60.out HBv1.out) (HT0.out.below HBv1.out)
     refine hK.out _ _ ⟨fun _ => hSN, fun _ => hSN⟩ ?_
     clear hK K hS hS2
     have hS := hSN
     have hS2 := hSN
     clear hSN
     try simp only [Act.put, sb]
     refine tk1 3 ⟨hS, hS2⟩ ?_
     try simp only [Act.put, sb]
     refine tk1 4 ⟨hS, hS2⟩ ?_
     try simp only [Act.put, sb]
     refine tk1 5 ⟨hS, hS2⟩ ?_
     try simp only [Act.put, sb]
     refine aone 6 (fun K hK => ?_)
     go_simp
     refine (HKN.out v1 (bl_trans HB60.out HBv1.out)).mono ?_
     rintro e v2 ⟨rfl, hbv2⟩
     have HBv2 := lh (bl_trans HBv1.out hbv2)
     clear hbv2
     have hSN := HSV.out v2 (bl_trans HB60.out HBv2.out) (HT0.out.below HBv2.out)
     refine hK.out _ _ ⟨fun _ => hSN, fun _ => hSN⟩ ?_
     clear hK K hS hS2
     have hS := hSN
     have hS2 := hSN
     clear hSN
     try simp only [Act.put, sb]
     refine tk1 7 ⟨hS, hS2⟩ ?_
     try simp only [Act.put, sb]
     refine tk1 8 ⟨hS, hS2⟩ ?_
     try simp only [Act.put, sb]
     refine tk1 9 ⟨hS, hS2⟩ ?_
     try simp only [Act.put, sb]
     refine tk1 10 ⟨hS, hS2⟩ ?_
     try simp only [Act.put, sb]
     refine tk1 11 ⟨hS, hS2⟩ ?_
     try simp only [Act.put, sb]
     refine tk1 13 ⟨hS, hS2⟩ ?_
     try simp only [Act.put, sb]
     refine tk1 14 ⟨hS, hS2⟩ ?_
     try simp only [Act.put, sb]
     refine tk1 17 ⟨hS, hS2⟩ ?_
     try simp only [Act.put, sb]
     refine aone 12 (fun K hK => ?_)
     go_simp
     refine (HJN.out v2 (bl_trans HB60.out HBv2.out)).mono ?_
     rintro e v3 ⟨qa, ma, ca, ya, hma, rfl, hoa, hya, hbv3, hda⟩
     have HOA := lh (And.intro hoa (And.intro hya (And.intro hda hma)))
     clear hoa hya hda hma
     have HCv3 := lh hbv3
     have HBv3 := lh (bl_trans HBv2.out hbv3)
     clear hbv3
     have hSN := HSV.out v3 (bl_trans HB60.out HBv3.out) (HT0.out.below HBv3.out)
     refine hK.out _ _ ⟨fun _ => hSN, fun _ => hSN⟩ ?_
     clear hK K hS hS2
     have hS := hSN
     have hS2 := hSN
     clear hSN
     try simp only [Act.put, sb]
     refine aone 15 (fun K hK => ?_)
     go_simp
     refine (HOU.out v3 (bl_trans HB80.out HBv3.out)).mono ?_
     rintro e v4 ⟨qb, mb, cb, yb, hmb, rfl, hob, hyb, hbv4, hdb⟩
     have HOB := lh (And.intro hob (And.intro hyb (And.intro hdb hmb)))
     clear hob hyb hdb hmb
     have HCv4 := lh hbv4
     have HBv4 := lh (bl_trans HBv3.out hbv4)
     clear hbv4
     have hSN := HSV.out v4 (bl_trans HB60.out HBv4.out) (HT0.out.below HBv4.out)
     refine hK.out _ _ ⟨fun _ => hSN, fun _ => hSN⟩ ?_
     clear hK K hS hS2
     have hS := hSN
     have hS2 := hSN
     clear hSN
     try simp only [Act.put, sb]
     refine anyL_two (i := 16) (k := 18) (o := ⟨some 90, Op.buildSlice 29 3 #[(0, .tmp 83), (1, .tmp 86), (2, .tmp 89)], 29, "law.go:69", #[⟨9, .data⟩, ⟨12, .data⟩, ⟨15, .data⟩, ⟨8, .guard⟩], some (8, true)⟩) (o' := ⟨some 92, Op.call ⟨.value (.func 15), #[.tmp 91], #[34]⟩, 29, "law.go:69", #[⟨17, .data⟩, ⟨15, .chain⟩, ⟨8, .guard⟩], some (8, true)⟩) (by kernel_rfl) rfl rfl (fun K hK => ?_) (fun K hK => ?_)
     ·skip
      go_simp
      obtain ⟨v5, hwv5⟩ : ∃ W, W = v4.alloc (.cells #[.slice q m cq, .slice none 0 0, .slice qa ma ca, .slice none 0 0, .slice qb mb cb, .slice none 0 0] 34) := ⟨_, rfl⟩
      rw [← hwv5]
      obtain ⟨bA, hbA⟩ : ∃ b, b = v4.heap.size := ⟨_, rfl⟩
      rw [← hbA]
      have hbv5 : Below v4.heap.size v4 v5 := by rw [hwv5]; exact bl_alloc _ _
      have HRA : Hid (Bx v5 bA 34 #[.slice q m cq, .slice none 0 0, .slice qa ma ca, .slice none 0 0, .slice qb mb cb, .slice none 0 0]) := by show Bx _ _ _ _; rw [hwv5, hbA]; exact Bx.new _ _ _
      have HBA := lh hbA
      clear hwv5 hbA
      have HCv5 := lh hbv5
      have HBv5 := lh (bl_trans HBv4.out hbv5)
      clear hbv5
      have hSN := HSV.out v5 (bl_trans HB60.out HBv5.out) (HT0.out.below HBv5.out)
      refine hK.out _ _ ⟨fun _ => hSN, fun _ => hSN⟩ ?_
      clear hK K hS hS2
      have hS := hSN
      have hS2 := hSN
      clear hSN
      try simp only [Act.put, sb]
      refine aone 18 (fun K hK => ?_)
      go_simp
      refine (HKU.out v5 (bl_trans HB80.out HBv5.out)).mono ?_
      rintro e v6 ⟨qk, mk, ck, tk, hmk, rfl, hok, hyk, hbk, hbv6, hdk⟩
      have HOK := lh (And.intro hok (And.intro hyk (And.intro hbk (And.intro hdk hmk))))
      clear hok hyk hbk hdk hmk
      have HCv6 := lh hbv6
      have HBv6 := lh (bl_trans HBv5.out hbv6)
      clear hbv6
      have hSN := HSV.out v6 (bl_trans HB60.out HBv6.out) (HT0.out.below HBv6.out)
      refine hK.out _ _ ⟨fun _ => hSN, fun _ => hSN⟩ ?_
      clear hK K hS hS2
      have hS := hSN
      have hS2 := hSN
      clear hSN
      try simp only [Act.put, sb]
      refine aone 19 (fun K hK => ?_)
      go_simp
      obtain ⟨v7, hwv7⟩ : ∃ W, W = v6.alloc (.cells #[.slice (some ⟨bA, 0, none⟩) 3 3, .slice qk mk ck] 29) := ⟨_, rfl⟩
      rw [← hwv7]
      obtain ⟨bO, hbO⟩ : ∃ b, b = v6.heap.size := ⟨_, rfl⟩
      rw [← hbO]
      have hbv7 : Below v6.heap.size v6 v7 := by rw [hwv7]; exact bl_alloc _ _
      have HRO : Hid (Bx v7 bO 29 #[.slice (some ⟨bA, 0, none⟩) 3 3, .slice qk mk ck]) := by show Bx _ _ _ _; rw [hwv7, hbO]; exact Bx.new _ _ _
      clear hwv7 hbO
      have HCv7 := lh hbv7
      have HBv7 := lh (bl_trans HBv6.out hbv7)
      clear hbv7
      have hSN := HSV.out v7 (bl_trans HB60.out HBv7.out) (HT0.out.below HBv7.out)
      refine hK.out _ _ ⟨fun _ => hSN, fun _ => hSN⟩ ?_
      clear hK K hS hS2
      have hS := hSN
      have hS2 := hSN
      clear hSN
      try simp only [Act.put, sb]
      have HRS7 : Hid (RsIn v7 [⟨some ⟨bA, 0, none⟩, 3, 3, [tv q cq ys, tv qa ca ya, tv qb cb yb]⟩, ⟨qk, mk, ck, tk⟩]) := by
       have hLo := HLG.out.of at_
       have l1 := HLG.out.ys HND.out.1
       have l2 := HLG.out.ys HOA.out.2.1
       have l3 := hLo.ys HOB.out.2.1
       have k1 : NdB 3000 (nds ys) := by rw [HND.out.1]; exact HLG.out.few
       have k2 : NdB 3000 (nds ya) := by rw [HOA.out.2.1]; exact HLG.out.few
       have k3 : NdB 3000 (nds yb) := by rw [HOB.out.2.1]; exact hLo.few
       have hz := kids_size HOK.out.2.1
       have hlen := HLG.out.len
       have ot := (HOT.out.below HB80.out)
       rw [HND.out.2.2] at ot
       have oa := HOA.out.1
       rw [HOA.out.2.2.2] at oa
       have ob := HOB.out.1
       rw [HOB.out.2.2.2] at ob
       refine rsIn3 (t := tv q cq ys) (u := tv qa ca ya) (v := tv qb cb yb) (B1 := W6.heap.size) (B2 := v2.heap.size) (B3 := v3.heap.size) (B4 := v5.heap.size) (ot.below HBv7.out) (oa.below (bl_trans HCv4.out (bl_trans HCv5.out (bl_trans HCv6.out HCv7.out)))) (ob.below (bl_trans HCv5.out (bl_trans HCv6.out HCv7.out))) (HOK.out.1.below HCv7.out) ?_ HOK.out.2.2.2.2 HND.out.2.1 HOA.out.2.2.1 HOB.out.2.2.1 HOK.out.2.2.2.1 ?_ ?_ ?_ HCv3.out.size ?_ (by have h := HRA.out.below (bl_trans HCv6.out HCv7.out); rw [HND.out.2.2, HOA.out.2.2.2, HOB.out.2.2.2] at h; exact h) ?_ ?_ (by omega) (kids_many HOK.out.2.1 HLG.out.few)
       ·intro t' ht'
        rcases List.mem_append.1 ht' with h | h
        ·simp only [List.mem_cons, List.not_mem_nil, or_false] at h
         rcases h with rfl | rfl | rfl <;> exact ⟨rfl, rfl, rfl⟩
        ·exact HOK.out.2.2.1 t' h
       ·intro b hb
        have := (blkT_own (t := tv q cq ys) ot hb).2
        have := HBv2.out.size
        omega
       ·intro b hb
        exact (blkT_own (t := tv qa ca ya) oa hb).2
       ·intro b hb
        have := (blkT_own (t := tv qb cb yb) ob hb).2
        have := HCv5.out.size; omega
       ·exact Nat.le_trans HCv4.out.size HCv5.out.size
       ·intro b e h
        have h1 := (World.ownsRow.lt HOK.out.1.row b (by rw [own_blk]; exact e)).1
        have h2 := HRA.out.lt
        omega
       ·intro t' ht'
        rcases List.mem_append.1 ht' with h | h
        ·simp only [List.mem_cons, List.not_mem_nil, or_false] at h
         rcases h with rfl | rfl | rfl
         ·exact ⟨Nat.le_trans l1.1 (by decide), ndB_nds k1⟩
         ·exact ⟨Nat.le_trans l2.1 (by decide), ndB_nds k2⟩
         ·exact ⟨Nat.le_trans l3.1 (by decide), ndB_nds k3⟩
        ·have h1 := sizeT_each h
         exact ⟨by omega, ndB_nds (ndB_kids HLG.out.few _ (by rw [← HOK.out.2.1]; exact List.mem_map.2 ⟨t', h, rfl⟩))⟩
      have HBLK : Hid (∀ j b, InD (dsT [⟨some ⟨bA, 0, none⟩, 3, 3, [tv q cq ys, tv qa ca ya, tv qb cb yb]⟩, ⟨qk, mk, ck, tk⟩] j) b → W6.heap.size ≤ b ∧ b ≠ b9) := by
       intro j b hb
       have h69 : W6.heap.size ≤ W0.heap.size := HB60.out.size
       have hb9 : b9 < W0.heap.size := HT0.out.lt
       have ot := (HOT.out.below HB80.out).below HBv7.out
       rw [HND.out.2.2] at ot
       have hT7 := HT0.out.below HBv7.out
       rcases rsIn_blk HRS7.out hb with ⟨r, hr, e⟩ | ⟨t, ht, e⟩
       ·simp only [List.mem_cons, List.not_mem_nil, or_false] at hr
        rcases hr with rfl | rfl
        ·have e2 : bA = b := Option.some.inj e
         have h1 := (show W0.heap.size ≤ bA by rw [HBA.out]; exact HBv4.out.size)
         omega
        ·have h1 := (World.ownsRow.lt HOK.out.1.row b (by rw [own_blk]; exact e)).1
         have h2 : W0.heap.size ≤ v5.heap.size := HBv5.out.size
         omega
       ·have ho := (HRS7.out.all t ht).1
        refine ⟨?_, fun e2 => ?_⟩
        ·simp only [List.flatMap_cons, List.flatMap_nil, List.append_nil, List.mem_append, List.mem_cons, List.not_mem_nil, or_false] at ht
         rcases ht with (rfl | rfl | rfl) | ht
         ·exact (blkT_own (t := tv q cq ys) ot e).1
         ·have oa := HOA.out.1
          rw [HOA.out.2.2.2] at oa
          have h1 := (blkT_own (t := tv qa ca ya) oa e).1
          have h2 := HBv2.out.size
          omega
         ·have ob := HOB.out.1
          rw [HOB.out.2.2.2] at ob
          have h1 := (blkT_own (t := tv qb cb yb) ob e).1
          have h2 := HBv3.out.size
          omega
         ·have h1 := (blkT_own (HOK.out.1.all t ht) e).1
          have h2 : W0.heap.size ≤ v5.heap.size := HBv5.out.size
          omega
        ·rw [e2] at e
         exact blkT_ne ho hT7 e
      have HAP := lh (apartTrees_any (some ⟨bO, 0, none⟩) 2 2 [⟨some ⟨bA, 0, none⟩, 3, 3, [tv q cq ys, tv qa ca ya, tv qb cb yb]⟩, ⟨qk, mk, ck, tk⟩] _ v7 rfl (fun k hk => by
       have hk2 : k < 2 := hk
       refine ⟨bO, 0, rfl, ?_⟩
       rcases (show k = 0 ∨ k = 1 by omega) with rfl | rfl
       ·exact HRO.out.cell rfl
       ·exact HRO.out.cell rfl) HRS7.out.ok (by decide))
      refine aone 20 (fun K hK => ?_)
      go_simp
      refine (HAP.out).mono ?_
      rintro e v8 ⟨rfl, hbut⟩
      have HB68' : Hid (Below W6.heap.size W6 v8) := (bl_trans HB60.out HBv7.out).trans ((hbut.below (B := W6.heap.size) (bl_trans HB60.out HBv7.out).size fun b ⟨j, _, hj⟩ => (HBLK.out j b hj).1))
      have HT8' : Hid (Bx v8 b9 34 #[.slice q m cq, .slice none 0 0]) := (hbut.block b9 (HT0.out.below HBv7.out).lt fun ⟨j, _, hj⟩ => (HBLK.out j b9 hj).2 rfl).trans (HT0.out.below HBv7.out)
      clear hbut HAP HBLK HRS7
      have hSN := HSV.out v8 HB68'.out HT8'.out
      refine hK.out _ _ ⟨fun _ => hSN, fun _ => hSN⟩ ?_
      clear hK K hS hS2
      have hS := hSN
      have hS2 := hSN
      clear hSN
      try simp only [Act.put, sb]
      refine tk1 21 ⟨hS, hS2⟩ ?_
      try simp only [Act.put, sb]
      refine tk1 22 ⟨hS, hS2⟩ ?_
      try simp only [Act.put, sb]
      refine tk1 23 ⟨hS, hS2⟩ ?_
      try simp only [Act.put, sb]
      refine tk1 24 ⟨hS, hS2⟩ ?_
      try simp only [Act.put, sb]
      refine aone 25 (fun K hK => ?_)
      go_simp
      refine (HKT.out v8 HB68'.out).mono ?_
      rintro e v9 ⟨rfl, hbv9⟩
      have HDv9 := lh hbv9
      clear hbv9
      have hSN := HSV.out v9 (bl_trans HB68'.out HDv9.out) (HT8'.out.below HDv9.out)
      refine hK.out _ _ ⟨fun _ => hSN, fun _ => hSN⟩ ?_
      clear hK K hS hS2
      have hS := hSN
      have hS2 := hSN
      clear hSN
      try simp only [Act.put, sb]
      refine tk1 26 ⟨hS, hS2⟩ ?_
      try simp only [Act.put, sb]
      refine tk1 27 ⟨hS, hS2⟩ ?_
      try simp only [Act.put, sb]
      refine tk1 28 ⟨hS, hS2⟩ ?_
      try simp only [Act.put, sb]
      refine tk1 29 ⟨hS, hS2⟩ ?_
      try simp only [Act.put, sb]
      refine aone 30 (fun K hK => ?_)
      go_simp
      refine (HKN.out v9 (bl_trans HB68'.out HDv9.out)).mono ?_
      rintro e va ⟨rfl, hbva⟩
      have HDva := lh (bl_trans HDv9.out hbva)
      clear hbva
      have hSN := HSV.out va (bl_trans HB68'.out HDva.out) (HT8'.out.below HDva.out)
      refine hK.out _ _ ⟨fun _ => hSN, fun _ => hSN⟩ ?_
      clear hK K hS hS2
      have hS := hSN
      have hS2 := hSN
      clear hSN
      try simp only [Act.put, sb]
      refine tk1 31 ⟨hS, hS2⟩ ?_
      try simp only [Act.put, sb]
      refine tk1 32 ⟨hS, hS2⟩ ?_
      try simp only [Act.put, sb]
      refine aone 33 (fun K hK => ?_)
      go_simp
      refine (awake_any va).mono ?_
      rintro e vb ⟨rfl, hbvb⟩
      have HDvb := lh (bl_trans HDva.out hbvb)
      clear hbvb
      have hSN := HSV.out vb (bl_trans HB68'.out HDvb.out) (HT8'.out.below HDvb.out)
      refine hK.out _ _ ⟨fun _ => hSN, fun _ => hSN⟩ ?_
      clear hK K hS hS2
      have hS := hSN
      have hS2 := hSN
      clear hSN
      try simp only [Act.put, sb]
      refine tk1 34 ⟨hS, hS2⟩ ?_
      try simp only [Act.put, sb]
      refine aone 35 (fun K hK => ?_)
      go_simp
      refine hK.out _ _ ⟨fun h => absurd h (by decide), fun h => absurd h (by decide)⟩ ?_
      clear hK K hS hS2
      try simp only [Act.put, sb]
      refine anyL_done (by kernel_rfl) (show onlyN _ .normal _ _ from ?_) _
      dsimp only [onlyN]
      have HFIN := lh (HB6.out.trans ((bl_trans HB68'.out HDvb.out).mono HB6.out.size))
      go_wp2
      go_ret
      exact ⟨rfl, HFIN.out⟩
     ·skip
      go_simp
      refine (HKU.out v4 (bl_trans HB80.out HBv4.out)).mono ?_
      rintro e v5 ⟨qk, mk, ck, tk, hmk, rfl, hok, hyk, hbk, hbv5, hdk⟩
      have HOK := lh (And.intro hok (And.intro hyk (And.intro hbk (And.intro hdk hmk))))
      clear hok hyk hbk hdk hmk
      have HCv5 := lh hbv5
      have HBv5 := lh (bl_trans HBv4.out hbv5)
      clear hbv5
      have hSN := HSV.out v5 (bl_trans HB60.out HBv5.out) (HT0.out.below HBv5.out)
      refine hK.out _ _ ⟨fun _ => hSN, fun _ => hSN⟩ ?_
      clear hK K hS hS2
      have hS := hSN
      have hS2 := hSN
      clear hSN
      try simp only [Act.put, sb]
      refine aone 16 (fun K hK => ?_)
      go_simp
      obtain ⟨v6, hwv6⟩ : ∃ W, W = v5.alloc (.cells #[.slice q m cq, .slice none 0 0, .slice qa ma ca, .slice none 0 0, .slice qb mb cb, .slice none 0 0] 34) := ⟨_, rfl⟩
      rw [← hwv6]
      obtain ⟨bA, hbA⟩ : ∃ b, b = v5.heap.size := ⟨_, rfl⟩
      rw [← hbA]
      have hbv6 : Below v5.heap.size v5 v6 := by rw [hwv6]; exact bl_alloc _ _
      have HRA : Hid (Bx v6 bA 34 #[.slice q m cq, .slice none 0 0, .slice qa ma ca, .slice none 0 0, .slice qb mb cb, .slice none 0 0]) := by show Bx _ _ _ _; rw [hwv6, hbA]; exact Bx.new _ _ _
      have HBA := lh hbA
      clear hwv6 hbA
      have HCv6 := lh hbv6
      have HBv6 := lh (bl_trans HBv5.out hbv6)
      clear hbv6
      have hSN := HSV.out v6 (bl_trans HB60.out HBv6.out) (HT0.out.below HBv6.out)
      refine hK.out _ _ ⟨fun _ => hSN, fun _ => hSN⟩ ?_
      clear hK K hS hS2
      have hS := hSN
      have hS2 := hSN
      clear hSN
      try simp only [Act.put, sb]
      refine aone 19 (fun K hK => ?_)
      go_simp
      obtain ⟨v7, hwv7⟩ : ∃ W, W = v6.alloc (.cells #[.slice (some ⟨bA, 0, none⟩) 3 3, .slice qk mk ck] 29) := ⟨_, rfl⟩
      rw [← hwv7]
      obtain ⟨bO, hbO⟩ : ∃ b, b = v6.heap.size := ⟨_, rfl⟩
      rw [← hbO]
      have hbv7 : Below v6.heap.size v6 v7 := by rw [hwv7]; exact bl_alloc _ _
      have HRO : Hid (Bx v7 bO 29 #[.slice (some ⟨bA, 0, none⟩) 3 3, .slice qk mk ck]) := by show Bx _ _ _ _; rw [hwv7, hbO]; exact Bx.new _ _ _
      clear hwv7 hbO
      have HCv7 := lh hbv7
      have HBv7 := lh (bl_trans HBv6.out hbv7)
      clear hbv7
      have hSN := HSV.out v7 (bl_trans HB60.out HBv7.out) (HT0.out.below HBv7.out)
      refine hK.out _ _ ⟨fun _ => hSN, fun _ => hSN⟩ ?_
      clear hK K hS hS2
      have hS := hSN
      have hS2 := hSN
      clear hSN
      try simp only [Act.put, sb]
      have HRS7 : Hid (RsIn v7 [⟨some ⟨bA, 0, none⟩, 3, 3, [tv q cq ys, tv qa ca ya, tv qb cb yb]⟩, ⟨qk, mk, ck, tk⟩]) := by
       have hLo := HLG.out.of at_
       have l1 := HLG.out.ys HND.out.1
       have l2 := HLG.out.ys HOA.out.2.1
       have l3 := hLo.ys HOB.out.2.1
       have k1 : NdB 3000 (nds ys) := by rw [HND.out.1]; exact HLG.out.few
       have k2 : NdB 3000 (nds ya) := by rw [HOA.out.2.1]; exact HLG.out.few
       have k3 : NdB 3000 (nds yb) := by rw [HOB.out.2.1]; exact hLo.few
       have hz := kids_size HOK.out.2.1
       have hlen := HLG.out.len
       have ot := (HOT.out.below HB80.out)
       rw [HND.out.2.2] at ot
       have oa := HOA.out.1
       rw [HOA.out.2.2.2] at oa
       have ob := HOB.out.1
       rw [HOB.out.2.2.2] at ob
       refine rsIn3 (t := tv q cq ys) (u := tv qa ca ya) (v := tv qb cb yb) (B1 := W6.heap.size) (B2 := v2.heap.size) (B3 := v3.heap.size) (B4 := v4.heap.size) (ot.below HBv7.out) (oa.below (bl_trans HCv4.out (bl_trans HCv5.out (bl_trans HCv6.out HCv7.out)))) (ob.below (bl_trans HCv5.out (bl_trans HCv6.out HCv7.out))) (HOK.out.1.below (bl_trans HCv6.out HCv7.out)) ?_ HOK.out.2.2.2.2 HND.out.2.1 HOA.out.2.2.1 HOB.out.2.2.1 HOK.out.2.2.2.1 ?_ ?_ ?_ HCv3.out.size ?_ (by have h := HRA.out.below HCv7.out; rw [HND.out.2.2, HOA.out.2.2.2, HOB.out.2.2.2] at h; exact h) ?_ ?_ (by omega) (kids_many HOK.out.2.1 HLG.out.few)
       ·intro t' ht'
        rcases List.mem_append.1 ht' with h | h
        ·simp only [List.mem_cons, List.not_mem_nil, or_false] at h
         rcases h with rfl | rfl | rfl <;> exact ⟨rfl, rfl, rfl⟩
        ·exact HOK.out.2.2.1 t' h
       ·intro b hb
        have := (blkT_own (t := tv q cq ys) ot hb).2
        have := HBv2.out.size
        omega
       ·intro b hb
        exact (blkT_own (t := tv qa ca ya) oa hb).2
       ·intro b hb
        have := (blkT_own (t := tv qb cb yb) ob hb).2
        exact this
       ·exact HCv4.out.size
       ·intro b e h
        have h1 := (World.ownsRow.lt HOK.out.1.row b (by rw [own_blk]; exact e)).2
        have h2 := HBA.out
        omega
       ·intro t' ht'
        rcases List.mem_append.1 ht' with h | h
        ·simp only [List.mem_cons, List.not_mem_nil, or_false] at h
         rcases h with rfl | rfl | rfl
         ·exact ⟨Nat.le_trans l1.1 (by decide), ndB_nds k1⟩
         ·exact ⟨Nat.le_trans l2.1 (by decide), ndB_nds k2⟩
         ·exact ⟨Nat.le_trans l3.1 (by decide), ndB_nds k3⟩
        ·have h1 := sizeT_each h
         exact ⟨by omega, ndB_nds (ndB_kids HLG.out.few _ (by rw [← HOK.out.2.1]; exact List.mem_map.2 ⟨t', h, rfl⟩))⟩
      have HBLK : Hid (∀ j b, InD (dsT [⟨some ⟨bA, 0, none⟩, 3, 3, [tv q cq ys, tv qa ca ya, tv qb cb yb]⟩, ⟨qk, mk, ck, tk⟩] j) b → W6.heap.size ≤ b ∧ b ≠ b9) := by
       intro j b hb
       have h69 : W6.heap.size ≤ W0.heap.size := HB60.out.size
       have hb9 : b9 < W0.heap.size := HT0.out.lt
       have ot := (HOT.out.below HB80.out).below HBv7.out
       rw [HND.out.2.2] at ot
       have hT7 := HT0.out.below HBv7.out
       rcases rsIn_blk HRS7.out hb with ⟨r, hr, e⟩ | ⟨t, ht, e⟩
       ·simp only [List.mem_cons, List.not_mem_nil, or_false] at hr
        rcases hr with rfl | rfl
        ·have e2 : bA = b := Option.some.inj e
         have h1 := (show W0.heap.size ≤ bA by rw [HBA.out]; exact HBv5.out.size)
         omega
        ·have h1 := (World.ownsRow.lt HOK.out.1.row b (by rw [own_blk]; exact e)).1
         have h2 : W0.heap.size ≤ v4.heap.size := HBv4.out.size
         omega
       ·have ho := (HRS7.out.all t ht).1
        refine ⟨?_, fun e2 => ?_⟩
        ·simp only [List.flatMap_cons, List.flatMap_nil, List.append_nil, List.mem_append, List.mem_cons, List.not_mem_nil, or_false] at ht
         rcases ht with (rfl | rfl | rfl) | ht
         ·exact (blkT_own (t := tv q cq ys) ot e).1
         ·have oa := HOA.out.1
          rw [HOA.out.2.2.2] at oa
          have h1 := (blkT_own (t := tv qa ca ya) oa e).1
          have h2 := HBv2.out.size
          omega
         ·have ob := HOB.out.1
          rw [HOB.out.2.2.2] at ob
          have h1 := (blkT_own (t := tv qb cb yb) ob e).1
          have h2 := HBv3.out.size
          omega
         ·have h1 := (blkT_own (HOK.out.1.all t ht) e).1
          have h2 : W0.heap.size ≤ v4.heap.size := HBv4.out.size
          omega
        ·rw [e2] at e
         exact blkT_ne ho hT7 e
      have HAP := lh (apartTrees_any (some ⟨bO, 0, none⟩) 2 2 [⟨some ⟨bA, 0, none⟩, 3, 3, [tv q cq ys, tv qa ca ya, tv qb cb yb]⟩, ⟨qk, mk, ck, tk⟩] _ v7 rfl (fun k hk => by
       have hk2 : k < 2 := hk
       refine ⟨bO, 0, rfl, ?_⟩
       rcases (show k = 0 ∨ k = 1 by omega) with rfl | rfl
       ·exact HRO.out.cell rfl
       ·exact HRO.out.cell rfl) HRS7.out.ok (by decide))
      refine aone 20 (fun K hK => ?_)
      go_simp
      refine (HAP.out).mono ?_
      rintro e v8 ⟨rfl, hbut⟩
      have HB68' : Hid (Below W6.heap.size W6 v8) := (bl_trans HB60.out HBv7.out).trans ((hbut.below (B := W6.heap.size) (bl_trans HB60.out HBv7.out).size fun b ⟨j, _, hj⟩ => (HBLK.out j b hj).1))
      have HT8' : Hid (Bx v8 b9 34 #[.slice q m cq, .slice none 0 0]) := (hbut.block b9 (HT0.out.below HBv7.out).lt fun ⟨j, _, hj⟩ => (HBLK.out j b9 hj).2 rfl).trans (HT0.out.below HBv7.out)
      clear hbut HAP HBLK HRS7
      have hSN := HSV.out v8 HB68'.out HT8'.out
      refine hK.out _ _ ⟨fun _ => hSN, fun _ => hSN⟩ ?_
      clear hK K hS hS2
      have hS := hSN
      have hS2 := hSN
      clear hSN
      try simp only [Act.put, sb]
      refine tk1 21 ⟨hS, hS2⟩ ?_
      try simp only [Act.put, sb]
      refine tk1 22 ⟨hS, hS2⟩ ?_
      try simp only [Act.put, sb]
      refine tk1 23 ⟨hS, hS2⟩ ?_
      try simp only [Act.put, sb]
      refine tk1 24 ⟨hS, hS2⟩ ?_
      try simp only [Act.put, sb]
      refine aone 25 (fun K hK => ?_)
      go_simp
      refine (HKT.out v8 HB68'.out).mono ?_
      rintro e v9 ⟨rfl, hbv9⟩
      have HDv9 := lh hbv9
      clear hbv9
      have hSN := HSV.out v9 (bl_trans HB68'.out HDv9.out) (HT8'.out.below HDv9.out)
      refine hK.out _ _ ⟨fun _ => hSN, fun _ => hSN⟩ ?_
      clear hK K hS hS2
      have hS := hSN
      have hS2 := hSN
      clear hSN
      try simp only [Act.put, sb]
      refine tk1 26 ⟨hS, hS2⟩ ?_
      try simp only [Act.put, sb]
      refine tk1 27 ⟨hS, hS2⟩ ?_
      try simp only [Act.put, sb]
      refine tk1 28 ⟨hS, hS2⟩ ?_
      try simp only [Act.put, sb]
      refine tk1 29 ⟨hS, hS2⟩ ?_
      try simp only [Act.put, sb]
      refine aone 30 (fun K hK => ?_)
      go_simp
      refine (HKN.out v9 (bl_trans HB68'.out HDv9.out)).mono ?_
      rintro e va ⟨rfl, hbva⟩
      have HDva := lh (bl_trans HDv9.out hbva)
      clear hbva
      have hSN := HSV.out va (bl_trans HB68'.out HDva.out) (HT8'.out.below HDva.out)
      refine hK.out _ _ ⟨fun _ => hSN, fun _ => hSN⟩ ?_
      clear hK K hS hS2
      have hS := hSN
      have hS2 := hSN
      clear hSN
      try simp only [Act.put, sb]
      refine tk1 31 ⟨hS, hS2⟩ ?_
      try simp only [Act.put, sb]
      refine tk1 32 ⟨hS, hS2⟩ ?_
      try simp only [Act.put, sb]
      refine aone 33 (fun K hK => ?_)
      go_simp
      refine (awake_any va).mono ?_
      rintro e vb ⟨rfl, hbvb⟩
      have HDvb := lh (bl_trans HDva.out hbvb)
      clear hbvb
      have hSN := HSV.out vb (bl_trans HB68'.out HDvb.out) (HT8'.out.below HDvb.out)
      refine hK.out _ _ ⟨fun _ => hSN, fun _ => hSN⟩ ?_
      clear hK K hS hS2
      have hS := hSN
      have hS2 := hSN
      clear hSN
      try simp only [Act.put, sb]
      refine tk1 34 ⟨hS, hS2⟩ ?_
      try simp only [Act.put, sb]
      refine aone 35 (fun K hK => ?_)
      go_simp
      refine hK.out _ _ ⟨fun h => absurd h (by decide), fun h => absurd h (by decide)⟩ ?_
      clear hK K hS hS2
      try simp only [Act.put, sb]
      refine anyL_done (by kernel_rfl) (show onlyN _ .normal _ _ from ?_) _
      dsimp only [onlyN]
      have HFIN := lh (HB6.out.trans ((bl_trans HB68'.out HDvb.out).mono HB6.out.size))
      go_wp2
      go_ret
      exact ⟨rfl, HFIN.out⟩
end Go.Proofs.YtkefndfgkmdphaaGreat
