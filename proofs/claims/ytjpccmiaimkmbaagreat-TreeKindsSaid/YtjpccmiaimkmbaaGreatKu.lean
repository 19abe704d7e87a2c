/- TreeKinds: orders, walked. -/
import Derived.Test.YtjpccmiaimkmbaaGreatKa
import Derived.Test.YtjpccmiaimkmbaaGreatKw

namespace Go.Proofs.YtjpccmiaimkmbaaGreat
open Go.RowKit Tnr Tnt

theorem fw_set (c : Int) : FwN (setNd c) := by unfold FwN setNd; simp
theorem fw_group (c : Int) : FwN (groupNd c) := by unfold FwN groupNd; simp
theorem hset_all (c : Int) (V : World) : Calls Tryz.prog 20 #[.int .i64 c] V fun e w' => ∃ x : NV, e = .returned (.agg (encN x).toArray) ∧ NodeIn w' x ∧ FwN x.nd ∧ Below V.heap.size V w' :=
  (set6_any c V).mono fun _e _w ⟨x, h1, h2, h3, h4⟩ => ⟨x, h1, h3, by rw [h2]; exact fw_set c, h4⟩
theorem hgrp_all (c : Int) (V : World) : Calls Tryz.prog 31 #[.int .i64 c] V fun e w' => ∃ x : NV, e = .returned (.agg (encN x).toArray) ∧ NodeIn w' x ∧ FwN x.nd ∧ Below V.heap.size V w' :=
  (group6_any c V).mono fun _e _w ⟨x, h1, h2, h3, h4⟩ => ⟨x, h1, h3, by rw [h2]; exact fw_group c, h4⟩
theorem sameT_nds {xs ys : List NV} (h : nds xs = nds ys) : sameT xs ys [] [] = true := by
  unfold sameT; rw [sameX_self, decide_eq_true h]; rfl
theorem TS.tells {w : World} {q : Option Addr} {m cq : Nat} {ys : List NV} (h : TS w q m cq ys) (pn : Option Addr) (nn cn : Nat) (nm : List ByteArray) (hnn : nn = nm.length) (hnc : nn ≤ cn) (hX : SlX w pn nm) :
    Calls Tryz.prog 21 #[.agg #[.slice q m cq, .slice pn nn cn]] w fun e w' => e = .returned (.bool true) ∧ Below w.heap.size w w' :=
  tells6_any q m cq ys pn nn cn nm w h.len (by have := h.le; omega) h.sl h.few' h.kinds hnn hnc hX
theorem TS.of {w : World} {q : Option Addr} {m cq : Nat} {ys : List NV} (h : TS w q m cq ys) (z : Int) :
    Calls Tryz.prog 12 #[.agg #[.slice q m cq, .slice none 0 0], .int .i64 z] w fun e w' => ∃ q m cq zs, m = zs.length ∧ e = .returned (.agg #[.slice q m cq, .slice none 0 0]) ∧ SlN w' q zs ∧ nds zs = ofT (nds ys) z ∧ Below w.heap.size w w' :=
  (of_any q m cq ys (.slice none 0 0) z w h.len (by have := h.le; omega) h.cap h.max h.sl h.few').mono fun _e _w ⟨q, m, cq, zs, h1, h2, h3, h4, h5⟩ => ⟨q, m, cq, zs, h1, h2, (th_own h1 h3 h4).nodes, h4, h5⟩
theorem TS.rof {w : World} {q : Option Addr} {m cq : Nat} {ys : List NV} (h : TS w q m cq ys) (z : Int) :
    Calls Tryz.prog 13 #[.agg #[.slice q m cq, .slice none 0 0], .int .i64 z] w fun e w' => ∃ q m cq zs, m = zs.length ∧ e = .returned (.agg #[.slice q m cq, .slice none 0 0]) ∧ SlN w' q zs ∧ nds zs = ofT (nds ys) z ∧ Below w.heap.size w w' :=
  (rof_any q m cq ys (.slice none 0 0) z w h.len (by have := h.le; omega) h.sl h.few').mono fun _e _w ⟨q, m, cq, zs, h1, h2, h3, h4, h5⟩ => ⟨q, m, cq, zs, h1, h2, (th_own h1 h3 h4).nodes, h4, h5⟩
theorem ofT_few {L : List Nd} (h : ∀ d ∈ L, FwN d) (z : Int) : ∀ d ∈ ofT L z, FwN d := by
  unfold ofT
  split
  · intro d hd; simp at hd
  · split
    · intro d hd
      obtain ⟨x, hx, rfl⟩ := cov_mem hd
      obtain ⟨h1, h2, h3⟩ := h x hx
      exact ⟨by show (x.kids.map _).length ≤ _; rw [List.length_map]; exact h1, h2, h3⟩
    · intro d hd; simp at hd
theorem ofT_length {L : List Nd} (z : Int) : (ofT L z).length ≤ L.length := by
  unfold ofT
  split
  · exact Nat.zero_le _
  · split
    · unfold covN
      rw [List.length_map, List.length_take, List.length_drop]; omega
    · exact Nat.zero_le _
theorem few_nds' {ys : List NV} (h : ∀ y ∈ ys, FwN y.nd) : ∀ d ∈ nds ys, FwN d := fun d hd => by
  obtain ⟨y, hy, rfl⟩ := List.mem_map.1 hd
  exact h y hy
theorem two {w : World} {b : Nat} {T : TypeId} {u v : Value} (h : Bx w b T #[u, v]) : w.cell? ⟨b, 0, none⟩ = some u ∧ w.cell? ⟨b, 1, none⟩ = some v := ⟨h.cell rfl, h.cell rfl⟩
theorem joinB {w : World} {B : Nat} {q : Option Addr} {m cq : Nat} {ys : List NV} (h : TW w B q m cq ys) (hm : m ≤ 4000) (hB : B ≤ w.heap.size) (x : NV) (bb : Nat) (V : World) (hV : Below w.heap.size w V) (hx : NodeIn V x) (hf : FwN x.nd) (hb : Bx V bb 34 #[.slice q m cq, .slice none 0 0]) :
    Calls Tryz.prog 10 #[.agg (encN x).toArray, .slice (some ⟨bb, 0, none⟩) 1 1] V fun e w' => ∃ q' cq' ys', e = .returned (.agg #[.slice q' (m + 1) cq', .slice none 0 0]) ∧ TW w' B q' (m + 1) cq' ys' ∧ Below V.heap.size V w' :=
  (joinW1 x bb 1 q m cq ys B V hx hf (h.below hV) hb hm (Nat.le_trans hB hV.size)).mono fun _e _w ⟨q', m', cq', ys', h1, h2, h3, h4⟩ => by
    subst h3
    exact ⟨q', cq', ys', h1, h2, h4⟩
theorem treeW_of {B n : Nat} {v : Value} {y : World} {q : Option Addr} {m cq : Nat} (h : (Kc.treeW B n).P v y) (hv : v = .agg #[.slice q m cq, .slice none 0 0]) : m = n ∧ ∃ ys, TW y B q n cq ys := by
  obtain ⟨q', c', ys, h1, h2⟩ := h
  rw [hv] at h1
  simp only [Value.agg.injEq, Array.mk.injEq, List.cons.injEq, and_true, Value.slice.injEq] at h1
  obtain ⟨rfl, rfl, rfl⟩ := h1
  exact ⟨rfl, ys, h2⟩
theorem join_back (z : Int) (B : Nat) (V : World) (hB : B ≤ V.heap.size) : Calls Tryz.prog 10 #[.agg #[.int .u8 8, .slice none 0 0, .slice none 0 0, .int .i64 z, .int .i64 0, .int .i64 0, .int .u8 0, .int .u8 0, .bool false], .slice none 0 0] V (WPost 1 B V) :=
  joinW0 ⟨⟨8, [], [], z, 0, 0, 0, 0, false⟩, none, 0, none, 0⟩ B V ⟨.inl rfl, .inl rfl, fun _ => rfl, fun _ => rfl, Nat.le_refl _, Nat.le_refl _⟩ (by unfold FwN; simp) hB
theorem join_seq2 (b c : Nat) (q q2 : Option Addr) (m cq m2 cq2 : Nat) (ys ys2 : List NV) (B : Nat) (w : World) {T : TypeId} (h : TW w B q m cq ys) (h2 : TW w B q2 m2 cq2 ys2) (hb : Bx w b T #[.slice q m cq, .slice none 0 0, .slice q2 m2 cq2, .slice none 0 0]) (hl : m + m2 ≤ 4000) (hB : B ≤ w.heap.size) (n : Nat) (hn : n = m + m2 + 1) :
    Calls Tryz.prog 10 #[.agg #[.int .u8 3, .slice none 0 0, .slice none 0 0, .int .i64 0, .int .i64 0, .int .i64 0, .int .u8 0, .int .u8 0, .bool false], .slice (some ⟨b, 0, none⟩) 2 c] w (WPost n B w) := hn ▸
  joinW2 ⟨⟨3, [], [], 0, 0, 0, 0, 0, false⟩, none, 0, none, 0⟩ b c q q2 m cq m2 cq2 ys ys2 B w ⟨.inl rfl, .inl rfl, fun _ => rfl, fun _ => rfl, Nat.le_refl _, Nat.le_refl _⟩ (by unfold FwN; simp) h h2 hb hl hB
set_option maxHeartbeats 6400000 in
set_option maxRecDepth 100000 in
theorem orders_any (w : World) : Calls Tryz.prog 22 #[] w fun e w' => e = .returned (.bool true) ∧ Below w.heap.size w w' := by
  go_enter Tryz.func22, Tryz.ntmps22
  go_wp2
  go_loopw [1] (fun iv wr => ∃ n : Nat, n ≤ 3125 ∧ iv = .int .i64 (n : Nat) ∧ Hid (Below w.heap.size w wr)) (fun iv _ => 3125 - (intOf iv).toNat)
  case atStart => exact ⟨0, by omega, rfl, Below.refl _ _⟩
  case round =>
    obtain ⟨n, hn, rfl, HB⟩ := hrel
    rename World => wr
    by_cases hlt : n < 3125
    · have hI : ((n : Nat) : Int) < 3125 := by omega
      go_upto_region 4 with fail
      refine ord4_all n wr.drew.heap.size (by rfl) (by rfl) hlt hset_all rfl ?_ _
      intro f b q m cq y y2 hv hk hzb hb hb2 hy2 hbx hbx2
      obtain ⟨g, ys, hv', h1, h2, h3⟩ : (Kc.tree5 5).P (f 26) y := hk 26 (by decide) (by decide)
      rw [hv] at hv'
      simp only [Value.agg.injEq, Array.mk.injEq, List.cons.injEq, and_true, Value.slice.injEq] at hv'
      obtain ⟨rfl, rfl, rfl⟩ := hv'
      have hts : TS y (some ⟨g, 0, none⟩) 5 5 ys := ⟨h1.symm, by omega, h2, h3, fun h => (by cases h), Nat.le_refl _, by omega⟩
      have hts2 : TS y2 (some ⟨g, 0, none⟩) 5 5 ys := by rw [hy2]; exact hts.off2 hbx _ _ _ _ _ _
      have HBY : Hid (Below w.heap.size w y2) := HB.out.trans ((bl_trans (bl_drew wr) hb2).mono HB.out.size)
      have HTS := Lib.hid hts2
      have HBX := Lib.hid hbx2
      clear hv hk hzb hb hb2 hy2 hbx hbx2 h1 h2 h3 hts hts2
      generalize f 0 = f0, f 1 = f1, f 2 = f2, f 3 = f3, f 4 = f4, f 5 = f5, f 6 = f6, f 7 = f7, f 8 = f8, f 9 = f9, f 10 = f10, f 11 = f11, f 12 = f12, f 13 = f13, f 14 = f14, f 15 = f15, f 16 = f16, f 17 = f17, f 18 = f18, f 19 = f19, f 20 = f20, f 21 = f21, f 22 = f22, f 23 = f23, f 24 = f24, f 25 = f25
      simp only [putL, List.foldl, Act.put, sb0, sb1, sb2]
      clear f
      go_upto_region 5 with fail
      have hTd := HTS.out.below (bl_drew y2)
      have hXd := HBX.out.below (bl_drew y2)
      refine ord5_wp n b (some ⟨g, 0, none⟩) 5 5 (ofT (nds ys) ((n % 6 : Nat) : Int)) (by rfl) (by rfl) (by rfl) (two hXd).1 (two hXd).2 (fun V hV => (hTd.below hV).tells none 0 0 [] rfl (Nat.le_refl _) (slX_nil _ _)) (fun V hV => (hTd.below hV).of _) (fun V hV => (hTd.below hV).rof _) ?_ ?_ _
      · intro V q1 q2 m1 c1 m2 c2 xs zs hV hl1 hl2 hs1 hs2 hn1 hn2
        have hfx : ∀ L : List NV, nds L = ofT (nds ys) ((n % 6 : Nat) : Int) → Few L := fun L hL => few_nds hL fun d hd => by
          have := ofT_few (few_nds' HTS.out.few) _ d hd
          exact ⟨by have := this.1; omega, by have := this.2.1; omega⟩
        have hlx : m1 ≤ 1000000 := by
          have := ofT_length (L := nds ys) ((n % 6 : Nat) : Int)
          rw [hl1, ← nds_length, hn1]
          have h2 := HTS.out.len
          rw [nds_length] at this
          omega
        refine (same6_any q1 q2 none none m1 m2 c1 c2 0 0 0 0 xs zs [] [] V hl1 hl2 hlx hs1 hs2 (hfx xs hn1) (hfx zs hn2) rfl rfl (by omega) (by omega) (slX_nil _ _) (slX_nil _ _)).mono ?_
        rintro e w' ⟨rfl, h⟩
        exact ⟨by rw [sameT_nds (hn1.trans hn2.symm)], h⟩
      intro f y3 hk hb3
      have e14 : f 14 = .bool false := hk 14 (by decide) (by decide)
      rw [e14]
      have HBZ : Hid (Below w.heap.size w y3) := HBY.out.trans ((bl_trans (bl_drew y2) hb3).mono HBY.out.size)
      have HLT := Lib.hid hlt
      clear hk hb3 e14 hTd hXd hlt
      generalize f 0 = f0, f 1 = f1, f 2 = f2, f 3 = f3, f 4 = f4, f 5 = f5, f 6 = f6, f 7 = f7, f 8 = f8, f 9 = f9, f 10 = f10, f 11 = f11, f 12 = f12, f 13 = f13
      simp only [putL, List.foldl, Act.put, sb0, sb1, sb2]
      clear f
      go_wp2
      go_roundw
      case rel => exact ⟨n + 1, by have := HLT.out; omega, by go_num, HBZ.out⟩
      case measure => have := HLT.out; simp [intOf]; omega
    · have hge : (3125 : Int) ≤ ((n : Nat) : Int) := by omega
      have HB0 := HB
      clear hlt hn HB
      go_wp2
      clear hge
      go_loopw [3] (fun iv wr => ∃ n : Nat, n ≤ 256 ∧ iv = .int .i64 (n : Nat) ∧ Hid (Below w.heap.size w wr)) (fun iv _ => 256 - (intOf iv).toNat)
      case atStart => exact ⟨0, by omega, rfl, HB0.out⟩
      case round =>
        obtain ⟨n, hn, rfl, HB⟩ := hrel
        rename World => wq
        by_cases hlt : n < 256
        · have hI : ((n : Nat) : Int) < 256 := by omega
          have HLT := Lib.hid hlt
          clear hn hlt
          go_wp2_with fail
          refine (hgrp_all _ _).mono ?_
          rintro e u1 ⟨x1, rfl, hx1, hf1, hb1⟩
          have HBu1 := Lib.hid (bl_trans HB.out hb1)
          have HN1 := Lib.hid hx1
          have HF1 := Lib.hid hf1
          clear hx1 hf1 hb1
          go_wp2_with fail
          refine (hset_all _ _).mono ?_
          rintro e u2 ⟨x2, rfl, hx2, hf2, hb2⟩
          have HBu2 := Lib.hid (bl_trans HBu1.out hb2)
          have HN1_u2 := Lib.hid (HN1.out.below hb2)
          have HJ2 := Lib.hid (joinW0 x2 w.heap.size u2 hx2 hf2 HBu2.out.size)
          clear hx2 hf2 hb2
          go_wp2_with fail
          refine (HJ2.out).mono ?_
          rintro e u3 ⟨q3, m3, c3, ys3, rfl, ht3, rfl, hb3⟩
          have HBu3 := Lib.hid (bl_trans HBu2.out hb3)
          have HN1_u3 := Lib.hid (HN1_u2.out.below hb3)
          have HT3 := Lib.hid ht3
          clear ht3 hb3
          obtain ⟨u4, hu4⟩ : ∃ W, W = u3.alloc (.cells #[.slice q3 1 c3, .slice none 0 0] 34) := ⟨_, rfl⟩
          obtain ⟨b3, hb3⟩ : ∃ b, b = u3.heap.size := ⟨_, rfl⟩
          have hbau4 : Below u3.heap.size u3 u4 := by rw [hu4]; exact bl_alloc _ _
          have hbxu4 : Bx u4 b3 34 #[.slice q3 1 c3, .slice none 0 0] := by rw [hu4, hb3]; exact Bx.new u3 _ _
          have HWu4 := Lib.hid (And.intro hu4.symm hb3.symm)
          have HBu4 := Lib.hid (bl_trans HBu3.out hbau4)
          have HN1_u4 := Lib.hid (HN1_u3.out.below hbau4)
          have HT3_u4 := Lib.hid (HT3.out.below hbau4)
          have HX3 := Lib.hid hbxu4
          clear hu4 hb3 hbau4 hbxu4
          have HJ4 := Lib.hid (joinW1 x1 b3 1 q3 1 c3 ys3 w.heap.size u4 HN1_u4.out HF1.out HT3_u4.out HX3.out (by omega) HBu4.out.size)
          go_wp2_with fail
          rw [HWu4.out.2, HWu4.out.1]
          refine HJ4.out.mono ?_
          rintro e u5 ⟨q5, m5, c5, ys5, rfl, ht5, rfl, hb5⟩
          have HBu5 := Lib.hid (bl_trans HBu4.out hb5)
          have HT5 := Lib.hid ht5
          clear ht5 hb5
          obtain ⟨u6, hu6⟩ : ∃ W, W = u5.alloc (.cells #[.slice q5 2 c5, .slice none 0 0] 34) := ⟨_, rfl⟩
          obtain ⟨b4, hb4⟩ : ∃ b, b = u5.heap.size := ⟨_, rfl⟩
          have hbau6 : Below u5.heap.size u5 u6 := by rw [hu6]; exact bl_alloc _ _
          have hbxu6 : Bx u6 b4 34 #[.slice q5 2 c5, .slice none 0 0] := by rw [hu6, hb4]; exact Bx.new u5 _ _
          have HWu6 := Lib.hid (And.intro hu6.symm hb4.symm)
          have HBu6 := Lib.hid (bl_trans HBu5.out hbau6)
          have HT5_u6 := Lib.hid (HT5.out.below hbau6)
          have HX4 := Lib.hid hbxu6
          clear hu6 hb4 hbau6 hbxu6
          go_upto_region 11 with fail
          rw [HWu6.out.2, HWu6.out.1]
          have hTd := HT5_u6.out.below (bl_drew u6)
          have hXd := HX4.out.below (bl_drew u6)
          refine ord11_all n b4 w.heap.size q5 2 c5 u6.drew.heap.size (by rfl) (by rfl) (by rfl) (two hXd).1 (two hXd).2 hgrp_all (joinB hTd (by omega) (bl_trans HBu6.out (bl_drew u6)).size) rfl ?_ _
          intro f b5 qu7 mu7 cu7 y u7 hv hk hzb hbl hbl2 hy2 hbx hbx2
          obtain ⟨rfl, ysu7, htw⟩ := treeW_of (hk 6 (by decide) (by decide)) hv
          have htw2 : TW u7 w.heap.size qu7 3 cu7 ysu7 := by rw [hy2]; exact htw.off2 hbx _ _
          have hbn := bl_trans (bl_drew u6) hbl2
          have HBu7 := Lib.hid (bl_trans HBu6.out hbn)
          have HT5_u7 := Lib.hid (HT5_u6.out.below hbn)
          have HX4_u7 := Lib.hid (HX4.out.below hbn)
          have HTu7 := Lib.hid htw2
          have HXu7 := Lib.hid hbx2
          clear hv hk hzb hbl hbl2 hy2 hbx hbx2 htw htw2 hbn hTd hXd
          generalize f 0 = f0, f 1 = f1, f 2 = f2, f 3 = f3, f 4 = f4, f 5 = f5
          simp only [putL, List.foldl, Act.put, sb0, sb1, sb2]
          clear f
          have HJ8 := Lib.hid (join_back (bits BinOp.and .i64 (((n : Nat) : Int) / 16) 3) w.heap.size u7 HBu7.out.size)
          go_wp2_with fail
          refine HJ8.out.mono ?_
          rintro e u8 ⟨q8, m8, c8, ys8, rfl, ht8, rfl, hb8⟩
          have HBu8 := Lib.hid (bl_trans HBu7.out hb8)
          have HTu7_u8 := Lib.hid (HTu7.out.below hb8)
          have HXu7_u8 := Lib.hid (HXu7.out.below hb8)
          have HT8 := Lib.hid ht8
          clear ht8 hb8
          obtain ⟨u9, hu9⟩ : ∃ W, W = u8.alloc (.cells #[.slice q8 1 c8, .slice none 0 0] 34) := ⟨_, rfl⟩
          obtain ⟨b6, hb6⟩ : ∃ b, b = u8.heap.size := ⟨_, rfl⟩
          have hbau9 : Below u8.heap.size u8 u9 := by rw [hu9]; exact bl_alloc _ _
          have hbxu9 : Bx u9 b6 34 #[.slice q8 1 c8, .slice none 0 0] := by rw [hu9, hb6]; exact Bx.new u8 _ _
          have HWu9 := Lib.hid (And.intro hu9.symm hb6.symm)
          have HBu9 := Lib.hid (bl_trans HBu8.out hbau9)
          have HTu7_u9 := Lib.hid (HTu7_u8.out.below hbau9)
          have HXu7_u9 := Lib.hid (HXu7_u8.out.below hbau9)
          have HT8_u9 := Lib.hid (HT8.out.below hbau9)
          have HX6 := Lib.hid hbxu9
          clear hu9 hb6 hbau9 hbxu9
          go_upto_region 13 with fail
          rw [HWu9.out.2, HWu9.out.1]
          have hTd := HT8_u9.out.below (bl_drew u9)
          have hXd := HX6.out.below (bl_drew u9)
          refine ord13_all n b6 w.heap.size q8 1 c8 u9.drew.heap.size (by rfl) (by rfl) (by rfl) (two hXd).1 (two hXd).2 hgrp_all (joinB hTd (by omega) (bl_trans HBu9.out (bl_drew u9)).size) rfl ?_ _
          intro f b7 qua mua cua y ua hv hk hzb hbl hbl2 hy2 hbx hbx2
          obtain ⟨rfl, ysua, htw⟩ := treeW_of (hk 5 (by decide) (by decide)) hv
          have htw2 : TW ua w.heap.size qua 2 cua ysua := by rw [hy2]; exact htw.off2 hbx _ _
          have hbn := bl_trans (bl_drew u9) hbl2
          have HBua := Lib.hid (bl_trans HBu9.out hbn)
          have HTu7_ua := Lib.hid (HTu7_u9.out.below hbn)
          have HXu7_ua := Lib.hid (HXu7_u9.out.below hbn)
          have HT8_ua := Lib.hid (HT8_u9.out.below hbn)
          have HX6_ua := Lib.hid (HX6.out.below hbn)
          have HTua := Lib.hid htw2
          have HXua := Lib.hid hbx2
          clear hv hk hzb hbl hbl2 hy2 hbx hbx2 htw htw2 hbn hTd hXd
          generalize f 0 = f0, f 1 = f1, f 2 = f2, f 3 = f3, f 4 = f4
          simp only [putL, List.foldl, Act.put, sb0, sb1, sb2]
          clear f
          have hc5 := two HXu7_ua.out
          have hc7 := two HXua.out
          obtain ⟨hc50, hc51⟩ := hc5
          obtain ⟨hc70, hc71⟩ := hc7
          obtain ⟨ub, hub⟩ : ∃ W, W = ua.alloc (.cells #[.slice qu7 3 cu7, .slice none 0 0, .slice qua 2 cua, .slice none 0 0] 34) := ⟨_, rfl⟩
          obtain ⟨bb, hbb⟩ : ∃ b, b = ua.heap.size := ⟨_, rfl⟩
          have hbaub : Below ua.heap.size ua ub := by rw [hub]; exact bl_alloc _ _
          have hbxub : Bx ub bb 34 #[.slice qu7 3 cu7, .slice none 0 0, .slice qua 2 cua, .slice none 0 0] := by rw [hub, hbb]; exact Bx.new ua _ _
          have HWub := Lib.hid (And.intro hub.symm hbb.symm)
          have HBub := Lib.hid (bl_trans HBua.out hbaub)
          have HTu7_ub := Lib.hid (HTu7_ua.out.below hbaub)
          have HXu7_ub := Lib.hid (HXu7_ua.out.below hbaub)
          have HTua_ub := Lib.hid (HTua.out.below hbaub)
          have HXua_ub := Lib.hid (HXua.out.below hbaub)
          have HXB := Lib.hid hbxub
          clear hub hbb hbaub hbxub
          have HJB := Lib.hid (join_seq2 bb 2 qu7 qua 3 cu7 2 cua ysu7 ysua w.heap.size ub HTu7_ub.out HTua_ub.out HXB.out (by omega) HBub.out.size 6 rfl)
          go_wp2_with fail
          rw [HWub.out.2, HWub.out.1]
          refine HJB.out.mono ?_
          rintro e uc ⟨qc, mc, cc, ysc, rfl, htc, rfl, hbc⟩
          clear hc50 hc51 hc70 hc71
          have HBuc := Lib.hid (bl_trans HBub.out hbc)
          have HTC := Lib.hid htc
          clear htc hbc
          obtain ⟨ud, hud⟩ : ∃ W, W = uc.alloc (.cells #[.slice qc 6 cc, .slice none 0 0] 34) := ⟨_, rfl⟩
          obtain ⟨b8, hb8⟩ : ∃ b, b = uc.heap.size := ⟨_, rfl⟩
          have hbaud : Below uc.heap.size uc ud := by rw [hud]; exact bl_alloc _ _
          have hbxud : Bx ud b8 34 #[.slice qc 6 cc, .slice none 0 0] := by rw [hud, hb8]; exact Bx.new uc _ _
          have HWud := Lib.hid (And.intro hud.symm hb8.symm)
          have HBud := Lib.hid (bl_trans HBuc.out hbaud)
          have HTC_ud := Lib.hid (HTC.out.below hbaud)
          have HX8 := Lib.hid hbxud
          clear hud hb8 hbaud hbxud
          have hb8w : w.heap.size ≤ b8 := by rw [← HWud.out.2]; exact HBuc.out.size
          have HB8 := Lib.hid hb8w
          clear hb8w
          have HTS := Lib.hid HTC_ud.out.ts
          go_wp2
          rw [HWud.out.2, HWud.out.1]
          go_loopw [9] (fun iv wr => ∃ (k : Nat) (pn : Option Addr) (nn cn : Nat), k ≤ 5 ∧ iv = .int .i64 (k : Nat) ∧ Hid (Bx wr b8 34 #[.slice qc 6 cc, .slice pn nn cn]) ∧ Hid (TS wr qc 6 cc ysc) ∧ Hid (Below w.heap.size w wr)) (fun iv _ => 5 - (intOf iv).toNat)
          case atStart => exact ⟨0, none, 0, 0, by omega, rfl, HX8.out, HTS.out, HBud.out⟩
          case round =>
            obtain ⟨k, pn, nn, cn, hk, rfl, HXR, HTR, HBR⟩ := hrel
            rename World => wr
            by_cases hkl : k < 5
            · have hkI : ((k : Nat) : Int) < 5 := by omega
              have hkJ : ((k : Nat) : Int) ≤ 4 := by omega
              obtain ⟨r0, r1⟩ := two HXR.out
              have f0 := HXR.out.free 0
              have f1 := HXR.out.free 1
              have hbl : b8 < wr.heap.size := HXR.out.lt
              have HKL := Lib.hid hkl
              have HBL := Lib.hid hbl
              clear hk
              go_upto_region 19 with fail
              obtain ⟨g, hg⟩ : ∃ b, b = wr.heap.size := ⟨_, rfl⟩
              obtain ⟨v0, hv0⟩ : ∃ W, W = wr.setCell ⟨b8, 1, none⟩ (.slice (some ⟨g, 0, none⟩) k 4) := ⟨_, rfl⟩
              obtain ⟨v1, hv1⟩ : ∃ W, W = v0.alloc (.cells #[.string ⟨#[]⟩, .string ⟨#[]⟩, .string ⟨#[]⟩, .string ⟨#[]⟩] 9) := ⟨_, rfl⟩
              have hbv0 : Below v0.heap.size v0 v1 := by rw [hv1]; exact bl_alloc _ _
              have hs0 : v0.heap.size = wr.heap.size := by rw [hv0, World.size_setCell]
              have hg9 : Bx v1 g 9 #[.string ⟨#[]⟩, .string ⟨#[]⟩, .string ⟨#[]⟩, .string ⟨#[]⟩] := by rw [hv1, hg, ← hs0]; exact Bx.new _ _ _
              have hx8 : Bx v0 b8 34 #[.slice qc 6 cc, .slice (some ⟨g, 0, none⟩) k 4] := by rw [hv0]; exact HXR.out.set 1 _
              have hx9 := hx8.below hbv0
              have ht9 : TS v1 qc 6 cc ysc := TS.below (by rw [hv0]; exact HTR.out.off1 HXR.out 1 _) hbv0
              have hb0 : Below w.heap.size w v0 := by rw [hv0]; exact HBR.out.setCell (p := ⟨b8, 1, none⟩) HB8.out _
              have hb9 : Below w.heap.size w v1 := hb0.trans (hbv0.mono hb0.size)
              have hsx : SlX v1 (some ⟨g, 0, none⟩) (([⟨#[]⟩, ⟨#[]⟩, ⟨#[]⟩, ⟨#[]⟩] : List ByteArray).take k) := slX_box (l := [⟨#[]⟩, ⟨#[]⟩, ⟨#[]⟩, ⟨#[]⟩]) hg9 k
              have hlk : k = (([⟨#[]⟩, ⟨#[]⟩, ⟨#[]⟩, ⟨#[]⟩] : List ByteArray).take k).length := by rw [List.length_take]; show k = min k 4; omega
              generalize (([⟨#[]⟩, ⟨#[]⟩, ⟨#[]⟩, ⟨#[]⟩] : List ByteArray).take k) = nm at hsx hlk
              obtain ⟨ga, hga⟩ : ∃ z, z = mnL (grN (nds ysc)) := ⟨_, rfl⟩
              obtain ⟨gb, hgb⟩ : ∃ z, z = mxL (grN (nds ysc)) := ⟨_, rfl⟩
              have HG1 := Lib.hid (groups_any qc 6 cc ysc (some ⟨g, 0, none⟩) k 4 v1 ht9.len (by omega) ht9.sl)
              rw [grL_nds, ← hga, ← hgb] at HG1
              have HV1 := Lib.hid (And.intro hg.symm (And.intro hv0.symm hv1.symm))
              have HX9 := Lib.hid hx9
              have HT9 := Lib.hid ht9
              have HB9 := Lib.hid hb9
              have HSX := Lib.hid hsx
              have HLK := Lib.hid hlk
              have HGG := Lib.hid (And.intro hga hgb)
              clear hv0 hg hbv0 hs0 hb0 hx8 hv1 hx9 hg9 ht9 hb9 hsx hlk hga hgb r0 r1 f0 f1 hbl hkl
              rw [HV1.out.1, HV1.out.2.1, HV1.out.2.2]
              obtain ⟨r0, r1⟩ := two HX9.out
              go_wp2_with fail
              refine HG1.out.mono ?_
              rintro e v2 ⟨rfl, hb2⟩
              have HX2 := Lib.hid (HX9.out.below hb2)
              have HT2 := Lib.hid (HT9.out.below hb2)
              have HS2 := Lib.hid (HSX.out.below hb2)
              have HB2 := Lib.hid (bl_trans HB9.out hb2)
              have HG2 := Lib.hid (rgroups_any qc 6 cc ysc (.slice (some ⟨g, 0, none⟩) k 4) v2 HT2.out.len (by omega) HT2.out.sl)
              rw [← HGG.out.1, ← HGG.out.2] at HG2
              clear hb2 r0 r1
              obtain ⟨r0, r1⟩ := two HX2.out
              go_wp2_with fail
              refine HG2.out.mono ?_
              rintro e v3 ⟨rfl, hb3⟩
              have HX3 := Lib.hid (HX2.out.below hb3)
              have HT3 := Lib.hid (HT2.out.below hb3)
              have HB3 := Lib.hid (bl_trans HB2.out hb3)
              have HTL := Lib.hid ((HT2.out.below hb3).tells (some ⟨g, 0, none⟩) k 4 nm HLK.out (by omega) (HS2.out.below hb3))
              clear hb3 r0 r1
              obtain ⟨r0, r1⟩ := two HX3.out
              go_wp2_with fail
              refine HTL.out.mono ?_
              rintro e v4 ⟨rfl, hb4⟩
              have HX4 := Lib.hid (HX3.out.below hb4)
              have HT4 := Lib.hid (HT3.out.below hb4)
              have HB4 := Lib.hid (bl_trans HB3.out hb4)
              clear hb4 r0 r1
              go_wp2
              go_roundw
              case rel => exact ⟨k + 1, some ⟨g, 0, none⟩, k, 4, by have := HKL.out; omega, by go_num, HX4.out, HT4.out, HB4.out⟩
              case measure => have := HKL.out; simp [intOf]; omega
            · obtain rfl : k = 5 := by omega
              clear hkl hk
              go_wp2
              go_roundw
              case rel => exact ⟨n + 1, by have := HLT.out; omega, by go_num, HBR.out⟩
              case measure => have := HLT.out; simp [intOf]; omega
        · obtain rfl : n = 256 := by omega
          clear hlt hn
          go_wp2
          go_ret
          exact ⟨rfl, HB.out⟩
end Go.Proofs.YtjpccmiaimkmbaaGreat
