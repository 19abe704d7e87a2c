import Derived.Test.YtkefndfgkmdphaaGreatFi
import Derived.Test.YtkefndfgkmdphaaGreatLi

namespace Go.Proofs.YtkefndfgkmdphaaGreat
set_option maxHeartbeats 3200000
set_option maxRecDepth 100000
open Go.RowKit Tnr Tnt

def joinA : List (List Nd) → List Nd → List Int → List Nd × List Int
 | [], a, l => (a, l)
 | k :: ks, a, l => if k.length = 0 then joinA ks a l else joinA ks (a ++ k.map (mv (a.length : Int))) (l ++ [((a.length + k.length : Nat) : Int) - 1])
def joinT (n : Nd) (ks : List (List Nd)) : List Nd := (joinA ks [] []).1 ++ [{ n with kids := (joinA ks [] []).2 }]
def sizeT (ts : List TV) : Nat := (ts.map fun t => t.ys.length).sum
theorem sizeT_cons (t : TV) (ts : List TV) : sizeT (t :: ts) = t.ys.length + sizeT ts := by simp [sizeT]
theorem sizeT_drop {ts : List TV} {k : Nat} (h : k < ts.length) : sizeT (ts.drop k) = (gt ts k).ys.length + sizeT (ts.drop (k + 1)) := by rw [drop_gt h, sizeT_cons]
theorem treesN_drop {ts : List TV} {k : Nat} (h : k < ts.length) : (treesN ts).drop k = nds (gt ts k).ys :: (treesN ts).drop (k + 1) := by
 unfold treesN
 rw [← List.map_drop, drop_gt h, List.map_cons, List.map_drop]
def FewT (ts : List TV) : Prop := ∀ t ∈ ts, Few t.ys
theorem row_far {w : World} {B n z b : Nat} {T : TypeId} {v : Value} {xs : List Value} (h : w.ownsRow B T z v n xs) (hb : b < B) (i : Nat) (u : Value) : (w.setCell ⟨b, i, none⟩ u).ownsRow B T z v n xs :=
 ownsRow_setCell_other (a := ⟨b, i, none⟩) h (fun e => by have := (h.lt b e).1; omega) u
theorem OwnN.far {w : World} {B b : Nat} {v : Value} {xs : List NV} (h : OwnN w B v xs) (hb : b < B) (i : Nat) (u : Value) : OwnN (w.setCell ⟨b, i, none⟩ u) B v xs :=
 ⟨row_far h.row hb i u, fun x hx => row_far (h.set x hx) hb i u, fun x hx => row_far (h.kids x hx) hb i u⟩
theorem ownN_join {w w' : World} {B n m : Nat} {v v' : Value} {xs ys : List NV} (h : OwnN w B v xs) (hn : n = xs.length) (hy : ∀ y ∈ ys, OwnR w B (.slice y.ps y.nd.set.length y.cs) y.nd.set ∧ OwnZ w B (.slice y.pk y.nd.kids.length y.ck) y.nd.kids) (hm : m = ys.length)
  (hown : w'.ownsRow B 28 9 v' (n + m) (xs.flatMap encN ++ ys.flatMap encN)) (hg : w.grownBy w' v.ownBlock) : OwnN w' B v' (xs ++ ys) := by
 have ne : ∀ {T' : TypeId} {z' n' : Nat} {v' : Value} {xs' : List Value}, 28 ≠ T' → w.ownsRow B T' z' v' n' xs' → w'.ownsRow B T' z' v' n' xs' := fun {T' z' n' v' xs'} hT hr => by
  refine World.ownsRow.kept hr hg ?_
  rcases h.row.2 with ⟨rfl, _⟩ | ⟨g, cap, cur, rfl, _, hh, _⟩
  ·rcases hv : v'.ownBlock with _ | g2
   ·exact .inl rfl
   ·exact .inr (by simp [Value.ownBlock])
  ·exact .inr (row_ne hr hh hT)
 refine ⟨?_, fun y hy' => ?_, fun y hy' => ?_⟩
 ·rw [List.length_append, ← hn, ← hm, List.flatMap_append]; exact hown
 ·rcases List.mem_append.1 hy' with h1 | h1
  ·exact ne (by decide) (h.set y h1)
  ·exact ne (by decide) (hy y h1).1
 ·rcases List.mem_append.1 hy' with h1 | h1
  ·exact ne (by decide) (h.kids y h1)
  ·exact ne (by decide) (hy y h1).2

theorem join_up (x : NV) (p : Option Addr) (m c : Nat) (ts : List TV) (w : World) (hx : NodeIn w x) (hxs : x.nd.set.length ≤ 1000000) (hm : m = ts.length) (hp : SlT w p ts) (hf : FewT ts) (hmm : m ≤ 1000000) (hsz : sizeT ts ≤ 1000000) :
  Calls Tryz.prog 9 #[.agg (encN x).toArray, .slice p m c] w (TreeUp w (joinT x.nd (treesN ts))) := by
 obtain ⟨i0, hinf, hz0, hz1, hz2⟩ := info_parts info_node
 obtain ⟨j0, jinf, jz0, jz1, jz2⟩ := info_parts info_intz
 obtain ⟨ls, hls⟩ : ∃ n, n = x.nd.set.length := ⟨_, rfl⟩
 obtain ⟨lk, hlk⟩ : ∃ n, n = x.nd.kids.length := ⟨_, rfl⟩
 have hen : (encN x).toArray = #[.int .u8 x.nd.kind, .slice x.ps ls x.cs, .slice x.pk lk x.ck, .int .i64 x.nd.group, .int .i64 x.nd.mn, .int .i64 x.nd.mx, .int .u8 x.nd.mode, .int .u8 x.nd.spot, .bool x.nd.neg] := by rw [hls, hlk]; rfl
 rw [hen]
 obtain ⟨b0, hb0⟩ : ∃ b, b = w.heap.size := ⟨_, rfl⟩
 obtain ⟨W2, hW2⟩ : ∃ W, W = (w.alloc (.cells #[.int .u8 x.nd.kind, .slice x.ps ls x.cs, .slice x.pk lk x.ck, .int .i64 x.nd.group, .int .i64 x.nd.mn, .int .i64 x.nd.mx, .int .u8 x.nd.mode, .int .u8 x.nd.spot, .bool x.nd.neg] 28)).alloc (.cells #[.slice none 0 0, .slice none 0 0] 34) := ⟨_, rfl⟩
 have hb2 : Below w.heap.size w W2 := by rw [hW2]; exact bl_trans (bl_alloc _ _) (bl_alloc _ _)
 have bN : Bx W2 b0 28 #[.int .u8 x.nd.kind, .slice x.ps ls x.cs, .slice x.pk lk x.ck, .int .i64 x.nd.group, .int .i64 x.nd.mn, .int .i64 x.nd.mx, .int .u8 x.nd.mode, .int .u8 x.nd.spot, .bool x.nd.neg] := by
  rw [hW2, hb0]; exact (Bx.new w _ _).below (bl_alloc _ _)
 have bR : Bx W2 (b0 + 1) 34 #[.slice none 0 0, .slice none 0 0] := by
  have h := Bx.new (w.alloc (.cells #[.int .u8 x.nd.kind, .slice x.ps ls x.cs, .slice x.pk lk x.ck, .int .i64 x.nd.group, .int .i64 x.nd.mn, .int .i64 x.nd.mx, .int .u8 x.nd.mode, .int .u8 x.nd.spot, .bool x.nd.neg] 28)) 34 #[.slice none 0 0, .slice none 0 0]
  rw [World.size_alloc, ← hb0] at h; rw [hW2]; exact h
 have HB2 := lh hb2
 have HW2 := lh hW2
 have HBX := lh (And.intro bN bR)
 have HB0 := lh hb0
 have HS2 : Hid (W2.heap.size = b0 + 1 + 1) := by show _ = _; rw [hW2, hb0]; simp
 have HP := lh (hp.below hb2)
 have HF := lh hf
 have HM := lh hm
 have HSZ := lh hsz
 have HXI := lh (hx.below hb2)
 have HL := lh (And.intro hls (And.intro hlk hxs))
 have hmI : (m : Int) ≤ 1000000 := by omega
 clear hp hf hm hsz hx hb2 bN bR hW2 hb0 hls hlk hxs hen
 go_enter Tryz.func9, Tryz.ntmps9
 go_wp2
 rw [← HW2.out, ← HB0.out]
 go_loopw [5, 6, 11] (fun av lv iv wr => ∃ (k na nl : Nat) (q : Option Addr) (cq : Nat) (ys : List NV) (r : Option Addr) (cr : Nat) (L : List Int), k ≤ m ∧ na ≤ 1000000 ∧ nl ≤ k ∧ av = .slice q na cq ∧ lv = .slice r nl cr ∧ iv = .int .i64 (k : Nat) ∧ Hid (na = ys.length ∧ nl = L.length ∧ na + sizeT (ts.drop k) ≤ 1000000) ∧ Hid (OwnN wr W2.heap.size (.slice q na cq) ys) ∧ Hid (OwnZ wr W2.heap.size (.slice r nl cr) L) ∧ Hid (joinA ((treesN ts).drop k) (nds ys) L = joinA (treesN ts) [] []) ∧ Hid (∀ g, (Value.slice r nl cr).ownBlock = some g → ∀ y ∈ ys, (Value.slice y.pk y.nd.kids.length y.ck).ownBlock ≠ some g) ∧ Hid (Below W2.heap.size W2 wr) ∧ Hid (DisN ys)) (fun _ _ iv _ => m - (intOf iv).toNat)
 case atStart => exact ⟨0, 0, 0, none, 0, [], none, 0, [], Nat.zero_le _, by omega, Nat.le_refl _, rfl, rfl, rfl, ⟨rfl, rfl, by have := HSZ.out; simp only [List.drop_zero]; omega⟩, ownN_nil _ _, ownZ_nil _ _, rfl, fun g e => by simp [Value.ownBlock] at e, Below.refl _ _, List.Pairwise.nil⟩
 case round =>
  obtain ⟨k, na, nl, q, cq, ys, r, cr, L, hk, hna, hnl, rfl, rfl, rfl, HLN, HO, HZ, HJ, HAP, HB, HDS⟩ := hrel
  rename World => wr
  by_cases hkm : k < m
  ·have hkx : k < ts.length := by have := HM.out; omega
   obtain ⟨b, o, rfl, ct0, ct1, hti⟩ := (HP.out.below HB.out).at hkx
   have hkI : (k : Int) < m := by omega
   obtain ⟨t, ht⟩ : ∃ t, t = gt ts k := ⟨_, rfl⟩
   have htf : Few t.ys := by rw [ht]; exact HF.out _ (gt_mem hkx)
   rw [← ht] at ct0 ct1 hti
   obtain ⟨ly, hly⟩ : ∃ n, n = t.ys.length := ⟨_, rfl⟩
   rw [← hly] at ct0
   have hsz2 : na + ly ≤ 1000000 := by
    have := HLN.out.2.2
    rw [sizeT_drop hkx, ← ht] at this; omega
   have HTI := lh hti
   have HT := lh (And.intro ht (And.intro hly (And.intro htf (And.intro hkx hkm))))
   by_cases h0 : ly = 0
   ·have hq0 : ((ly : Int) == 0) = true := by rw [h0]; rfl
    have HL0 := lh h0
    clear hti ht hly htf hkx hkm h0
    have HJ2 : Hid (joinA ((treesN ts).drop (k + 1)) (nds ys) L = joinA (treesN ts) [] []) := by
     show _ = _
     rw [← HJ.out, treesN_drop HT.out.2.2.2.1, ← HT.out.1]
     rw [show joinA (nds t.ys :: (treesN ts).drop (k + 1)) (nds ys) L = if (nds t.ys).length = 0 then joinA ((treesN ts).drop (k + 1)) (nds ys) L else _ from rfl, if_pos (by rw [nds_length, ← HT.out.2.1]; exact HL0.out)]
    have HS5 : Hid (na + sizeT (ts.drop (k + 1)) ≤ 1000000) := by
     show _ ≤ _
     have := HLN.out.2.2
     rw [sizeT_drop HT.out.2.2.2.1] at this; omega
    have hbl := bl_alloc wr (.cells #[.slice t.q ly t.cq, .slice t.na t.nn t.nc] 34)
    have HO5 := lh (HO.out.below hbl)
    have HZ5 := lh (ownZ_below HZ.out hbl)
    have HB5 := lh (HB.out.trans (hbl.mono HB.out.size))
    clear hbl
    go_wp2
    go_roundw
    case rel => exact ⟨k + 1, na, nl, q, cq, ys, r, cr, L, by have := HT.out.2.2.2.2; omega, hna, by omega, rfl, rfl, by go_num, ⟨HLN.out.1, HLN.out.2.1, HS5.out⟩, HO5.out, HZ5.out, HJ2.out, HAP.out, HB5.out, HDS.out⟩
    case measure => have := HT.out.2.2.2.2; simp [intOf]; omega
   ·have hq0 : ((ly : Int) == 0) = false := by rw [beq_eq_false_iff_ne]; omega
    have HL0 := lh h0
    obtain ⟨wa, hwa⟩ : ∃ X, X = wr.alloc (.cells #[.slice t.q ly t.cq, .slice t.na t.nn t.nc] 34) := ⟨_, rfl⟩
    have hbl : Below wr.heap.size wr wa := by rw [hwa]; exact bl_alloc _ _
    have HMV := lh (moved_up t.q t.cq ly t.ys (na : Int) wa hly (hti.nodes.below hbl) (by omega) htf)
    have HWA := lh hwa
    have HBL := lh hbl
    obtain ⟨nb, hnb⟩ : ∃ nb, nb = na + ly := ⟨_, rfl⟩
    have HNB := lh hnb
    have hnb1 : 1 ≤ nb := by omega
    have hnb2 : nb ≤ 1000000 := by omega
    clear hti ht hly htf hkx hkm h0 hwa hbl hnb hsz2
    go_wp2_with fail
    rw [← HWA.out]
    refine HMV.out.mono ?_
    rintro e w8 ⟨q8, cq8, zs, rfl, ho8, hz8, hb8, hd8⟩
    have HD5 : Hid (DisN (ys ++ zs)) := disN_join (C := wa.heap.size) HDS.out hd8 (fun x hx b => ⟨fun e => Nat.lt_of_lt_of_le ((HO.out.blk hx b).1 e).2 HBL.out.size, fun e => Nat.lt_of_lt_of_le ((HO.out.blk hx b).2 e).2 HBL.out.size⟩) (fun y hy b => ⟨fun e => ((ho8.blk hy b).1 e).1, fun e => ((ho8.blk hy b).2 e).1⟩)
    clear hd8
    obtain ⟨_, _, e8, hle8, hmx8, hnil8, hsl8⟩ := ho8.form
    simp only [Value.slice.injEq] at e8
    obtain ⟨rfl, hzl, rfl⟩ := e8
    have hO1 := (HO.out.below HBL.out).below hb8
    have hsz8 : W2.heap.size ≤ w8.heap.size := Nat.le_trans HB.out.size (Nat.le_trans HBL.out.size hb8.size)
    have hbyt : (na + ly) ≤ 1000000000000 := by have := HNB.out; omega
    obtain ⟨v9, w9, hrun, hown9, hgrow9⟩ := run_joinX (Ts := 60) (ty := 60) Tryz.underlying60 hinf hz0 hz1 hz2 rfl (by decide) (by decide) (ownN_row hO1 HLN.out.1) (by rw [encN_length, hzl]) (by have := sln_news hsl8; rw [← hzl] at this; exact this) hnil8 (encN_one (a := zs)) hbyt hsz8
    have hO9 : OwnN w9 W2.heap.size v9 (ys ++ zs) := by
     refine ownN_join hO1 HLN.out.1 (fun y hy => ⟨ownR_down (ho8.set y hy) (Nat.le_trans HB.out.size HBL.out.size), ownZ_down (ho8.kids y hy) (Nat.le_trans HB.out.size HBL.out.size)⟩) hzl hown9 hgrow9
    obtain ⟨q9, c9, rfl, _⟩ := hO9.form
    have hl9 : (ys ++ zs).length = nb := by rw [List.length_append, ← HLN.out.1, ← hzl, HNB.out]
    rw [hl9] at hO9 hrun hown9
    have hZ8 := (ownZ_below (ownZ_below HZ.out HBL.out) hb8)
    have hZ9 : OwnZ w9 W2.heap.size (.slice r nl cr) L := by
     refine World.ownsRow.kept hZ8 hgrow9 ?_
     rcases hO1.row.2 with ⟨e1, _⟩ | ⟨g, cap, cur, e1, _, hh, _⟩
     ·rw [e1]
      rcases hv : (Value.slice r nl cr).ownBlock with _ | g2
      ·exact .inl rfl
      ·exact .inr (by simp [Value.ownBlock])
     ·rw [e1]; exact .inr (row_ne hZ8 hh (by decide))
    have hB9 : Below W2.heap.size W2 w9 := ((HB.out.trans (HBL.out.mono HB.out.size)).trans (hb8.mono (Nat.le_trans HB.out.size HBL.out.size))).grown hgrow9 hsz8 (fun g e => (hO1.row.lt g e).1)
    have hAP9 : ∀ g, (Value.slice r nl cr).ownBlock = some g → ∀ y ∈ ys ++ zs, (Value.slice y.pk y.nd.kids.length y.ck).ownBlock ≠ some g := by
     intro g hg y hy
     rcases List.mem_append.1 hy with h1 | h1
     ·exact HAP.out g hg y h1
     ·intro e
      have h2 := (World.ownsRow.lt (ho8.kids y h1) g e).1
      have h3 := (World.ownsRow.lt HZ.out g hg).2
      have h4 := HBL.out.size
      omega
    have HO9 := lh hO9
    have HRUN := lh hrun
    have HROW9 := lh (ownZ_row hZ9 HLN.out.2.1)
    have HB9 := lh hB9
    have HAP9 := lh hAP9
    have HZM := lh hz8
    have HZL := lh (And.intro hzl hl9)
    have HS9 := lh hB9.size
    clear ho8 hz8 hb8 hle8 hmx8 hnil8 hsl8 hO1 hsz8 hbyt hrun hown9 hgrow9 hO9 hZ8 hZ9 hB9 hAP9 hzl hl9
    have hnl1 : nl ≤ 1000000 := by omega
    go_wp2_with (first | (at_builtin; refine wpList_append_run (by rfl) _ _ 60 rfl _ _ _ rfl rfl HRUN.out ?_) | (at_builtin; refine wpList_append_lies _ rfl _ _ 24 rfl W2.heap.size 3 j0 (.int .i64 0) 1 8 Tryz.underlying24 jinf jz0 jz1 jz2 rfl (by decide) (.slice r nl cr) nl _ rfl (HROW9.out.alloc _) ⟨w9.heap.size, 0, none⟩ 1 1 [.int .i64 ((nb : Int) - 1)] rfl rfl (cells_one_z _ _ _) (by simp [Value.oneCell']) (by omega) (by simp only [maxLen]; omega) (by omega) (by have := HS9.out; simp; omega) (w9.heap.size + 1) (by simp) ?_))
    intro gg cap w5 hown5 hgrow5 hat5 hlt5
    have hbl := bl_alloc w9 (.cells #[.int .i64 ((nb : Int) - 1)] 3)
    have hZ5 : OwnZ w5 W2.heap.size (.slice (some ⟨gg, 0, none⟩) (nl + 1) cap) (L ++ [(nb : Int) - 1]) := ownZ_appended HLN.out.2.1 hown5
    have hOa := HO9.out.below hbl
    have hO5 : OwnN w5 W2.heap.size (.slice q9 nb c9) (ys ++ zs) := by
     have hnn : ∀ {T' : TypeId} {z' n' : Nat} {v' : Value} {xs' : List Value}, T' ≠ 3 → (w9.alloc (.cells #[.int .i64 ((nb : Int) - 1)] 3)).ownsRow W2.heap.size T' z' v' n' xs' → w5.ownsRow W2.heap.size T' z' v' n' xs' := fun {T' z' n' v' xs'} hT hr => by
      refine World.ownsRow.kept hr hgrow5 ?_
      rcases HROW9.out.2 with ⟨e1, _⟩ | ⟨g, cap, cur, e1, _, hh, _⟩
      ·rw [e1]
       rcases hv : v'.ownBlock with _ | g2
       ·exact .inl rfl
       ·exact .inr (by simp [Value.ownBlock])
      ·rw [e1]
       refine .inr (row_ne hr (show (w9.alloc _).heap[g]? = some (.cells cur 3 (0, 0)) from ?_) (Ne.symm hT))
       exact (hbl.block g (lt_of_block hh)).trans hh
     refine ⟨hnn (by decide) hOa.row, fun y hy => hnn (by decide) (hOa.set y hy), fun y hy => ?_⟩
     refine World.ownsRow.kept (hOa.kids y hy) hgrow5 ?_
     rcases hv : (Value.slice y.pk y.nd.kids.length y.ck).ownBlock with _ | g
     ·exact .inl rfl
     ·right
      intro e
      exact HAP9.out g e.symm y hy hv
    have hB5 : Below W2.heap.size W2 w5 := (HB9.out.trans (hbl.mono HS9.out)).grown hgrow5 (by have := HS9.out; simp; omega) (fun g e => (HROW9.out.lt g e).1)
    have hAP5 : ∀ g, (Value.slice (some ⟨gg, 0, none⟩) (nl + 1) cap).ownBlock = some g → ∀ y ∈ ys ++ zs, (Value.slice y.pk y.nd.kids.length y.ck).ownBlock ≠ some g := by
     intro g hg y hy e
     simp only [Value.ownBlock, Option.some.injEq] at hg
     subst hg
     rcases hat5 with h1 | h1
     ·exact HAP9.out gg h1 y hy e
     ·have := (World.ownsRow.lt (HO9.out.kids y hy) gg e).2
      omega
    have hJ5 : joinA ((treesN ts).drop (k + 1)) (nds (ys ++ zs)) (L ++ [(nb : Int) - 1]) = joinA (treesN ts) [] [] := by
     have hd := treesN_drop HT.out.2.2.2.1
     rw [← HT.out.1] at hd
     have hy0 : ¬ (nds t.ys).length = 0 := by rw [nds_length, ← HT.out.2.1]; exact HL0.out
     rw [← HJ.out, hd]
     rw [show joinA (nds t.ys :: (treesN ts).drop (k + 1)) (nds ys) L = if (nds t.ys).length = 0 then joinA ((treesN ts).drop (k + 1)) (nds ys) L else joinA ((treesN ts).drop (k + 1)) (nds ys ++ (nds t.ys).map (mv ((nds ys).length : Int))) (L ++ [(((nds ys).length + (nds t.ys).length : Nat) : Int) - 1]) from rfl, if_neg hy0]
     have e1 : nds (ys ++ zs) = nds ys ++ (nds t.ys).map (mv ((nds ys).length : Int)) := by
      unfold nds
      rw [List.map_append, HZM.out, List.map_map, List.length_map, ← HLN.out.1]; rfl
     rw [e1, nds_length, nds_length, ← HLN.out.1, ← HT.out.2.1, ← HNB.out]
    have HZ5 := lh hZ5
    have HO5 := lh hO5
    have HB5 := lh hB5
    have HAP5 := lh hAP5
    have HJ5 := lh hJ5
    have HS5 : Hid (nb = (ys ++ zs).length ∧ nl + 1 = (L ++ [(nb : Int) - 1]).length ∧ nb + sizeT (ts.drop (k + 1)) ≤ 1000000) := by
     refine ⟨HZL.out.2.symm, by rw [List.length_append, ← HLN.out.2.1]; rfl, ?_⟩
     have h1 := HLN.out.2.2
     have h2 := HNB.out
     have h3 := HT.out.2.1
     rw [sizeT_drop HT.out.2.2.2.1, ← HT.out.1] at h1
     omega
    clear hown5 hgrow5 hat5 hlt5 hbl hZ5 hOa hO5 hB5 hAP5 hJ5
    go_wp2
    go_roundw
    case rel => exact ⟨k + 1, nb, nl + 1, q9, c9, _, some ⟨gg, 0, none⟩, cap, _, by have := HT.out.2.2.2.2; omega, hnb2, by omega, rfl, rfl, by go_num, HS5.out, HO5.out, HZ5.out, HJ5.out, HAP5.out, HB5.out, HD5.out⟩
    case measure => have := HT.out.2.2.2.2; simp [intOf]; omega
  ·have hkI : (m : Int) ≤ k := by omega
   obtain rfl : k = m := by omega
   have hbx := HBX.out.1.below HB.out
   obtain ⟨k0, k1, k2, k3, k4, k5, k6, k7, k8⟩ := nine hbx
   have HBN := lh hbx
   have HCP := lh (copyR_any x.ps x.cs ls x.nd.set wr HL.out.1 (HXI.out.set.below HB.out) HXI.out.sn (by have := HL.out.2.2; omega))
   clear hbx
   go_wp2_with fail
   refine HCP.out.mono ?_
   rintro e w6 ⟨q6, e6, rfl, ho6, hb6⟩
   have HDQ : Hid (∀ b, blk q6 = some b → wr.heap.size ≤ b) := fun b e => (World.ownsRow.lt ho6 b (by rw [own_blk]; exact e)).1
   have hbn := HBN.out.below hb6
   obtain ⟨z0, z1, z2, z3, z4, z5, z6, z7, z8⟩ := nine hbn
   have f1 := hbn.free 1
   have f2 := hbn.free 2
   have hlt0 : b0 < W2.heap.size := by have := HS2.out; omega
   have hO6 := ((HO.out.below hb6).far hlt0 1 (.slice q6 ls e6)).far hlt0 2 (.slice r nl cr)
   have hZ6 : OwnZ ((w6.setCell ⟨b0, 1, none⟩ (.slice q6 ls e6)).setCell ⟨b0, 2, none⟩ (.slice r nl cr)) W2.heap.size (.slice r nl cr) L := row_far (row_far (ownZ_below HZ.out hb6) hlt0 1 _) hlt0 2 _
   have hR6 : OwnR ((w6.setCell ⟨b0, 1, none⟩ (.slice q6 ls e6)).setCell ⟨b0, 2, none⟩ (.slice r nl cr)) W2.heap.size (.slice q6 ls e6) x.nd.set := row_far (row_far (ownR_down ho6 HB.out.size) hlt0 1 _) hlt0 2 _
   have hB6 : Below w.heap.size w ((w6.setCell ⟨b0, 1, none⟩ (.slice q6 ls e6)).setCell ⟨b0, 2, none⟩ (.slice r nl cr)) := ((HB2.out.trans ((bl_trans HB.out hb6).mono HB2.out.size)).setCell (p := ⟨b0, 1, none⟩) (Nat.le_of_eq HB0.out.symm) _).setCell (p := ⟨b0, 2, none⟩) (Nat.le_of_eq HB0.out.symm) _
   have hbr : Bx ((w6.setCell ⟨b0, 1, none⟩ (.slice q6 ls e6)).setCell ⟨b0, 2, none⟩ (.slice r nl cr)) (b0 + 1) 34 #[.slice none 0 0, .slice none 0 0] := (((HBX.out.2.below HB.out).below hb6).other (a := ⟨b0, 1, none⟩) (by show b0 + 1 ≠ b0; omega) _).other (a := ⟨b0, 2, none⟩) (by show b0 + 1 ≠ b0; omega) _
   have HRO := lh (ownN_row hO6 HLN.out.1)
   have HO6 := lh hO6
   have HZ6 := lh (And.intro hZ6 hR6)
   have HB6 := lh hB6
   have HBR := lh hbr
   have HS6 := lh (Nat.le_trans HB.out.size hb6.size)
   clear hbn ho6 hb6 hO6 hZ6 hR6 hB6 hbr hlt0 k0 k1 k2 k3 k4 k5 k6 k7 k8
   go_wp2_with (at_builtin; refine wpList_append_own _ rfl _ _ 60 rfl W2.heap.size 28 i0 (.agg #[.int .u8 0, .slice none 0 0, .slice none 0 0, .int .i64 0, .int .i64 0, .int .i64 0, .int .u8 0, .int .u8 0, .bool false]) 9 88 Tryz.underlying60 hinf hz0 hz1 hz2 rfl (by decide) (.slice q na cq) na _ rfl (HRO.out.alloc _) ⟨_, 0, none⟩ 1 1 [.int .u8 x.nd.kind, .slice q6 ls e6, .slice r nl cr, .int .i64 x.nd.group, .int .i64 x.nd.mn, .int .i64 x.nd.mx, .int .u8 x.nd.mode, .int .u8 x.nd.spot, .bool x.nd.neg] rfl rfl ?k1 ?k2 ?k3 ?k4 ?k5 ?_)
   case k1 =>
    have h := cells_nine ((w6.setCell ⟨b0, 1, none⟩ (.slice q6 ls e6)).setCell ⟨b0, 2, none⟩ (.slice r nl cr)) [.int .u8 x.nd.kind, .slice q6 ls e6, .slice r nl cr, .int .i64 x.nd.group, .int .i64 x.nd.mn, .int .i64 x.nd.mx, .int .u8 x.nd.mode, .int .u8 x.nd.spot, .bool x.nd.neg] 28
    simpa using h
   case k2 => simp [Value.oneCell']
   case k3 => simp only [maxLen]; omega
   case k4 => omega
   case k5 => have := HS6.out; simp; omega
   intro v7 w7 hown7 hgrow7 _
   obtain ⟨wb, hwb⟩ : ∃ X, X = (w6.setCell ⟨b0, 1, none⟩ (.slice q6 ls e6)).setCell ⟨b0, 2, none⟩ (.slice r nl cr) := ⟨_, rfl⟩
   rw [← hwb] at HO6 HZ6 HB6 HBR hgrow7 HRO
   have hsw : W2.heap.size ≤ wb.heap.size := by rw [hwb]; simpa using HS6.out
   clear hwb
   have hbl := bl_alloc wb (.cells #[.int .u8 x.nd.kind, .slice q6 ls e6, .slice r nl cr, .int .i64 x.nd.group, .int .i64 x.nd.mn, .int .i64 x.nd.mx, .int .u8 x.nd.mode, .int .u8 x.nd.spot, .bool x.nd.neg] 28)
   obtain ⟨y, hy⟩ : ∃ y : NV, y = ⟨{ x.nd with kids := L }, q6, e6, r, cr⟩ := ⟨_, rfl⟩
   have hey : encN y = [.int .u8 x.nd.kind, .slice q6 ls e6, .slice r nl cr, .int .i64 x.nd.group, .int .i64 x.nd.mn, .int .i64 x.nd.mx, .int .u8 x.nd.mode, .int .u8 x.nd.spot, .bool x.nd.neg] := by
    rw [hy]; unfold encN; simp only; rw [← HL.out.1, ← HLN.out.2.1]
   have hO7 : OwnN w7 W2.heap.size v7 (ys ++ [y]) := by
    refine OwnN.more (HO6.out.below hbl) HLN.out.1 ?_ ?_ (by rw [hey]; exact hown7) hgrow7
    ·rw [hy]; show OwnR _ _ (.slice q6 x.nd.set.length e6) x.nd.set
     rw [← HL.out.1]; exact ownR_below HZ6.out.2 hbl
    ·rw [hy]; show OwnZ _ _ (.slice r L.length cr) L
     rw [← HLN.out.2.1]; exact ownZ_below HZ6.out.1 hbl
   have HD7 : Hid (DisN (ys ++ [y])) := List.pairwise_append.2 ⟨HDS.out, List.pairwise_singleton _ _, fun x' hx' y' hy' => by
    rw [List.mem_singleton] at hy'
    rw [hy', hy]
    refine ⟨fun b e1 e2 => ?_, fun b e1 e2 => ?_⟩
    ·have h1 := ((HO.out.blk hx' b).1 e1).2
     have h2 := HDQ.out b e2
     omega
    ·exact HAP.out b (by rw [own_blk]; exact e2) x' hx' (by rw [own_blk]; exact e1)⟩
   have hB7 : Below w.heap.size w w7 := (HB6.out.trans (hbl.mono HB6.out.size)).grown hgrow7 (by have := HB6.out.size; simp; omega) (fun g e => by have := (HRO.out.lt g e).1; have := HB2.out.size; omega)
   have hR7 : Bx w7 (b0 + 1) 34 #[.slice none 0 0, .slice none 0 0] := (HBR.out.below hbl).kept hgrow7 (fun e => by have h1 := (HRO.out.lt (b0 + 1) e.symm).1; have := HS2.out; omega)
   have hy7 : na + 1 = (ys ++ [y]).length := by rw [List.length_append, ← HLN.out.1]; rfl
   have hn7 : nds (ys ++ [y]) = joinT x.nd (treesN ts) := by
    have h1 := HJ.out
    rw [List.drop_eq_nil_of_le (by unfold treesN; rw [List.length_map]; have := HM.out; omega)] at h1
    have h2 : joinA (treesN ts) [] [] = (nds ys, L) := h1.symm
    unfold joinT
    rw [h2]
    unfold nds
    rw [List.map_append, hy]; rfl
   obtain ⟨q7, c7, rfl, _⟩ := hO7.form
   rw [← hy7] at hO7 ⊢
   have g0 := hR7.free 0
   have g1 := hR7.free 1
   have j0' : w7.cell? ⟨b0 + 1, 0, none⟩ = some (.slice none 0 0) := hR7.cell rfl
   have j1' : w7.cell? ⟨b0 + 1, 1, none⟩ = some (.slice none 0 0) := hR7.cell rfl
   have HR7 := lh hR7
   have HO7 := lh hO7
   have HB7 := lh hB7
   have HY7 := lh (And.intro hy7 hn7)
   clear hown7 hgrow7 hbl hO7 hB7 hR7 hy7 hn7 hy hey z0 z1 z2 z3 z4 z5 z6 z7 z8 f1 f2
   go_wp2
   have hR8 := (HR7.out.set 0 (.slice q7 (na + 1) c7)).set 1 (.slice none 0 0)
   have y0 := hR8.cell (i := 0) (v := .slice q7 (na + 1) c7) rfl
   have y1 := hR8.cell (i := 1) (v := .slice none 0 0) rfl
   refine bodyPost_ret (v := .agg #[.slice q7 (na + 1) c7, .slice none 0 0]) (by simp [results, Tryz.results9, go_sem, y0, y1]) rfl ?_
   have hbz : w.heap.size ≤ b0 + 1 := by have := HB0.out; omega
   refine ⟨q7, na + 1, c7, _, HY7.out.1, rfl, ?_, HY7.out.2, (HB7.out.setCell (p := ⟨b0 + 1, 0, none⟩) hbz _).setCell (p := ⟨b0 + 1, 1, none⟩) hbz _, HD7.out⟩
   exact ((HO7.out.other HR7.out (by decide) (by decide) (by decide) 0 (.slice q7 (na + 1) c7)).other (HR7.out.set 0 (.slice q7 (na + 1) c7)) (by decide) (by decide) (by decide) 1 (.slice none 0 0)).down HB2.out.size
theorem join_any (x : NV) (p : Option Addr) (m c : Nat) (ts : List TV) (w : World) (hx : NodeIn w x) (hxs : x.nd.set.length ≤ 1000000) (hm : m = ts.length) (hp : SlT w p ts) (hf : FewT ts) (hmm : m ≤ 1000000) (hsz : sizeT ts ≤ 1000000) :
  Calls Tryz.prog 9 #[.agg (encN x).toArray, .slice p m c] w (TreePost w (joinT x.nd (treesN ts))) :=
 (join_up x p m c ts w hx hxs hm hp hf hmm hsz).mono fun _ _ h => h.post
end Go.Proofs.YtkefndfgkmdphaaGreat
