import Derived.Test.YtkefndfgkmdphaaGreatMq
import Derived.Test.YtkefndfgkmdphaaGreatLi
import Derived.Test.YtkefndfgkmdphaaGreatFi
import Derived.Test.YtkefndfgkmdphaaGreatJv
import Derived.Test.YtkefndfgkmdphaaGreatMn

namespace Go.Proofs.YtkefndfgkmdphaaGreat
open Go.RowKit Tnr Tnt

theorem w64_id (k : Int) (h : -4611686018427387904 ≤ k ∧ k < 4611686018427387904) : w64 k = k := by unfold w64; omega
end Go.Proofs.YtkefndfgkmdphaaGreat


namespace Go.Proofs.YtkefndfgkmdphaaGreat
open Go.RowKit Tnr Tnt

theorem cov_len {L : List Nd} {f k : Nat} (hk : k < L.length) (hf : f ≤ k) : (covN L f k).length = k + 1 - f := by
 unfold covN; simp; omega
theorem cov_mem {L : List Nd} {f k : Nat} {d : Nd} (h : d ∈ covN L f k) : ∃ x ∈ L, d = mv (-(f : Int)) x := by
 unfold covN at h
 obtain ⟨x, hx, rfl⟩ := List.mem_map.1 h
 exact ⟨x, List.mem_of_mem_drop (List.mem_of_mem_take hx), rfl⟩
end Go.Proofs.YtkefndfgkmdphaaGreat


namespace Go.Proofs.YtkefndfgkmdphaaGreat
open Go.RowKit Tnr Tnt

theorem nN_at {L : List Nd} {k : Nat} (h : k < L.length) : nN L k = L[k] := by
 unfold nN; rw [List.getD_eq_getElem?_getD, List.getElem?_eq_getElem h]; rfl
end Go.Proofs.YtkefndfgkmdphaaGreat


namespace Go.Proofs.YtkefndfgkmdphaaGreat
open Go.RowKit Tnr Tnt

theorem joinA_cons (k : List Nd) (ks : List (List Nd)) (m : List Nd) (l : List Int) : joinA (k :: ks) m l = if k.length = 0 then joinA ks m l else joinA ks (m ++ k.map (mv (m.length : Int))) (l ++ [((m.length + k.length : Nat) : Int) - 1]) := rfl
theorem joinA_append : ∀ (a b : List (List Nd)) (m : List Nd) (l : List Int), joinA (a ++ b) m l = joinA b (joinA a m l).1 (joinA a m l).2
 | [], _, _, _ => rfl
 | k :: a, b, m, l => by
  rw [List.cons_append, joinA_cons, joinA_cons]
  by_cases h : k.length = 0
  ·rw [if_pos h, if_pos h]; exact joinA_append a b m l
  ·rw [if_neg h, if_neg h]; exact joinA_append a b _ _
theorem joinA_len : ∀ (a : List (List Nd)) (m : List Nd) (l : List Int), (joinA a m l).1.length = m.length + (a.map List.length).sum
 | [], m, _ => by simp [joinA]
 | k :: a, m, l => by
  rw [joinA_cons]
  by_cases h : k.length = 0
  ·rw [if_pos h, joinA_len a m l]; simp [h]
  ·rw [if_neg h, joinA_len a _ _]; simp; omega
theorem joinT_len (n : Nd) (ks : List (List Nd)) : (joinT n ks).length = (ks.map List.length).sum + 1 := by
 unfold joinT; rw [List.length_append, joinA_len]; simp
def segN (L : List Nd) (a c : Nat) : List Nd := (L.drop a).take (c - a)
theorem seg_len {L : List Nd} {a c : Nat} (hc : c ≤ L.length) (_ : a ≤ c) : (segN L a c).length = c - a := by
 unfold segN; simp; omega
theorem seg_append {L : List Nd} {a b c : Nat} (h1 : a ≤ b) (h2 : b ≤ c) : segN L a b ++ segN L b c = segN L a c := by
 unfold segN
 rw [show c - a = (b - a) + (c - b) by omega, List.take_add, List.drop_drop, show a + (b - a) = b by omega]
theorem mv_back {x : Nd} {f : Nat} (hf : f ≤ 4000) (h : ∀ k ∈ x.kids, 0 ≤ k ∧ k < 4611686018427380000) : mv (f : Int) (mv (-(f : Int)) x) = x := by
 have : ((x.kids.map fun k => w64 (k + -(f : Int))).map fun k => w64 (k + (f : Int))) = x.kids := by
  rw [List.map_map]
  conv => rhs; rw [← List.map_id x.kids]
  refine List.map_congr_left fun k hk => ?_
  have := h k hk
  show w64 (w64 (k + -(f : Int)) + (f : Int)) = k
  rw [w64_id (k + -(f : Int)) (by omega), w64_id _ (by omega)]; omega
 show ({ x with kids := _ } : Nd) = x
 rw [show (mv (-(f : Int)) x).kids = x.kids.map fun k => w64 (k + -(f : Int)) from rfl, this]
theorem cov_back {L : List Nd} {l : List (Nat × Nat)} (h : OrdOk L l) (h4 : L.length ≤ 4000) {f k : Nat} (hk : k < L.length) (hf : f ≤ k) : (covN L f k).map (mv (f : Int)) = segN L f (k + 1) := by
 unfold covN segN
 rw [List.map_map]
 conv => rhs; rw [← List.map_id ((L.drop f).take (k + 1 - f))]
 refine List.map_congr_left fun x hx => ?_
 obtain ⟨i, hi, rfl⟩ := List.getElem_of_mem (List.mem_of_mem_drop (List.mem_of_mem_take hx))
 exact mv_back (by omega) fun k hk => by have := ordOk_kid h hi k hk; omega
theorem join_rk {L : List Nd} {l : List (Nat × Nat)} (h : OrdOk L l) (h4 : L.length ≤ 4000) : ∀ {ks : List Int} {c d a e : Nat}, c ≤ L.length → rk (gf l) ks c d = some (a, e) → ∀ (m : List Nd) (r : List Int), m.length = a →
  joinA (ks.reverse.map fun k => covN L (gf l k.toNat).1 k.toNat) m r = (m ++ segN L a c, r ++ ks.reverse) ∧ a ≤ c
 | [], c, d, a, e, hc, hr, m, r, hm => by
  simp only [rk, Option.some.injEq, Prod.mk.injEq] at hr
  obtain ⟨rfl, rfl⟩ := hr
  refine ⟨?_, Nat.le_refl _⟩
  have : segN L c c = [] := by unfold segN; simp
  rw [this]
  simp [joinA]
 | k :: ks, c, d, a, e, hc, hr, m, r, hm => by
  rw [rk_cons] at hr
  by_cases hcc : c = 0 ∨ k ≠ (c : Int) - 1
  ·rw [if_pos hcc] at hr; cases hr
  ·rw [if_neg hcc] at hr
   have hkc : k.toNat = c - 1 := by omega
   have hlow := (h.2.1 (c - 1) (by omega)).1
   obtain ⟨ih, hac⟩ := join_rk h h4 (ks := ks) (by omega) hr m r hm
   obtain ⟨g, hg⟩ : ∃ g, g = (gf l (c - 1)).1 := ⟨_, rfl⟩
   rw [← hg] at ih hac hlow
   refine ⟨?_, by omega⟩
   rw [List.reverse_cons, List.map_append, joinA_append, ih]
   dsimp only
   rw [List.map_cons, List.map_nil, hkc, ← hg]
   have hl1 := cov_len (L := L) (k := c - 1) (f := g) (by omega) hlow
   have hl2 : (m ++ segN L a g).length = g := by rw [List.length_append, seg_len (by omega) hac, hm]; omega
   rw [joinA_cons, if_neg (by omega)]
   show (m ++ segN L a g ++ _, _ ++ [_]) = _
   rw [hl2, hl1, cov_back h h4 (by omega) hlow, List.append_assoc, show c - 1 + 1 = c by omega, seg_append hac (by omega), ← List.append_assoc]
   congr 1
   ·congr 1
    ·congr 1
     omega
 termination_by ks => ks.length
theorem last_get {L : List Nd} (h : 1 ≤ L.length) : L.getD (L.length - 1) nd0 = L[L.length - 1]'(by omega) := by
 rw [List.getD_eq_getElem?_getD, List.getElem?_eq_getElem (by omega)]; rfl
theorem join_kids {L : List Nd} {l : List (Nat × Nat)} (h : ordT L = some l) : joinT (L.getD (L.length - 1) nd0) (kidsT L) = L := by
 obtain ⟨hok, h0, h1, h4⟩ := ordT_ok h
 obtain ⟨d, hr, _⟩ := hok.2.2 (L.length - 1) (by omega)
 rw [h0] at hr
 obtain ⟨hj, _⟩ := join_rk hok h4 (by omega) hr [] [] rfl
 rw [List.reverse_reverse] at hj
 unfold joinT kidsT
 rw [h]
 dsimp only
 rw [last_get h1, hj]
 dsimp only
 unfold segN
 rw [List.nil_append, List.nil_append, List.drop_zero, Nat.sub_zero]
 show L.take (L.length - 1) ++ [L[L.length - 1]'(by omega)] = L
 conv => rhs; rw [← List.take_append_drop (L.length - 1) L]
 rw [List.drop_eq_getElem_cons (by omega)]
 simp
 rw [show L.length - 1 + 1 = L.length by omega, List.take_length]
theorem kids_len {L : List Nd} {l : List (Nat × Nat)} (h : ordT L = some l) : (kidsT L).length = (L.getD (L.length - 1) nd0).kids.length := by
 unfold kidsT; rw [h]; simp
theorem kids_sum {L : List Nd} {l : List (Nat × Nat)} (h : ordT L = some l) : ((kidsT L).map List.length).sum + 1 = L.length := by
 rw [← joinT_len (L.getD (L.length - 1) nd0), join_kids h]
end Go.Proofs.YtkefndfgkmdphaaGreat


namespace Go.Proofs.YtkefndfgkmdphaaGreat
set_option maxHeartbeats 3200000
set_option maxRecDepth 100000
open Go.RowKit Tnr Tnt

def Bare (ts : List TV) : Prop := ∀ t ∈ ts, t.na = none ∧ t.nn = 0 ∧ t.nc = 0
theorem slx_nil (w : World) : SlX w none [] := .inl rfl
theorem gt_nds {ta tb : List TV} (h : treesN ta = treesN tb) {k : Nat} (h1 : k < ta.length) (h2 : k < tb.length) : nds (gt ta k).ys = nds (gt tb k).ys := by
 have e : (treesN ta)[k]? = (treesN tb)[k]? := by rw [h]
 unfold treesN at e
 rw [List.getElem?_map, List.getElem?_map, List.getElem?_eq_getElem h1, List.getElem?_eq_getElem h2] at e
 rw [gt_get h1, gt_get h2]
 exact Option.some.inj e
theorem sameT_self {xs ys : List NV} (h : nds xs = nds ys) (a : List ByteArray) : sameT xs ys a a = true := by
 unfold sameT; rw [sameX_self, decide_eq_true h]; rfl
theorem sameTrees_any (p q : Option Addr) (n c d : Nat) (ta tb : List TV) (w : World) (hn : n = ta.length) (hm : n = tb.length) (hl : n ≤ 1000000) (hp : SlT w p ta) (hq : SlT w q tb) (fa : FewT ta) (fb : FewT tb) (sa : ∀ t ∈ ta, t.ys.length ≤ 1000000) (na : Bare ta) (nb : Bare tb) (heq : treesN ta = treesN tb) :
  Calls Tryz.prog 14 #[.slice p n c, .slice q n d] w fun e w' => e = .returned (.bool true) ∧ Below w.heap.size w w' := by
 have HP := lh hp
 have HQ := lh hq
 have HN := lh (show ta.length = n ∧ tb.length = n by omega)
 have HF := lh (And.intro fa (And.intro fb (And.intro sa (And.intro na (And.intro nb heq)))))
 have hnI : (n : Int) ≤ 1000000 := by omega
 clear hp hq hn hm hl fa fb sa na nb heq
 go_enter Tryz.func14, Tryz.ntmps14
 go_wp2
 go_loopw [5] (fun iv wr => ∃ (k : Nat), k ≤ n ∧ iv = .int .i64 (k : Nat) ∧ Hid (Below w.heap.size w wr)) (fun iv _ => n - (intOf iv).toNat)
 case atStart => exact ⟨0, Nat.zero_le _, rfl, Below.refl _ _⟩
 case round =>
  obtain ⟨k, hk, rfl, HW⟩ := hrel
  rename World => wr
  by_cases hkn : k < n
  ·have hkx : k < ta.length := by have := HN.out; omega
   have hky : k < tb.length := by have := HN.out; omega
   have hkI : (k : Int) < n := by omega
   have hw1 : Below wr.heap.size wr wr.drew := bl_drew wr
   have hb0 : Below w.heap.size w wr.drew := HW.out.drew
   obtain ⟨b1, o1, rfl, hc1, hd1, hin1⟩ := (HP.out.below hb0).at hkx
   obtain ⟨b2, o2, rfl, hc2, hd2, hin2⟩ := (HQ.out.below hb0).at hky
   have e1 := HF.out.2.2.2.1 _ (gt_mem hkx)
   have e2 := HF.out.2.2.2.2.1 _ (gt_mem hky)
   have e3 := gt_nds HF.out.2.2.2.2.2 hkx hky
   rw [e1.1, e1.2.1, e1.2.2] at hd1
   rw [e2.1, e2.2.1, e2.2.2] at hd2
   have hl1 := HF.out.2.2.1 _ (gt_mem hkx)
   have f1 := HF.out.1 _ (gt_mem hkx)
   have f2 := HF.out.2.1 _ (gt_mem hky)
   obtain ⟨x, hx⟩ : ∃ x, x = gt ta k := ⟨_, rfl⟩
   obtain ⟨y, hy⟩ : ∃ x, x = gt tb k := ⟨_, rfl⟩
   rw [← hx] at hc1 hin1 e3 hl1 f1
   rw [← hy] at hc2 hin2 e3 f2
   obtain ⟨m1, hm1⟩ : ∃ m, m = x.ys.length := ⟨_, rfl⟩
   obtain ⟨m2, hm2⟩ : ∃ m, m = y.ys.length := ⟨_, rfl⟩
   rw [← hm1] at hc1 hl1
   rw [← hm2] at hc2
   have HST : Hid (∀ V, Below wr.drew.heap.size wr.drew V → Calls Tryz.prog 41 #[.agg #[.slice x.q m1 x.cq, .slice none 0 0], .agg #[.slice y.q m2 y.cq, .slice none 0 0]] V fun e w' => e = .returned (.bool true) ∧ Below V.heap.size V w') := fun V hV =>
    (sameTree_any x.q y.q none none m1 m2 x.cq y.cq 0 0 0 0 x.ys y.ys [] [] V hm1 hm2 hl1 (hin1.nodes.below hV) (hin2.nodes.below hV) f1 f2 rfl rfl (Nat.zero_le _) (Nat.zero_le _) (slx_nil _) (slx_nil _)).mono fun e w' ⟨h1, h2⟩ => ⟨by rw [h1, sameT_self e3], h2⟩
   obtain ⟨C, hC⟩ : ∃ C : World → Prop, C = fun V => Below wr.drew.heap.size wr.drew V ∧ V.cell? ⟨b1, o1 + k * 2, none⟩ = some (.slice x.q m1 x.cq) ∧ V.cell? ⟨b1, o1 + k * 2 + 1, none⟩ = some (.slice none 0 0) ∧ V.cell? ⟨b2, o2 + k * 2, none⟩ = some (.slice y.q m2 y.cq) ∧ V.cell? ⟨b2, o2 + k * 2 + 1, none⟩ = some (.slice none 0 0) := ⟨_, rfl⟩
   have HC : Hid (∀ V, Below wr.drew.heap.size wr.drew V → C V) := by
    intro V hV
    rw [hC]
    exact ⟨hV, cell_below hc1 hV, cell_below hd1 hV, cell_below hc2 hV, cell_below hd2 hV⟩
   have HF2 : Hid (∀ V, C V → Calls Tryz.prog 41 #[.agg #[.slice x.q m1 x.cq, .slice none 0 0], .agg #[.slice y.q m2 y.cq, .slice none 0 0]] V fun e w' => e = .returned (.bool true) ∧ C w') := by
    intro V hV
    rw [hC] at hV
    exact (HST.out V hV.1).mono fun e w' ⟨h1, h2⟩ => ⟨h1, HC.out w' (hV.1.trans (h2.mono hV.1.size))⟩
   have hCd : C wr.drew := HC.out _ (Below.refl _ _)
   have HB1 : Hid (∀ V, Below wr.drew.heap.size wr.drew V → Below w.heap.size w V) := fun V hV => HW.out.trans ((hw1.trans (hV.mono hw1.size)).mono HW.out.size)
   clear HC HST hx hy hm1 hm2 e1 e2 e3 hl1 f1 f2 hc1 hd1 hc2 hd2 hin1 hin2 hkx hky hw1 hb0
   go_wp2
   refine wp_region_quiet (C := C) (by kernel_rfl) (by kernel_rfl) hCd ?_
   clear hCd
   subst hC
   dsimp only
   iterate 8 (refine BigFrame.wpQuiet_want (by kernel_rfl) (fun K hK => ?_); refine ⟨?_, fun V hV => ?_, hK _ ?_⟩; rotate_left; (focus (unfold Oper.quietAt; dsimp only at hV; go_simp; try with_reducible rfl)); clear hK K; (try simp only [Act.put, sb]))
   refine BigFrame.wpQuiet_want (by kernel_rfl) (fun K hK => ?_)
   refine ⟨.bool true, fun V hV => ?_, hK _ ?_⟩
   ·have HV := lh hV
    clear hV hK
    unfold Oper.quietAt
    go_simp
    exact HF2.out V HV.out
   clear hK K
   try simp only [Act.put, sb]
   (refine BigFrame.wpQuiet_want (by kernel_rfl) (fun K hK => ?_); refine ⟨?_, fun V hV => ?_, hK _ ?_⟩; rotate_left; (focus (unfold Oper.quietAt; dsimp only at hV; go_simp; try with_reducible rfl)); clear hK K; (try simp only [Act.put, sb]))
   refine wpQuiet_nil ?_
   intro w5 hV
   have HV := lh hV.1
   clear hV
   go_wp2
   go_roundw
   case rel => exact ⟨k + 1, by omega, by go_num, HB1.out _ HV.out⟩
   case measure => simp [intOf]; omega
  ·have hkI : (n : Int) ≤ k := by omega
   go_wp2
   go_ret
   exact ⟨rfl, HW.out⟩
end Go.Proofs.YtkefndfgkmdphaaGreat


namespace Go.Proofs.YtkefndfgkmdphaaGreat
set_option maxHeartbeats 12800000
set_option maxRecDepth 100000
open Go.RowKit Tnr Tnt

def RelK (w : World) (b0 bN B _n _c lk : Nat) (T YN : Array Value) (ks : List Int) (L : List Nd) (ov jv : Value) (wr : World) : Prop :=
 ∃ (j : Nat) (q : Option Addr) (cq : Nat) (ts : List TV), j ≤ lk ∧ ov = .slice q j cq ∧ jv = .int .i64 (j : Nat) ∧ j = ts.length ∧ Bx wr bN 28 YN ∧ Bx wr b0 34 T ∧ OwnT wr B (.slice q j cq) ts ∧ treesN ts = (ks.take j).map (ofT L) ∧ (∀ t ∈ ts, t.na = none ∧ t.nn = 0 ∧ t.nc = 0) ∧ Below w.heap.size w wr
theorem relK {w : World} {b0 bN B n c lk : Nat} {T YN : Array Value} {ks : List Int} {L : List Nd} {jv : Value} {wr : World} (j : Nat) (q : Option Addr) (cq : Nat) (ts : List TV) (h1 : j ≤ lk) {ov : Value} (h2 : ov = .slice q j cq) (h3 : jv = .int .i64 (j : Nat)) (h4 : j = ts.length) (h5 : Bx wr bN 28 YN) (h6 : Bx wr b0 34 T) (h7 : OwnT wr B (.slice q j cq) ts) (h8 : treesN ts = (ks.take j).map (ofT L)) (h9 : ∀ t ∈ ts, t.na = none ∧ t.nn = 0 ∧ t.nc = 0) (h10 : Below w.heap.size w wr) : RelK w b0 bN B n c lk T YN ks L ov jv wr := ⟨j, q, cq, ts, h1, h2, h3, h4, h5, h6, h7, h8, h9, h10⟩
theorem rkids_any (p : Option Addr) (n c : Nat) (xs : List NV) (names : Value) (w : World) (hn : n = xs.length) (hnm : n ≤ 1000000000) (hp : SlN w p xs) (hf : Few xs) :
  Calls Tryz.prog 16 #[.agg #[.slice p n c, names]] w (KidsPost w (kidsT (nds xs))) := by
 obtain ⟨i0, hinf, hz0, hz1, hz2⟩ := info_parts info_tree
 obtain ⟨W1, hW1⟩ : ∃ W, W = w.alloc (.cells #[.slice p n c, names] 34) := ⟨_, rfl⟩
 obtain ⟨b0, hb0⟩ : ∃ b, b = w.heap.size := ⟨_, rfl⟩
 have hb1 : Below w.heap.size w W1 := by rw [hW1]; exact bl_alloc _ _
 have hT : Bx W1 b0 34 #[.slice p n c, names] := by rw [hW1, hb0]; exact Bx.new _ _ _
 have HO := lh (rorder_any p n c xs names W1 hn hnm (hp.below hb1) hf)
 have HOF : Hid (∀ z V, Below w.heap.size w V → Calls Tryz.prog 13 #[.agg #[.slice p n c, names], .int .i64 z] V (TreePost V (ofT (nds xs) z))) := fun z V hV => rof_any p n c xs names z V hn hnm (hp.below hV) hf
 have HB1 := lh hb1
 have HT := lh hT
 have HW1 := lh (And.intro hW1.symm hb0.symm)
 have HS1 : Hid (W1.heap.size = b0 + 1 ∧ w.heap.size = b0) := by show _ ∧ _; rw [hW1, hb0]; simp
 have HN := lh hn
 have HP := lh (And.intro hp hf)
 have hnI : (n : Int) ≤ 1000000000 := by omega
 have cX0 := hT.cell (i := 0) rfl
 have cX1 := hT.cell (i := 1) rfl
 clear hp hf hn hnm hW1 hb0 hb1 hT
 go_enter Tryz.func16, Tryz.ntmps16
 go_upto_region 1 with fail
 rw [HW1.out.2, HW1.out.1]
 go_wp2_with fail
 refine HO.out.mono ?_
 rintro e w5 ⟨rfl, hb5⟩
 have HB5 := lh (bl_trans HB1.out hb5)
 have HT5 := lh (HT.out.below hb5)
 have HS5 := lh hb5.size
 clear cX0 cX1 hb5
 cases hord : ordT (nds xs) with
 | none =>
  simp only [Option.isSome_none]
  have HK : Hid (kidsT (nds xs) = []) := by show _ = _; unfold kidsT; rw [hord]
  clear hord
  go_wp2
  go_ret
  exact ⟨none, 0, 0, [], rfl, rfl, ownT_nil _ _, by rw [HK.out]; rfl, fun t ht => by simp at ht, HB5.out⟩
 | some l =>
  simp only [Option.isSome_some]
  obtain ⟨hok, _, hn1, hn4⟩ := ordT_ok hord
  rw [nds_length, ← HN.out] at hn1 hn4
  obtain ⟨k, hk⟩ : ∃ k, k = n - 1 := ⟨_, rfl⟩
  have hkx : k < xs.length := by have := HN.out; omega
  obtain ⟨bn, on, rfl, hcells, hin⟩ := HP.out.1.at hkx
  have hzf := (HP.out.2 _ (gn_mem hkx)).1
  have hkk : ∀ z ∈ (gn xs k).nd.kids, 0 ≤ z ∧ z < (k : Int) := by
   have h := ordOk_kid hok (show k < (nds xs).length by rw [nds_length]; exact hkx)
   rw [← nN_at (by rw [nds_length]; exact hkx), ← gn_nds] at h
   exact h
  have hKT : kidsT (nds xs) = (gn xs k).nd.kids.map (ofT (nds xs)) := by
   unfold kidsT
   rw [hord]
   simp only
   rw [nds_length, ← HN.out, ← hk, gn_nd hkx]
   refine List.map_congr_left fun z hz => ?_
   have := hkk z hz
   unfold ofT
   rw [hord]
   simp only
   rw [if_pos (by rw [nds_length]; omega)]
  obtain ⟨z, hz⟩ : ∃ z, z = gn xs k := ⟨_, rfl⟩
  rw [← hz] at hcells hin hzf hKT
  obtain ⟨ls, hls⟩ : ∃ n, n = z.nd.set.length := ⟨_, rfl⟩
  obtain ⟨lk, hlk⟩ : ∃ n, n = z.nd.kids.length := ⟨_, rfl⟩
  obtain ⟨v0, v3, v4, v5, v6, v7, v8, hl1, _⟩ := node_lit5 z ls lk hls hlk
  obtain ⟨c0, c1, c2, c3, c4, c5, c6, c7, c8⟩ := cellsN_lit hcells hl1
  have hkz := hin.kids
  obtain ⟨ks, hks⟩ : ∃ y, y = z.nd.kids := ⟨_, rfl⟩
  obtain ⟨qs, hqs⟩ : ∃ y, y = z.ps := ⟨_, rfl⟩
  obtain ⟨es, hes⟩ : ∃ y, y = z.cs := ⟨_, rfl⟩
  obtain ⟨qk, hqk⟩ : ∃ y, y = z.pk := ⟨_, rfl⟩
  obtain ⟨ek, hek⟩ : ∃ y, y = z.ck := ⟨_, rfl⟩
  rw [← hks] at hKT hkz hlk hzf
  rw [← hqk] at hkz
  rw [← hqs, ← hes] at c1
  rw [← hqk, ← hek] at c2
  rw [← hlk] at hzf
  have k0 := cell_keepX c0 HB5.out
  have k1 := cell_keepX c1 HB5.out
  have k2 := cell_keepX c2 HB5.out
  have k3 := cell_keepX c3 HB5.out
  have k4 := cell_keepX c4 HB5.out
  have k5 := cell_keepX c5 HB5.out
  have k6 := cell_keepX c6 HB5.out
  have k7 := cell_keepX c7 HB5.out
  have k8 := cell_keepX c8 HB5.out
  obtain ⟨B, hBe⟩ : ∃ B, B = W1.heap.size := ⟨_, rfl⟩
  obtain ⟨bN, hbN⟩ : ∃ b, b = w5.heap.size := ⟨_, rfl⟩
  obtain ⟨w6, hw6⟩ : ∃ W, W = w5.alloc (.cells #[.int .u8 v0, .slice qs ls es, .slice qk lk ek, .int .i64 v3, .int .i64 v4, .int .i64 v5, .int .u8 v6, .int .u8 v7, .bool v8] 28) := ⟨_, rfl⟩
  have hb6 : Below w5.heap.size w5 w6 := by rw [hw6]; exact bl_alloc _ _
  have HN6 : Hid (Bx w6 bN 28 #[.int .u8 v0, .slice qs ls es, .slice qk lk ek, .int .i64 v3, .int .i64 v4, .int .i64 v5, .int .u8 v6, .int .u8 v7, .bool v8]) := by show Bx _ _ _ _; rw [hw6, hbN]; exact Bx.new _ _ _
  have HT6 := lh (HT5.out.below hb6)
  have HB6 := lh (HB5.out.trans (hb6.mono HB5.out.size))
  have HBB : Hid (b0 < B ∧ w.heap.size < B) := by have := HS1.out; show _ ∧ _; omega
  have HBN : Hid (B ≤ bN) := by have := HS5.out; show _ ≤ _; omega
  have HW6 := lh (And.intro hw6.symm hbN.symm)
  have HKZ := lh hkz
  have HLK := lh (And.intro hlk hKT)
  have cX0 := HT5.out.cell (i := 0) rfl
  have cX1 := HT5.out.cell (i := 1) rfl
  have hkI : (n : Int) - 1 = (k : Nat) := by omega
  have hkn : (k : Int) < n := by omega
  clear hord hok hn1 hn4 hk hkx hcells hin hkk hKT hz hls hlk hl1 c0 c1 c2 c3 c4 c5 c6 c7 c8 hkz hks hqs hes hqk hek hBe hbN hw6 hb6
  go_upto_region 5 with fail
  rw [HW6.out.2, HW6.out.1]
  clear k0 k1 k2 k3 k4 k5 k6 k7 k8 cX0 cX1
  go_wp2
  go_loopw [3, 5] (fun ov jv wr => RelK w b0 bN B n c lk #[.slice (some ⟨bn, on, none⟩) n c, names] #[.int .u8 v0, .slice qs ls es, .slice qk lk ek, .int .i64 v3, .int .i64 v4, .int .i64 v5, .int .u8 v6, .int .u8 v7, .bool v8] ks (nds xs) ov jv wr) (fun _ jv _ => lk - (intOf jv).toNat)
  case atStart => exact relK 0 none 0 [] (Nat.zero_le _) rfl rfl rfl HN6.out HT6.out (ownT_nil _ _) rfl (fun t ht => by simp at ht) HB6.out
  case round =>
   obtain ⟨j, q, cq, ts, hj, rfl, rfl, hTL, hNq, hTq, hRq, hTN, hAB, hBq⟩ := hrel
   rename World => wr
   have HTL := lh hTL
   have HTN := lh hTN
   have HAB := lh hAB
   have HNq := lh hNq
   have HTq := lh hTq
   have HRq := lh hRq
   have HBq := lh hBq
   clear hTL hNq hTq hRq hTN hAB hBq
   have c2 := (nine HNq.out).2.2.1
   by_cases hjl : j < lk
   ·have hjI : (j : Int) < lk := by omega
    have hjx : j < ks.length := by have := HLK.out.1; omega
    obtain ⟨bk, ok, rfl, ck⟩ := slz_at HKZ.out hjx
    obtain ⟨zz, hzz⟩ : ∃ y, y = gz ks j := ⟨_, rfl⟩
    have hkt : ks.take (j + 1) = ks.take j ++ [zz] := by rw [hzz]; exact gz_take hjx
    rw [← hzz] at ck
    have HSS : Hid (∀ V, Below w.heap.size w V → Bx V b0 34 #[.slice (some ⟨bn, on, none⟩) n c, names] → Bx V bN 28 #[.int .u8 v0, .slice qs ls es, .slice (some ⟨bk, ok, none⟩) lk ek, .int .i64 v3, .int .i64 v4, .int .i64 v5, .int .u8 v6, .int .u8 v7, .bool v8] → (fun (V : World) => V.cell? ⟨b0, 0, none⟩ = some (.slice (some ⟨bn, on, none⟩) n c) ∧ V.cell? ⟨b0, 1, none⟩ = some names ∧ V.cell? ⟨bN, 2, none⟩ = some (.slice (some ⟨bk, ok, none⟩) lk ek) ∧ V.cell? ⟨bk, ok + j, none⟩ = some (.int .i64 zz)) V) := fun V hV hT hN => ⟨hT.cell rfl, hT.cell rfl, hN.cell rfl, cell_keepX ck hV⟩
    have HKT := lh hkt
    clear hzz hkt ck hjx
    go_wp2
    refine wp_region_L (S := (fun (V : World) => V.cell? ⟨b0, 0, none⟩ = some (.slice (some ⟨bn, on, none⟩) n c) ∧ V.cell? ⟨b0, 1, none⟩ = some names ∧ V.cell? ⟨bN, 2, none⟩ = some (.slice (some ⟨bk, ok, none⟩) lk ek) ∧ V.cell? ⟨bk, ok + j, none⟩ = some (.int .i64 zz))) (S2 := (fun (V : World) => V.cell? ⟨b0, 0, none⟩ = some (.slice (some ⟨bn, on, none⟩) n c) ∧ V.cell? ⟨b0, 1, none⟩ = some names ∧ V.cell? ⟨bN, 2, none⟩ = some (.slice (some ⟨bk, ok, none⟩) lk ek) ∧ V.cell? ⟨bk, ok + j, none⟩ = some (.int .i64 zz))) 10 10 (by kernel_rfl) ?_
    have hbd : Below w.heap.size w wr.drew := HBq.out.drew
    have hTd := HTq.out.below (bl_drew wr)
    have hNd := HNq.out.below (bl_drew wr)
    have hRd := HRq.out.below (bl_drew wr)
    obtain ⟨WZ, hWZ⟩ : ∃ W, W = wr.drew := ⟨_, rfl⟩
    rw [← hWZ] at hbd hTd hNd hRd ⊢
    have HBD := lh hbd
    have HTD := lh hTd
    have HND := lh hNd
    have HRD := lh hRd
    have hS := HSS.out WZ hbd hTd hNd
    have hS2 := hS
    have HW3S := lh (show B ≤ WZ.heap.size by have := HND.out.lt; have := HBN.out; omega)
    clear hWZ hbd hTd hNd hRd c2
    refine tk1 0 ⟨hS, hS2⟩ ?_
    try simp only [Act.put, sb]
    refine tk1 1 ⟨hS, hS2⟩ ?_
    try simp only [Act.put, sb]
    refine tk1 2 ⟨hS, hS2⟩ ?_
    try simp only [Act.put, sb]
    refine tk1 3 ⟨hS, hS2⟩ ?_
    try simp only [Act.put, sb]
    refine tk1 4 ⟨hS, hS2⟩ ?_
    try simp only [Act.put, sb]
    refine tk1 5 ⟨hS, hS2⟩ ?_
    try simp only [Act.put, sb]
    refine tk1 6 ⟨hS, hS2⟩ ?_
    try simp only [Act.put, sb]
    refine aone 7 (fun K hK => ?_)
    go_simp
    refine (HOF.out zz WZ HBD.out).mono ?_
    rintro e v1 ⟨q1, m1, c1, ys1, hm1, rfl, ho1, hn1, hbv1⟩
    have HB1 := lh (HBD.out.trans (hbv1.mono HBD.out.size))
    have HO1 := lh (And.intro hm1 (And.intro ho1 (And.intro hn1 hbv1.size)))
    have HT1 := lh (HTD.out.below hbv1)
    have HN1 := lh (HND.out.below hbv1)
    have HR1 := lh (HRD.out.below hbv1)
    have hSv1 := HSS.out v1 HB1.out HT1.out HN1.out
    refine hK.out _ _ ⟨fun _ => hSv1, fun _ => hSv1⟩ ?_
    clear hK K hS hS2 hbv1 hm1 ho1 hn1
    have hS := hSv1
    have hS2 := hSv1
    clear hSv1
    try simp only [Act.put, sb]
    refine aone 8 (fun K hK => ?_)
    go_simp
    obtain ⟨v2, hv2⟩ : ∃ W, W = v1.alloc (.cells #[.slice q1 m1 c1, .slice none 0 0] 34) := ⟨_, rfl⟩
    have hbl : Below v1.heap.size v1 v2 := by rw [hv2]; exact bl_alloc _ _
    have HC2 : Hid (∀ i u, [Value.slice q1 m1 c1, .slice none 0 0][i]? = some u → v2.cell? ((⟨v1.heap.size, 0, none⟩ : Addr).add i) = some u) := by rw [hv2]; exact cells_nine v1 _ _
    rw [← hv2]
    have HB2x := lh (HB1.out.trans (hbl.mono HB1.out.size))
    have HT2 := lh (HT1.out.below hbl)
    have HN2 := lh (HN1.out.below hbl)
    have HR2 := lh (HR1.out.below hbl)
    have HO2 := lh ((HO1.out.2.1.down HW3S.out).below hbl)
    have HBL := lh hbl
    have hSv2 := HSS.out v2 HB2x.out HT2.out HN2.out
    refine hK.out _ _ ⟨fun _ => hSv2, fun _ => hSv2⟩ ?_
    clear hK K hS hS2 hv2 hbl
    have hS := hSv2
    have hS2 := hSv2
    clear hSv2
    try simp only [Act.put, sb]
    refine aone 9 (fun K hK => ?_)
    have HROW := lh (ownT_row HR2.out HTL.out)
    refine step_append_lies _ rfl _ _ 29 rfl B 34 i0 (.agg #[.slice none 0 0, .slice none 0 0]) 2 48 Tryz.underlying29 hinf hz0 hz1 hz2 rfl (by decide) (.slice q j cq) j _ rfl HROW.out ⟨v1.heap.size, 0, none⟩ 1 1 [.slice q1 m1 c1, .slice none 0 0] rfl rfl HC2.out (by simp [Value.oneCell']) (by decide) (by simp only [maxLen]; omega) (by omega) (by have := HW3S.out; have := HO1.out.2.2.2; have := HBL.out.size; omega) _ rfl ?_
    intro gg cap w9 hown hgrow hat hlt
    have hR9 : OwnT w9 B (.slice (some ⟨gg, 0, none⟩) (j + 1) cap) (ts ++ [tv q1 c1 ys1]) := OwnT.more HR2.out HTL.out (by show OwnN _ _ (.slice q1 ys1.length c1) ys1; rw [← HO1.out.1]; exact HO2.out) (by show World.ownsRow _ _ _ _ _ _ (_ ++ [.slice q1 ys1.length c1, .slice none 0 0]); rw [← HO1.out.1]; exact hown) hgrow
    have kN := HN2.out.kept hgrow (Ne.symm (row_ne HR2.out.row HN2.out (by decide)))
    have kT := HT2.out.kept hgrow (fun e => by have h1 := (HROW.out.lt b0 e.symm).1; have := HBB.out; omega)
    have hB9 : Below w.heap.size w w9 := HB2x.out.grown hgrow HB2x.out.size (fun g e => Nat.le_trans (Nat.le_of_lt HBB.out.2) (HROW.out.lt g e).1)
    have HR9 := lh hR9
    have HN9 := lh kN
    have HT9 := lh kT
    have HB9 := lh hB9
    have HL9 : Hid (j + 1 = (ts ++ [tv q1 c1 ys1]).length) := by show _ = _; rw [List.length_append, ← HTL.out]; rfl
    have HM9 : Hid (treesN (ts ++ [tv q1 c1 ys1]) = (ks.take (j + 1)).map (ofT (nds xs))) := by show _ = _; rw [HKT.out, List.map_append, ← HTN.out]; simp [treesN, tv, HO1.out.2.2.1]
    have HA9 : Hid (∀ t ∈ ts ++ [tv q1 c1 ys1], t.na = none ∧ t.nn = 0 ∧ t.nc = 0) := fun t ht => by rcases List.mem_append.1 ht with h1 | h1; (· exact HAB.out t h1); (· simp only [List.mem_singleton] at h1; subst h1; exact ⟨rfl, rfl, rfl⟩)
    have hSw := HSS.out w9 hB9 kT kN
    refine hK.out _ _ ⟨fun _ => hSw, fun _ => hSw⟩ ?_
    clear hK K hS hS2 hown hgrow hat hlt hR9 hB9 kT kN
    have hS := hSw
    have hS2 := hSw
    clear hSw
    try simp only [Act.put, sb]
    refine aone 10 (fun K hK => ?_)
    go_simp
    refine hK.out _ _ ⟨fun h => absurd h (by decide), fun h => absurd h (by decide)⟩ ?_
    clear hK K hS hS2
    try simp only [Act.put, sb]
    refine anyL_done (by kernel_rfl) (show onlyN _ .normal _ _ from ?_) _
    dsimp only [onlyN]
    go_wp2
    go_roundw
    case rel => exact relK (j + 1) (some ⟨gg, 0, none⟩) cap (ts ++ [tv q1 c1 ys1]) (by omega) rfl (by go_num) HL9.out HN9.out HT9.out HR9.out HM9.out HA9.out HB9.out
    case measure => simp [intOf] <;> omega
   ·have hjI : ¬ ((j : Int) < lk) := by omega
    obtain rfl : lk = j := by omega
    have HF : Hid (treesN ts = kidsT (nds xs)) := by show _ = _; rw [HTN.out, HLK.out.2, HLK.out.1, List.take_length]
    go_wp2
    go_ret
    exact ⟨_, _, _, _, HTL.out, rfl, HRq.out.down (Nat.le_of_lt HBB.out.2), HF.out, HAB.out, HBq.out⟩
end Go.Proofs.YtkefndfgkmdphaaGreat

