import Derived.Test.YtkefndfgkmdphaaGreatFi
import Derived.Test.YtkefndfgkmdphaaGreatLc
import Derived.OwnWalkIn
import Derived.TacticsInMore
import Derived.LoopNIn
import Derived.LoopIn
import Derived.Deep.RegionHeld

namespace Go.Proofs.YtkefndfgkmdphaaGreat
set_option maxHeartbeats 3200000
set_option maxRecDepth 100000
open Go.RowKit Tnr Tnt

theorem nine {w : World} {b : Nat} {T : TypeId} {c0 c1 c2 c3 c4 c5 c6 c7 c8 : Value} (h : Bx w b T #[c0, c1, c2, c3, c4, c5, c6, c7, c8]) : w.cell? ⟨b, 0, none⟩ = some c0 ∧ w.cell? ⟨b, 1, none⟩ = some c1 ∧ w.cell? ⟨b, 2, none⟩ = some c2 ∧ w.cell? ⟨b, 3, none⟩ = some c3 ∧ w.cell? ⟨b, 4, none⟩ = some c4 ∧ w.cell? ⟨b, 5, none⟩ = some c5 ∧ w.cell? ⟨b, 6, none⟩ = some c6 ∧ w.cell? ⟨b, 7, none⟩ = some c7 ∧ w.cell? ⟨b, 8, none⟩ = some c8 :=
 ⟨h.cell rfl, h.cell rfl, h.cell rfl, h.cell rfl, h.cell rfl, h.cell rfl, h.cell rfl, h.cell rfl, h.cell rfl⟩
theorem gn_snoc_map {xs : List NV} {f : Nd → Nd} {k : Nat} (h : k < xs.length) : (xs.take (k + 1)).map (fun x => f x.nd) = (xs.take k).map (fun x => f x.nd) ++ [f (gn xs k).nd] := by
 rw [take_gn h, List.map_append]; rfl
theorem gz_take {l : List Int} {k : Nat} (h : k < l.length) : l.take (k + 1) = l.take k ++ [gz l k] := by
 rw [List.take_add_one, List.getElem?_eq_getElem h, gz_get h]; rfl
def mvd (d : Int) (l : List Int) (j : Nat) : List Int := (l.take j).map (fun k => w64 (k + d)) ++ l.drop j
theorem mvd_length (d : Int) (l : List Int) (j : Nat) (h : j ≤ l.length) : (mvd d l j).length = l.length := by
 simp [mvd]; omega
theorem mvd_zero (d : Int) (l : List Int) : mvd d l 0 = l := by simp [mvd]
theorem mvd_end (d : Int) (l : List Int) : mvd d l l.length = l.map fun k => w64 (k + d) := by simp [mvd]
theorem mvd_at {d : Int} {l : List Int} {j : Nat} (h : j < l.length) : gz (mvd d l j) j = gz l j := by
 rw [gz_get (by rw [mvd_length _ _ _ (by omega)]; exact h), gz_get h]
 unfold mvd
 rw [List.getElem_append_right (by simp; omega)]
 simp [show min j l.length = j by omega]
theorem mvd_set {d : Int} {l : List Int} {j : Nat} (h : j < l.length) : (mvd d l j).set j (w64 (gz l j + d)) = mvd d l (j + 1) := by
 unfold mvd
 rw [List.set_append_right _ _ (by simp; omega), gz_take h, List.map_append, List.append_assoc]
 congr 1
 rw [show j - ((l.take j).map fun k => w64 (k + d)).length = 0 by simp; omega, List.drop_eq_getElem_cons h]
 rfl
theorem ownZ_set {w : World} {B g c n : Nat} {l : List Int} (h : OwnZ w B (.slice (some ⟨g, 0, none⟩) n c) l) (hn : n = l.length) (j : Nat) (x : Int) : OwnZ (w.setCell ⟨g, j, none⟩ (.int .i64 x)) B (.slice (some ⟨g, 0, none⟩) n c) (l.set j x) := by
 subst hn
 have := (World.ownsRow.stored h j (.int .i64 x)).1
 unfold OwnZ
 rw [List.length_set, List.map_set]
 exact this
theorem ownZ_at {w : World} {B n c : Nat} {q : Option Addr} {l : List Int} (h : OwnZ w B (.slice q n c) l) (hn : n = l.length) {j : Nat} (hj : j < n) :
  ∃ g, q = some ⟨g, 0, none⟩ ∧ B ≤ g ∧ w.cell? ⟨g, j, none⟩ = some (.int .i64 (gz l j)) ∧ w.frozen? ⟨g, j, none⟩ = false ∧ ∃ cs, w.heap[g]? = some (.cells cs 3 (0, 0)) := by
 subst hn
 have h' := h
 rcases h.2 with ⟨e, hn⟩ | ⟨g, cap, cur, e, hb, hg, hnc, hcm, hcs, htake⟩
 ·omega
 ·simp only [Value.slice.injEq, true_and] at e
  obtain ⟨rfl, rfl⟩ := e
  unfold OwnZ at h'
  refine ⟨g, rfl, hb, ?_, by simp [World.frozen?, hg], cur, hg⟩
  rw [h'.cellAt j (by omega), List.getElem?_map, List.getElem?_eq_getElem hj, gz_get hj]; rfl

def blk (p : Option Addr) : Option Nat := p.map Addr.block
theorem own_blk (p : Option Addr) (n c : Nat) : (Value.slice p n c).ownBlock = blk p := by cases p <;> rfl
def DisN (ys : List NV) : Prop := ys.Pairwise fun x y => (∀ b, blk x.ps = some b → blk y.ps ≠ some b) ∧ (∀ b, blk x.pk = some b → blk y.pk ≠ some b)
theorem OwnN.blk {w : World} {B : Nat} {v : Value} {xs : List NV} (h : OwnN w B v xs) {y : NV} (hy : y ∈ xs) (b : Nat) : (Go.Proofs.YtkefndfgkmdphaaGreat.blk y.ps = some b → B ≤ b ∧ b < w.heap.size) ∧ (Go.Proofs.YtkefndfgkmdphaaGreat.blk y.pk = some b → B ≤ b ∧ b < w.heap.size) :=
 ⟨fun e => World.ownsRow.lt (h.set y hy) b (by rw [own_blk]; exact e), fun e => World.ownsRow.lt (h.kids y hy) b (by rw [own_blk]; exact e)⟩
theorem disN_join {xs ys : List NV} {C : Nat} (h : DisN xs) (k : DisN ys) (hx : ∀ x ∈ xs, ∀ b, (blk x.ps = some b → b < C) ∧ (blk x.pk = some b → b < C)) (hy : ∀ y ∈ ys, ∀ b, (blk y.ps = some b → C ≤ b) ∧ (blk y.pk = some b → C ≤ b)) : DisN (xs ++ ys) :=
 List.pairwise_append.2 ⟨h, k, fun x h1 y h2 => ⟨fun b e1 e2 => by have := (hx x h1 b).1 e1; have := (hy y h2 b).1 e2; omega, fun b e1 e2 => by have := (hx x h1 b).2 e1; have := (hy y h2 b).2 e2; omega⟩⟩
theorem disN_snoc {xs : List NV} {y : NV} {C : Nat} (h : DisN xs) (hx : ∀ x ∈ xs, ∀ b, (blk x.ps = some b → b < C) ∧ (blk x.pk = some b → b < C)) (hy : ∀ b, (blk y.ps = some b → C ≤ b) ∧ (blk y.pk = some b → C ≤ b)) : DisN (xs ++ [y]) :=
 disN_join h (List.pairwise_singleton _ _) hx fun y' h' b => by rw [List.mem_singleton] at h'; rw [h']; exact hy b

theorem moved_up (p : Option Addr) (c n : Nat) (xs : List NV) (d : Int) (w : World) (hn : n = xs.length) (hp : SlN w p xs) (hl : n ≤ 1000000) (hk : ∀ x ∈ xs, x.nd.kids.length ≤ 1000000 ∧ x.nd.set.length ≤ 1000000) :
  Calls Tryz.prog 37 #[.slice p n c, .int .i64 d] w fun e w' => ∃ q cq ys, e = .returned (.slice q n cq) ∧ OwnN w' w.heap.size (.slice q n cq) ys ∧ ys.map NV.nd = xs.map (fun x => mv d x.nd) ∧ Below w.heap.size w w' ∧ DisN ys := by
 obtain ⟨i0, hinf, hz0, hz1, hz2⟩ := info_parts info_node
 have HP := lh hp
 have HK := lh hk
 have hnI : (n : Int) ≤ 1000000 := by omega
 have HN := lh hn
 clear hp hk hn
 go_enter Tryz.func37, Tryz.ntmps37
 go_wp2_with (at_make; refine wpList_make_own _ rfl _ _ 60 rfl w.heap.size 28 i0 (.agg #[.int .u8 0, .slice none 0 0, .slice none 0 0, .int .i64 0, .int .i64 0, .int .i64 0, .int .u8 0, .int .u8 0, .bool false]) 9 Tryz.underlying60 hinf hz0 hz1 .i64 .i64 _ n rfl rfl ?m1 ?m3 ?m4 ?m5 ?_)
 case m1 => rfl
 case m3 => rw [hz2]; omega
 case m4 => simp only [maxLen]; omega
 case m5 => exact Nat.le_refl _
 intro w2 hown2 hgrow2
 have hb2 : Below w.heap.size w w2 := (Below.refl _ _).grown hgrow2 (Nat.le_refl _) (by simp)
 have HO2 : Hid (OwnN w2 w.heap.size (.slice (some ⟨w.heap.size, 0, none⟩) 0 n) []) := ⟨hown2, fun _ h => by simp at h, fun _ h => by simp at h⟩
 have HB2 := lh hb2
 clear hown2 hgrow2 hb2
 go_wp2
 go_loopw [5, 14] (fun ov iv wr => ∃ (k : Nat) (q : Option Addr) (cq : Nat) (ys : List NV), k ≤ n ∧ ov = .slice q k cq ∧ iv = .int .i64 (k : Nat) ∧ Hid (k = ys.length) ∧ Hid (OwnN wr w.heap.size (.slice q k cq) ys) ∧ Hid (ys.map NV.nd = (xs.take k).map fun x => mv d x.nd) ∧ Hid (Below w.heap.size w wr) ∧ Hid (DisN ys)) (fun _ iv _ => n - (intOf iv).toNat)
 case atStart => exact ⟨0, _, _, [], Nat.zero_le _, rfl, rfl, rfl, HO2.out, rfl, HB2.out, List.Pairwise.nil⟩
 case round =>
  obtain ⟨k, q, cq, ys, hk, rfl, rfl, HKL, HO, HM, HB, HDS⟩ := hrel
  rename World => wr
  by_cases hkn : k < n
  ·have hkx : k < xs.length := by have := HN.out; omega
   obtain ⟨bp, op, rfl, ⟨c0, c1, c2, c3, c4, c5, c6, c7, c8⟩, hin⟩ := (HP.out.below HB.out).at hkx
   have hkI : (k : Int) < n := by omega
   obtain ⟨hkl, hsl⟩ := HK.out (gn xs k) (gn_mem hkx)
   obtain ⟨x, hx⟩ : ∃ x, x = gn xs k := ⟨_, rfl⟩
   rw [← hx] at c0 c1 c2 c3 c4 c5 c6 c7 c8 hin hkl hsl
   obtain ⟨ls, hls⟩ : ∃ n, n = x.nd.set.length := ⟨_, rfl⟩
   obtain ⟨lk, hlk⟩ : ∃ n, n = x.nd.kids.length := ⟨_, rfl⟩
   rw [← hls] at c1 hsl
   rw [← hlk] at c2 hkl
   obtain ⟨bx, hbx⟩ : ∃ b, b = wr.heap.size := ⟨_, rfl⟩
   obtain ⟨w1, hw1⟩ : ∃ W, W = wr.alloc (.cells #[.int .u8 x.nd.kind, .slice x.ps ls x.cs, .slice x.pk lk x.ck, .int .i64 x.nd.group, .int .i64 x.nd.mn, .int .i64 x.nd.mx, .int .u8 x.nd.mode, .int .u8 x.nd.spot, .bool x.nd.neg] 28) := ⟨_, rfl⟩
   have hb1 : Below wr.heap.size wr w1 := by rw [hw1]; exact bl_alloc _ _
   have hbox : Bx w1 bx 28 #[.int .u8 x.nd.kind, .slice x.ps ls x.cs, .slice x.pk lk x.ck, .int .i64 x.nd.group, .int .i64 x.nd.mn, .int .i64 x.nd.mx, .int .u8 x.nd.mode, .int .u8 x.nd.spot, .bool x.nd.neg] := by rw [hw1, hbx]; exact Bx.new _ _ _
   have hs1 : w1.heap.size = bx + 1 := by rw [hw1, hbx]; simp
   have HIN := lh (hin.below hb1)
   have HCR := lh (fun (W : World) (hW : Below w1.heap.size w1 W) => copyR_any x.ps x.cs ls x.nd.set W hls (HIN.out.set.below hW) HIN.out.sn (by omega))
   have HCZ := lh (fun (W : World) (hW : Below w1.heap.size w1 W) => copyZ_any x.pk x.ck lk x.nd.kids W hlk (HIN.out.kids.below hW) HIN.out.kn (by omega))
   have HBX := lh hbox
   have HB1 := lh hb1
   have HS1 := lh hs1
   have HX := lh hx
   have HL := lh (And.intro hls hlk)
   have HW1 := lh hw1
   have HBB := lh hbx
   have HLK : Hid (lk ≤ 1000000) := hkl
   clear hin hkl hsl hx hls hlk hb1 hbox hs1 hw1 hbx hkn hkx
   go_wp2
   rw [show wr.heap.size = bx from HBB.out.symm, ← HW1.out]
   obtain ⟨d0, d1, d2, d3, d4, d5, d6, d7, d8⟩ := nine HBX.out
   have fz := HBX.out.free
   clear c0 c1 c2 c3 c4 c5 c6 c7 c8
   go_cut [] from 15 to 45 (fun wx => ∃ q5 e5 q6 e6, Hid (Bx wx bx 28 #[.int .u8 x.nd.kind, .slice q5 ls e5, .slice q6 lk e6, .int .i64 x.nd.group, .int .i64 x.nd.mn, .int .i64 x.nd.mx, .int .u8 x.nd.mode, .int .u8 x.nd.spot, .bool x.nd.neg]) ∧ Hid (OwnR wx wr.heap.size (.slice q5 ls e5) x.nd.set) ∧ Hid (OwnZ wx wr.heap.size (.slice q6 lk e6) x.nd.kids) ∧ Hid (Below wr.heap.size wr wx))
   case first =>
    go_region_with (first | (go_at_call 38; (with_reducible refine (HCR.out _ (bl_drew _)).mono ?_); rintro e w5 ⟨q5, e5, rfl, ho5, hb5⟩; have hb5' : Below w1.heap.size w1 w5 := bl_trans (bl_drew _) hb5; have hbx5 := HBX.out.below hb5'; obtain ⟨_, k1, k2, _⟩ := nine hbx5; have HO5 := lh ho5; have HBX5 := lh hbx5; have HB5 := lh hb5'; clear ho5 hb5 hb5' hbx5) | (go_at_call 77; (with_reducible refine (HCZ.out _ HB5.out).mono ?_); rintro e w6 ⟨q6, e6, rfl, ho6, hb6⟩; have hbx6 := HBX5.out.below hb6; have f61 := hbx6.free 1; have f62 := hbx6.free 2; obtain ⟨_, m1, m2, _⟩ := nine hbx6; have HO6 := lh ho6; have HBX6 := lh hbx6; have HB6 := lh hb6; clear ho6 hb6 hbx6))
    all_goals go_wp2_with fail
    all_goals go_meet
    all_goals
     have hz : wr.heap.size ≤ w1.heap.size := HB1.out.size
     have ho5 := ownR_below HO5.out HB6.out
     have e1 := HBX6.out.set 1 (.slice q5 ls e5)
     have e2 := e1.set 2 (.slice q6 lk e6)
     have hb := (bl_trans HB1.out (bl_trans HB5.out HB6.out))
     have ho5a : OwnR _ wr.heap.size _ _ := ownsRow_setCell_other (a := ⟨bx, 1, none⟩) (ownR_down ho5 hz) (ownR_ne ho5 HBX6.out (by decide)) (.slice q5 ls e5)
     have ho5b : OwnR _ wr.heap.size _ _ := ownsRow_setCell_other (a := ⟨bx, 2, none⟩) ho5a (ownR_ne ho5a e1 (by decide)) (.slice q6 lk e6)
     have ho6a : OwnZ _ wr.heap.size _ _ := ownsRow_setCell_other (a := ⟨bx, 1, none⟩) (ownZ_down HO6.out (Nat.le_trans hz HB5.out.size)) (row_ne HO6.out HBX6.out (by decide)) (.slice q5 ls e5)
     have ho6b : OwnZ _ wr.heap.size _ _ := ownsRow_setCell_other (a := ⟨bx, 2, none⟩) ho6a (row_ne ho6a e1 (by decide)) (.slice q6 lk e6)
     have hle : wr.heap.size ≤ bx := Nat.le_of_eq HBB.out.symm
     exact ⟨q5, e5, q6, e6, e2, ho5b, ho6b, (hb.setCell (p := ⟨bx, 1, none⟩) hle _).setCell (p := ⟨bx, 2, none⟩) hle _⟩
   case rest =>
    obtain ⟨q5, e5, q6, e6, HBX2, HO5, HO6, HB2⟩ := hcut
    have h2 := (nine HBX2.out).2.2.1
    go_wp2
    go_loopw [29] (fun jv wq => ∃ (j : Nat), j ≤ lk ∧ jv = .int .i64 (j : Nat) ∧ Hid (Bx wq bx 28 #[.int .u8 x.nd.kind, .slice q5 ls e5, .slice q6 lk e6, .int .i64 x.nd.group, .int .i64 x.nd.mn, .int .i64 x.nd.mx, .int .u8 x.nd.mode, .int .u8 x.nd.spot, .bool x.nd.neg]) ∧ Hid (OwnR wq wr.heap.size (.slice q5 ls e5) x.nd.set) ∧ Hid (OwnZ wq wr.heap.size (.slice q6 lk e6) (mvd d x.nd.kids j)) ∧ Hid (Below wr.heap.size wr wq)) (fun jv _ => lk - (intOf jv).toNat)
    case atStart => exact ⟨0, Nat.zero_le _, rfl, HBX2.out, HO5.out, by show OwnZ _ _ _ (mvd d x.nd.kids 0); rw [mvd_zero]; exact HO6.out, HB2.out⟩
    case round =>
     obtain ⟨j, hj, rfl, HBXq, HO5q, HO6q, HBq⟩ := hrel
     rename World => wq
     clear h2
     have hlkI : (lk : Int) ≤ 1000000 := by have := HLK.out; omega
     have hq2 := (nine HBXq.out).2.2.1
     by_cases hjk : j < lk
     ·have hjx : j < x.nd.kids.length := by have := HL.out.2; omega
      have hlen : lk = (mvd d x.nd.kids j).length := by rw [mvd_length _ _ _ (by omega)]; exact HL.out.2
      obtain ⟨g, rfl, hgB, hgc, hgf, cs, hgh⟩ := ownZ_at HO6q.out hlen hjk
      rw [mvd_at hjx] at hgc
      have hjI : (j : Int) < lk := by omega
      have HLEN := lh hlen
      have HGB := lh hgB
      have HGH := lh hgh
      have HJX := lh hjx
      have HNE : Hid (bx ≠ g) := fun e => by
       have := HBXq.out
       unfold Bx at this
       rw [e, hgh] at this
       simp at this
      clear hlen hgB hgh hjx
      go_wp2
      go_roundw
      case rel =>
       refine ⟨j + 1, by omega, by go_num, HBXq.out.other (a := ⟨g, j, none⟩) HNE.out _, ownsRow_setCell_other (a := ⟨g, j, none⟩) HO5q.out (ownR_ne HO5q.out HGH.out (by decide)) _, ?_, HBq.out.setCell (p := ⟨g, j, none⟩) HGB.out _⟩
       have := ownZ_set HO6q.out HLEN.out j (w64 (gz x.nd.kids j + d))
       rw [mvd_set HJX.out, w64_wrap] at this
       exact this
      case measure => simp [intOf]; omega
     ·obtain rfl : j = lk := by omega
      have hjI : (j : Int) ≤ j := by omega
      have hend : mvd d x.nd.kids j = x.nd.kids.map fun k => w64 (k + d) := by rw [HL.out.2]; exact mvd_end _ _
      rw [hend] at HO6q
      obtain ⟨h0, h1, h2, h3, h4, h5, h6, h7, h8⟩ := nine HBXq.out
      have hrow := ownN_row (HO.out.below HBq.out) HKL.out
      have HRO := lh hrow
      have HSZ := lh (show w.heap.size ≤ wq.heap.size from Nat.le_trans HB.out.size HBq.out.size)
      clear hrow hend
      go_wp2_with (at_builtin; refine wpList_append_own _ rfl _ _ 60 rfl w.heap.size 28 i0 (.agg #[.int .u8 0, .slice none 0 0, .slice none 0 0, .int .i64 0, .int .i64 0, .int .i64 0, .int .u8 0, .int .u8 0, .bool false]) 9 88 Tryz.underlying60 hinf hz0 hz1 hz2 rfl (by decide) (.slice q k cq) k _ rfl (HRO.out.alloc _) ⟨wq.heap.size, 0, none⟩ 1 1 [.int .u8 x.nd.kind, .slice q5 ls e5, .slice q6 j e6, .int .i64 x.nd.group, .int .i64 x.nd.mn, .int .i64 x.nd.mx, .int .u8 x.nd.mode, .int .u8 x.nd.spot, .bool x.nd.neg] rfl rfl ?k1 ?k2 ?k3 ?k4 ?k5 ?_)
      case k1 => exact cells_nine wq _ _
      case k2 => simp [Value.oneCell']
      case k3 => simp only [maxLen]; omega
      case k4 => omega
      case k5 => have := HSZ.out; simp; omega
      intro v5 w5 hown5 hgrow5 _
      have hlk2 : j = (x.nd.kids.map fun k => w64 (k + d)).length := by rw [List.length_map]; exact HL.out.2
      obtain ⟨y, hy⟩ : ∃ y : NV, y = ⟨mv d x.nd, q5, e5, q6, e6⟩ := ⟨_, rfl⟩
      have hey : encN y = [.int .u8 x.nd.kind, .slice q5 ls e5, .slice q6 j e6, .int .i64 x.nd.group, .int .i64 x.nd.mn, .int .i64 x.nd.mx, .int .u8 x.nd.mode, .int .u8 x.nd.spot, .bool x.nd.neg] := by
       rw [hy]; unfold encN mv; simp only; rw [← HL.out.1, ← hlk2]
      have hbl := bl_alloc wq (.cells #[.int .u8 x.nd.kind, .slice q5 ls e5, .slice q6 j e6, .int .i64 x.nd.group, .int .i64 x.nd.mn, .int .i64 x.nd.mx, .int .u8 x.nd.mode, .int .u8 x.nd.spot, .bool x.nd.neg] 28)
      have hbw : Below w.heap.size w wq := HB.out.trans (HBq.out.mono HB.out.size)
      have hO5 : OwnN w5 w.heap.size v5 (ys ++ [y]) := by
       refine OwnN.more ((HO.out.below HBq.out).below hbl) HKL.out ?_ ?_ (by rw [hey]; exact hown5) hgrow5
       ·rw [hy]; show OwnR _ _ (.slice q5 x.nd.set.length e5) x.nd.set
        rw [← HL.out.1]; exact ownR_below (ownR_down HO5q.out HB.out.size) hbl
       ·rw [hy]; show OwnZ _ _ (.slice q6 (x.nd.kids.map fun k => w64 (k + d)).length e6) (x.nd.kids.map fun k => w64 (k + d))
        rw [← hlk2]; exact ownZ_below (ownZ_down HO6q.out HB.out.size) hbl
      have hb5 : Below w.heap.size w w5 := (hbw.alloc hbw.size _).grown hgrow5 (by have := hbw.size; simp; omega) (fun g hg => (HRO.out.lt g hg).1)
      have hM5 : (ys ++ [y]).map NV.nd = (xs.take (k + 1)).map fun x => mv d x.nd := by
       rw [List.map_append, HM.out, gn_snoc_map (f := mv d) (by have := HN.out; omega), ← HX.out, hy]; rfl
      have hk5 : k + 1 = (ys ++ [y]).length := by rw [List.length_append, ← HKL.out]; rfl
      obtain ⟨q7, e7, rfl, _⟩ := hO5.form
      rw [← hk5] at hO5 ⊢
      have HD5 : Hid (DisN (ys ++ [y])) := disN_snoc HDS.out (C := wr.heap.size) (fun x hx b => ⟨fun e => ((HO.out.blk hx b).1 e).2, fun e => ((HO.out.blk hx b).2 e).2⟩) (fun b => ⟨fun e => (World.ownsRow.lt HO5q.out b (by rw [own_blk]; rw [hy] at e; exact e)).1, fun e => (World.ownsRow.lt HO6q.out b (by rw [own_blk]; rw [hy] at e; exact e)).1⟩)
      have HO5 := lh hO5
      have HB5 := lh hb5
      have HM5 := lh hM5
      have HK5 := lh hk5
      clear hown5 hgrow5 hO5 hb5 hM5 hk5 hy hey hbl hbw h0 h1 h2 h3 h4 h5 h6 h7 h8
      go_wp2
      go_roundw
      case rel => exact ⟨k + 1, q7, e7, _, by omega, rfl, by go_num, HK5.out, HO5.out, HM5.out, HB5.out, HD5.out⟩
      case measure => simp [intOf]; omega
  ·have hkI : (n : Int) ≤ k := by omega
   obtain rfl : k = n := by omega
   go_wp2
   go_ret
   refine ⟨q, cq, ys, rfl, HO.out, ?_, HB.out, HDS.out⟩
   rw [HM.out, List.take_of_length_le (by rw [← HN.out]; exact Nat.le_refl _)]
end Go.Proofs.YtkefndfgkmdphaaGreat


namespace Go.Proofs.YtkefndfgkmdphaaGreat
set_option maxHeartbeats 3200000
set_option maxRecDepth 100000
open Go.RowKit Tnr Tnt

attribute [local go_sem] Oper.semAt_some

def bk (l : List Int) : Nat → List (Nat × Int)
 | 0 => []
 | k + 1 => (k, gz l k) :: bk l k
theorem bk_length (l : List Int) : ∀ k, (bk l k).length = k
 | 0 => rfl
 | k + 1 => by simp [bk, bk_length l k]
theorem bk_snd (l : List Int) : ∀ k, k ≤ l.length → (bk l k).map Prod.snd = (l.take k).reverse
 | 0, _ => by simp [bk]
 | k + 1, h => by
  show gz l k :: (bk l k).map Prod.snd = _
  rw [bk_snd l k (by omega), gz_take (by omega), List.reverse_append]; rfl
theorem SlZ.putObj {w : World} {p : Option Addr} {l : List Int} (h : SlZ w p l) {k : Nat} {o : Obj} (o' : Obj) (hk : w.heap[k]? = some o) (ho : o.isCells = false) : SlZ (w.putObj k o') p l := by
 rcases h with h | ⟨b, off, h1, h2⟩
 ·exact .inl h
 ·refine .inr ⟨b, off, h1, fun i hi => ?_⟩
  have hg := grownBy_putObj' w k o'
  have hr : ∀ r, some k = some r → ∃ o : Obj, w.heap[r]? = some o ∧ o.isCells = false := fun r e => by cases e; exact ⟨o, hk, ho⟩
  exact cell_kept (h2 i hi) hg hr
theorem bx_putObj {w : World} {b : Nat} {T : TypeId} {cs : Array Value} (h : Bx w b T cs) {k : Nat} {o : Obj} (o' : Obj) (hk : w.heap[k]? = some o) (ho : o.isCells = false) : Bx (w.putObj k o') b T cs :=
 h.kept (grownBy_putObj' w k o') (fun e => by
  cases e
  rw [show w.heap[b]? = _ from h] at hk; cases hk; cases ho)
def KpZ (q : Option Addr) (d : List Int) (Bs : Nat) (W W' : World) : Prop := (SlZ W q d → SlZ W' q d) ∧ ∀ T cs, Bx W Bs T cs → Bx W' Bs T cs
theorem KpZ.trans {q : Option Addr} {d : List Int} {Bs : Nat} {a b c : World} (h : KpZ q d Bs a b) (k : KpZ q d Bs b c) : KpZ q d Bs a c := ⟨fun x => k.1 (h.1 x), fun T cs hv => k.2 T cs (h.2 T cs hv)⟩
theorem kpz_b {q : Option Addr} {d : List Int} {Bs : Nat} {w : World} (W : World) (l : Nat) (o o' : Obj) (_ : w.heap.size ≤ l) (h : W.heap[l]? = some o) (hc : o.isCells = false) (_ : o.isWalk = false) : KpZ q d Bs W (W.putObj l o') :=
 ⟨fun x => x.putObj o' h hc, fun _ _ hv => bx_putObj hv o' h hc⟩
theorem bx_own {β : Type} (b : Nat) (T : TypeId) (f : β → Array Value) : Own (fun s W => Bx W b T (f s)) := by
 rintro s X Y row h hg hrow
 refine Bx.kept h hg (fun e => ?_)
 obtain ⟨o, ho, hc⟩ := hrow b e.symm
 rw [show X.heap[b]? = _ from h] at ho; cases ho; cases hc

theorem back_any (q : Option Addr) (n c : Nat) (w : World) :
  Calls Tryz.prog 126 #[.slice q n c] w fun e w' => e = .returned (.func (.func 177) #[] #[.pointer (some ⟨w.heap.size, 0, none⟩)]) ∧ w' = w.alloc (.cells #[.slice q n c] 24) := by
 go_enter Tryz.func126, Tryz.ntmps126
 go_wp2
 go_ret
 exact ⟨rfl, rfl⟩

theorem back1_in (n l Bs : Nat) (q : Option Addr) (m cq : Nat) (d : List Int) (hm : m = d.length) (hld : d.length ≤ 1000000) (hn : 1 ≤ n) (J Jx : List (Nat × Int) → World → Prop)
  (hY : ∀ pre x W, J pre W → pre.length < m → YieldAt Fence.wide (n - 1) Tryz.prog l #[.int .i64 (x.1 : Nat), .int .i64 x.2] W fun e W' =>
   (e = .returned (.bool true) ∧ J (pre ++ [x]) W' ∧ KpZ q d Bs W W') ∨ (e = .returned (.bool false) ∧ Jx (pre ++ [x]) W'))
  (W : World) (hBs : Bx W Bs 24 #[.slice q m cq]) (hL : SlZ W q d) (h0 : J [] W) :
  CallsIn Fence.wide n Tryz.prog 177 #[.func (.yield l) #[] #[], .pointer (some ⟨Bs, 0, none⟩)] W fun e W' => (∃ v, e = .returned v) ∧
   ((∃ ys, ys = bk d m ∧ J ys W') ∨ (∃ pre, pre <+: bk d m ∧ Jx pre W')) := by
 have hmI : (m : Int) ≤ 1000000 := by omega
 have HM := lh hm
 have HL := lh hL
 have HBS := lh hBs
 have HY := lh hY
 have H0 := lh h0
 have hc : W.cell? ⟨Bs, 0, none⟩ = some (.slice q m cq) := hBs.cell rfl
 clear hm hL hY h0 hBs hld
 refine callsIn_of_wp Tryz.func177 rfl trivial ?_ rfl
 simp only [Tryz.ntmps177, List.size_toArray, List.length_cons, List.length_nil, Nat.reduceAdd, Nat.reduceSub, Array.replicate_succ, Array.replicate_zero, List.push_toArray, List.append_toArray, List.nil_append, List.cons_append]
 gi_wp2
 gi_loopw [3] (fun iv wr => ∃ (k : Nat) (pre : List (Nat × Int)), k ≤ m ∧ iv = .int .i64 ((k : Nat) - 1) ∧ Hid (pre ++ bk d k = bk d m) ∧ Hid (J pre wr) ∧ Hid (KpZ q d Bs W wr)) (fun iv _ => (intOf iv + 1).toNat)
 case atStart => exact ⟨m, [], Nat.le_refl _, rfl, rfl, H0.out, ⟨fun h => h, fun _ _ h => h⟩⟩
 case round =>
  obtain ⟨k, pre, hk, rfl, HE, HJP, HK⟩ := hrel
  rename World => wr
  have hbx := HK.out.2 _ _ HBS.out
  have hbc : wr.cell? ⟨Bs, 0, none⟩ = some (.slice q m cq) := hbx.cell rfl
  clear hbx hc
  cases k with
  | succ j =>
   have e1 : (((j + 1 : Nat) : Int) - 1) = (j : Nat) := by omega
   rw [e1]
   have hjd : j < d.length := by have := HM.out; omega
   obtain ⟨b, o, rfl, hc1⟩ := slz_at (HK.out.1 HL.out) hjd
   have hjI : (j : Int) < m := by omega
   have hE2 : (pre ++ [(j, gz d j)]) ++ bk d j = bk d m := by rw [List.append_assoc]; exact HE.out
   have hlen : pre.length < m := by
    have := congrArg List.length HE.out
    rw [List.length_append, bk_length, bk_length] at this
    omega
   have HE2 := lh hE2
   obtain ⟨fn, tmps, assign, body, hy, hR⟩ := HY.out pre (j, gz d j) wr HJP.out hlen
   dsimp only at hy
   have HJ := lh hk
   clear hE2 hlen HE HJP hk e1
   gi_wp2
   refine hR.mono ?_
   rintro e W3 (⟨rfl, hJ3, hk3⟩ | ⟨rfl, hJx3⟩)
   ·gi_wp2
    go_roundw
    case rel => exact ⟨j, pre ++ [(j, gz d j)], by have := HJ.out; omega, by go_num, HE2.out, hJ3, HK.out.trans hk3⟩
    case measure => simp [intOf]
   ·gi_wp2
    refine bodyPost_ret (results_none rfl _ _ _) rfl ?_
    exact ⟨⟨_, rfl⟩, .inr ⟨pre ++ [(j, gz d j)], ⟨_, HE2.out⟩, hJx3⟩⟩
  | zero =>
   have e1 : (((0 : Nat) : Int) - 1) = -1 := by omega
   rw [e1]
   gi_wp2
   go_end0
   have e2 := HE.out
   exact ⟨⟨_, rfl⟩, .inl ⟨pre, by rw [← e2]; simp [bk], HJP.out⟩⟩
theorem back_stops (n Bs : Nat) (q : Option Addr) (m cq : Nat) (d : List Int) (hm : m = d.length) (hld : d.length ≤ 1000000) (hn : 1 ≤ n) (w : World) (hBs : Bx w Bs 24 #[.slice q m cq]) (hL : SlZ w q d) :
  SeqStopsK Fence.wide n Tryz.prog 177 #[.pointer (some ⟨Bs, 0, none⟩)] (fun x : Nat × Int => #[.int .i64 (x.1 : Nat), .int .i64 x.2]) (KpZ q d Bs) (fun ys => ys = bk d m) (fun pre => pre <+: bk d m) m w :=
 fun l J Jx W hW _ _ hY h0 => back1_in n l Bs q m cq d hm hld hn J Jx hY W (hBs.below hW) (hL.below hW) h0
end Go.Proofs.YtkefndfgkmdphaaGreat

