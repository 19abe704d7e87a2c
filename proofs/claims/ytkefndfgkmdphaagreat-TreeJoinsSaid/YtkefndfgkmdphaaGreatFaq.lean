import Derived.Test.YtkefndfgkmdphaaGreatFi
import Derived.Test.YtkefndfgkmdphaaGreatFg
import Derived.Test.YtkefndfgkmdphaaGreatLj
import Derived.Test.YtkefndfgkmdphaaGreatFn
import Derived.Test.YtkefndfgkmdphaaGreatFc
import Derived.Test.YtkefndfgkmdphaaGreatFci
import Derived.Test.YtkefndfgkmdphaaGreatFcx
import Derived.Test.YtkefndfgkmdphaaGreatFcn
import Derived.Test.YtkefndfgkmdphaaGreatFct

namespace Go.Proofs.YtkefndfgkmdphaaGreat
set_option maxHeartbeats 3200000
set_option maxRecDepth 100000
open Go.RowKit Tnr Tnt

def treeV (vs : Nat → List Value) (t : TV) : Nat → List Value := updV (nodesV (updV vs 12 (vs 12 ++ [.slice t.q t.ys.length t.cq])) t.ys) 4 (vs 4 ++ [.slice t.na t.nn t.nc])
def treesV (vs : Nat → List Value) (ts : List TV) : Nat → List Value := ts.foldl treeV vs
theorem treesV_snoc (vs : Nat → List Value) (ts : List TV) (t : TV) : treeV (treesV vs ts) t = treesV vs (ts ++ [t]) := by unfold treesV; rw [List.foldl_append]; rfl
theorem treeV_at (vs : Nat → List Value) (t : TV) : treeV vs t 8 = vs 8 ++ t.ys.map (fun x => .slice x.ps x.nd.set.length x.cs) ∧ treeV vs t 2 = vs 2 ++ t.ys.map (fun x => .slice x.pk x.nd.kids.length x.ck) ∧ treeV vs t 4 = vs 4 ++ [.slice t.na t.nn t.nc] ∧ treeV vs t 12 = vs 12 ++ [.slice t.q t.ys.length t.cq] ∧ ∀ j, j ≠ 8 → j ≠ 2 → j ≠ 4 → j ≠ 12 → treeV vs t j = vs j := by
 obtain ⟨e8, e2, ej⟩ := nodesV_at (updV vs 12 (vs 12 ++ [.slice t.q t.ys.length t.cq])) t.ys
 unfold treeV
 refine ⟨?_, ?_, updV_same _ _ _, ?_, fun j h8 h2 h4 h12 => ?_⟩
 ·rw [updV_ne _ _ (by decide), e8, updV_ne _ _ (by decide)]
 ·rw [updV_ne _ _ (by decide), e2, updV_ne _ _ (by decide)]
 ·rw [updV_ne _ _ (by decide), ej 12 (by decide) (by decide), updV_same]
 ·rw [updV_ne _ _ h4, ej j h8 h2, updV_ne _ _ h12]
theorem treesV_at : ∀ (ts : List TV) (vs : Nat → List Value), treesV vs ts 8 = vs 8 ++ (ts.flatMap TV.ys).map (fun x => .slice x.ps x.nd.set.length x.cs) ∧ treesV vs ts 2 = vs 2 ++ (ts.flatMap TV.ys).map (fun x => .slice x.pk x.nd.kids.length x.ck) ∧ treesV vs ts 4 = vs 4 ++ ts.map (fun t => .slice t.na t.nn t.nc) ∧ treesV vs ts 12 = vs 12 ++ ts.map (fun t => .slice t.q t.ys.length t.cq) ∧ ∀ j, j ≠ 8 → j ≠ 2 → j ≠ 4 → j ≠ 12 → treesV vs ts j = vs j
 | [], vs => by simp [treesV]
 | t :: ts, vs => by
  obtain ⟨a, b, c, d, f⟩ := treesV_at ts (treeV vs t)
  obtain ⟨a', b', c', d', f'⟩ := treeV_at vs t
  have e : treesV vs (t :: ts) = treesV (treeV vs t) ts := rfl
  rw [e, a, b, c, d, a', b', c', d']
  refine ⟨by simp, by simp, by simp, by simp, fun j h1 h2 h3 h4 => by rw [f j h1 h2 h3 h4, f' j h1 h2 h3 h4]⟩
theorem oneTree_v (Bb : Nat) (s : Nat → Value) (vs : Nat → List Value) (t : TV) (ly : Nat) (w0 w : World) (hly : ly = t.ys.length) (h : BagV w Bb w0.heap.size s vs) (ht : TreeIn w0 t) (hb0 : Below w0.heap.size w0 w) (h8 : (vs 8).length + ly ≤ 1000000) (h2 : (vs 2).length + ly ≤ 1000000) (h12 : (vs 12).length ≤ 1000000) (h4 : (vs 4).length ≤ 1000000) :
  Calls Tryz.prog 84 #[.pointer (some ⟨Bb, 0, none⟩), .agg #[.slice t.q ly t.cq, .slice t.na t.nn t.nc]] w (PutsV w0.heap.size Bb w vs (treeV vs t)) := by
 obtain ⟨W1, hW1⟩ : ∃ W, W = w.alloc (.cells #[.slice t.q ly t.cq, .slice t.na t.nn t.nc] 34) := ⟨_, rfl⟩
 obtain ⟨b0, hb0'⟩ : ∃ b, b = w.heap.size := ⟨_, rfl⟩
 have hb1 : Below w.heap.size w W1 := by rw [hW1]; exact bl_alloc _ _
 have hX : Bx W1 b0 34 #[.slice t.q ly t.cq, .slice t.na t.nn t.nc] := by rw [hW1, hb0']; exact Bx.new _ _ _
 have hle : w0.heap.size ≤ w.heap.size := hb0.size
 have HP1 := lh (putNodes_v Bb s vs t.q ly t.cq t.ys w0 W1 hly (h.below hb1) ht.nodes (hb0.trans (hb1.mono hle)) h12 h8 h2)
 have HX := lh hX
 have HL := lh hly
 have HLT := lh hle
 have HB1 := lh hb1
 have HW1 := lh (And.intro hb0'.symm hW1.symm)
 have HH4 := lh h4
 have HBL := lh (show Bb < b0 by rw [hb0']; exact h.lt)
 clear hb1 hX hly hW1 hb0' h h8 h2 h12 h4 hle ht hb0
 go_enter Tryz.func84, Tryz.ntmps84
 go_upto_region 1 with fail
 rw [HW1.out.1, HW1.out.2]
 have c0 := HX.out.cell (i := 0) rfl
 go_wp2_with fail
 refine HP1.out.mono ?_
 rintro e w2 ⟨rfl, ⟨s', hbag⟩, hb2, hk2⟩
 have hX2 := hk2 b0 _ _ (by have := HBL.out; omega) (by decide) HX.out
 have d1 := hX2.cell (i := 1) rfl
 have HP2 := lh (putTexts_v Bb w0.heap.size s' _ t.na t.nn t.nc w2 hbag (by rw [(nodesV_at _ _).2.2 4 (by decide) (by decide), updV_ne _ _ (by decide)]; exact HH4.out))
 have HB2 := lh hb2
 have HK2 := lh hk2
 clear hX2 hbag hb2 hk2 c0 HP1
 go_wp2_with fail
 refine HP2.out.mono ?_
 rintro e w3 ⟨rfl, hbag, hb3, hk3⟩
 have HBAG := lh hbag
 have HB3 := lh ((HB1.out.mono HLT.out).trans (HB2.out.trans hb3))
 have HK3 := lh (((KeepT.of HB1.out).trans HK2.out).trans hk3)
 clear hbag hb3 hk3 d1 HP2
 go_wp2
 go_end0
 refine ⟨rfl, ?_, HB3.out, HK3.out⟩
 have h := HBAG.out
 rw [(nodesV_at _ _).2.2 4 (by decide) (by decide), updV_ne (k := 4) _ _ (by decide), HL.out] at h
 exact h
theorem finfoSTrees : (Tryz.prog.info? 29).map (fun i => (i.zero, i.size, i.bytes)) = some (some (.slice none 0 0), 1, 24) := by kernel_rfl
theorem putTrees_v (Bb : Nat) (s : Nat → Value) (vs : Nat → List Value) (p : Option Addr) (n c : Nat) (xs : List TV) (w0 w : World) (hn : n = xs.length) (h : BagV w Bb w0.heap.size s vs) (hx : SlT w0 p xs) (hb0 : Below w0.heap.size w0 w) (hl : (vs 13).length ≤ 1000000) (h8 : (vs 8).length + sizeT xs ≤ 1000000) (h2 : (vs 2).length + sizeT xs ≤ 1000000) (h12 : (vs 12).length + n ≤ 1000000) (h4 : (vs 4).length + n ≤ 1000000) :
  Calls Tryz.prog 50 #[.pointer (some ⟨Bb, 0, none⟩), .slice p n c] w (PutsV w0.heap.size Bb w vs (treesV (updV vs 13 (vs 13 ++ [.slice p n c])) xs)) := by
 obtain ⟨i0, hinf, hz0, hz1, hz2⟩ := finfo_parts finfoSTrees
 have HB := lh h
 have HL := lh hl
 obtain ⟨si, hsi⟩ : ∃ z, z = s 13 := ⟨_, rfl⟩
 have hc := h.cell 13 (by decide)
 have hf := h.free 13 (by decide)
 rw [← hsi] at hc
 have HBW := lh h.lt
 have HSI := lh hsi
 have HBG : Hid (BagV (w.alloc (.cells #[.slice p n c] 29)) Bb w0.heap.size s vs) := h.below ((Below.refl _ _).alloc (Nat.le_refl _) _)
 have HRO := lh (h.row 13 (by decide))
 have hrow := HBG.out.row 13 (by decide)
 rw [← hsi] at hrow
 have HRW := lh hrow
 have HX := lh hx
 have HN := lh hn
 have HB0 := lh hb0
 have HLL := lh (And.intro h8 (And.intro h2 (And.intro h12 h4)))
 have hnI : (n : Int) ≤ 1000000 := by omega
 clear h hl hsi hrow hx hn hb0 h8 h2 h12 h4
 go_enter Tryz.func50, Tryz.ntmps50
 go_wp2_with (at_builtin; refine wpList_append_own _ rfl _ _ 46 rfl (Bb + 1) 29 i0 (.slice none 0 0) 1 24 Tryz.underlying46 hinf hz0 hz1 hz2 rfl (by decide) si (vs 13).length _ rfl HRW.out ⟨w.heap.size, 0, none⟩ 1 1 [.slice p n c] rfl rfl (cells_one_z _ _ _) (by simp [Value.oneCell']) (by have := HL.out; simp only [maxLen]; omega) (by have := HL.out; omega) (by have := HBW.out; simp; omega) ?_)
 intro v5 w5 hown5 hgrow5 _
 have hput := HBG.out.put (i := 13) (by decide) (by rw [← HSI.out]; exact hgrow5) hown5
 have hbb : w5.heap[Bb]? = w.heap[Bb]? := (hgrow5.block Bb (by have := HBW.out; simp; omega) (fun e => row_not HRW.out e.symm)).trans (Below.heap_alloc _ _ _ HBW.out)
 have hc5 : w5.cell? ⟨Bb, 13, none⟩ = some si := by rw [World.cell?_of_block (w := w) (w' := w5) (a := ⟨Bb, 13, none⟩) hbb]; exact hc
 have hf5 : w5.frozen? ⟨Bb, 13, none⟩ = false := by rw [World.frozen?_of_block (w := w) (w' := w5) (a := ⟨Bb, 13, none⟩) hbb]; exact hf
 have hkt : KeepT Bb w (w5.setCell ⟨Bb, 13, none⟩ v5) := fun b T cs hne hT hb => by
  have h1 : Bx (w.alloc (.cells #[.slice p n c] 29)) b T cs := hb.below ((Below.refl _ _).alloc (Nat.le_refl _) _)
  exact (h1.kept hgrow5 (fun e => row_ne HRW.out h1 (hT 13 (by decide)) e.symm)).other (a := ⟨Bb, 13, none⟩) hne v5
 have hb5 : Below w0.heap.size w (w5.setCell ⟨Bb, 13, none⟩ v5) := by
  refine Below.setCell (((Below.refl w0.heap.size w).alloc (by have := HBW.out; have := HB.out.base; omega) _).grown hgrow5 (by have := HBW.out; have := HB.out.base; simp; omega) (fun k hk => ?_)) HB.out.base v5
  have := (HRO.out.lt k (by rw [← HSI.out]; exact hk)).1
  have := HB.out.base
  omega
 have HPUT := lh hput
 have HB5 := lh hb5
 have HKT := lh hkt
 obtain ⟨q5, n5, c5, rfl⟩ : ∃ q n c, v5 = .slice q n c := by
  rcases hown5.2 with ⟨h, _⟩ | ⟨g, cap, cur, h, _⟩
  ·exact ⟨_, _, _, h⟩
  ·exact ⟨_, _, _, h⟩
 clear hput hb5 hkt hown5 hgrow5 hbb hc hf
 obtain ⟨V, hV⟩ : ∃ V, V = updV vs 13 (vs 13 ++ [.slice p n c]) := ⟨_, rfl⟩
 have HVL : Hid ((V 8).length + sizeT xs ≤ 1000000 ∧ (V 2).length + sizeT xs ≤ 1000000 ∧ (V 12).length + n ≤ 1000000 ∧ (V 4).length + n ≤ 1000000) := by
  rw [hV]
  refine ⟨?_, ?_, ?_, ?_⟩
  ·rw [updV_ne _ _ (by decide)]; exact HLL.out.1
  ·rw [updV_ne _ _ (by decide)]; exact HLL.out.2.1
  ·rw [updV_ne _ _ (by decide)]; exact HLL.out.2.2.1
  ·rw [updV_ne _ _ (by decide)]; exact HLL.out.2.2.2
 rw [← hV] at HPUT
 have HVE := lh hV
 clear hV
 go_wp2
 go_loopw [4] (fun iv wr => ∃ (k : Nat), k ≤ n ∧ iv = .int .i64 (k : Nat) ∧ Hid (∃ s' U, BagV wr Bb w0.heap.size s' U ∧ U = treesV V (xs.take k) ∧ (U 8).length + sizeT (xs.drop k) ≤ 1000000 ∧ (U 2).length + sizeT (xs.drop k) ≤ 1000000 ∧ (U 12).length + (n - k) ≤ 1000000 ∧ (U 4).length + (n - k) ≤ 1000000) ∧ Hid (Below w0.heap.size w wr) ∧ Hid (KeepT Bb w wr)) (fun iv _ => n - (intOf iv).toNat)
 case atStart => exact ⟨0, Nat.zero_le _, rfl, ⟨_, _, HPUT.out, by rw [List.take_zero]; rfl, by rw [List.drop_zero]; exact HVL.out.1, by rw [List.drop_zero]; exact HVL.out.2.1, HVL.out.2.2.1, HVL.out.2.2.2⟩, HB5.out, HKT.out⟩
 case round =>
  obtain ⟨k, hk, rfl, HG, HBR, HKR⟩ := hrel
  rename World => wr
  clear HPUT hc5 hf5
  by_cases hkn : k < n
  ·have hkx : k < xs.length := by have := HN.out; omega
   obtain ⟨bp, op, rfl, c0, c1, hti⟩ := HX.out.at hkx
   have hbw := HB0.out.trans HBR.out
   have d0 := hbw.cell (World.block_lt_of_cell? _ _ c0)
   have d1 := hbw.cell (World.block_lt_of_cell? _ _ c1)
   rw [c0] at d0
   rw [c1] at d1
   have hkI : (k : Int) < n := by omega
   obtain ⟨s', U, hg, hU, e8, e2, e12, e4⟩ := HG.out
   rw [sizeT_drop hkx] at e8 e2
   obtain ⟨t, hte⟩ : ∃ t, t = gt xs k := ⟨_, rfl⟩
   rw [← hte] at d0 d1 hti e8 e2
   obtain ⟨ly, hly⟩ : ∃ n, n = t.ys.length := ⟨_, rfl⟩
   rw [← hly] at d0 e8 e2
   have hone := oneTree_v Bb s' U t ly w0 wr hly hg hti hbw (by omega) (by omega) (by omega) (by omega)
   have HNX : Hid (treeV U t = treesV V (xs.take (k + 1)) ∧ (treeV U t 8).length + sizeT (xs.drop (k + 1)) ≤ 1000000 ∧ (treeV U t 2).length + sizeT (xs.drop (k + 1)) ≤ 1000000 ∧ (treeV U t 12).length + (n - (k + 1)) ≤ 1000000 ∧ (treeV U t 4).length + (n - (k + 1)) ≤ 1000000) := by
    obtain ⟨a, b, c, d, _⟩ := treeV_at U t
    refine ⟨by rw [hU, treesV_snoc, hte, ← take_gt hkx], ?_, ?_, ?_, ?_⟩
    ·rw [a, List.length_append, List.length_map, ← hly]; omega
    ·rw [b, List.length_append, List.length_map, ← hly]; omega
    ·rw [d, List.length_append, List.length_singleton]; omega
    ·rw [c, List.length_append, List.length_singleton]; omega
   have HONE := lh hone
   have HKN := lh hkn
   clear hkx hkn hte hone hg hU e8 e2 e12 e4 hly hti hbw c0 c1
   go_wp2_with fail
   refine HONE.out.mono ?_
   rintro e w6 ⟨rfl, ⟨s6, hbag⟩, hb6, hk6⟩
   have HBAG := lh hbag
   have HB6 := lh (HBR.out.trans hb6)
   have HK6 := lh (HKR.out.trans hk6)
   clear hbag hb6 hk6 HONE d0 d1
   go_wp2
   go_roundw
   case rel => exact ⟨k + 1, by have := HKN.out; omega, by go_num, ⟨s6, _, HBAG.out, HNX.out⟩, HB6.out, HK6.out⟩
   case measure => have := HKN.out; simp [intOf]; omega
  ·have hkI : (n : Int) ≤ k := by omega
   obtain rfl : k = n := by omega
   go_wp2
   go_end0
   refine ⟨rfl, ?_, HBR.out, HKR.out⟩
   obtain ⟨s', U, hg, hU, _⟩ := HG.out
   rw [List.take_of_length_le (by rw [← HN.out]; exact Nat.le_refl _), HVE.out] at hU
   rw [hU] at hg
   exact ⟨s', hg⟩
end Go.Proofs.YtkefndfgkmdphaaGreat


namespace Go.Proofs.YtkefndfgkmdphaaGreat
set_option maxHeartbeats 6400000
set_option maxRecDepth 100000
open Go.RowKit Tnr Tnt

structure KL where
 q : Option Addr
 m : Nat
 c : Nat
 ds : List D
def KL.val (x : KL) : Value := .slice x.q x.m x.c
def kl0 : KL := ⟨none, 0, 0, []⟩
structure KOk (w : World) (sz : Nat) (x : KL) : Prop where
 len : x.m = x.ds.length
 sl : SlD w x.q x.ds
 room : ∀ k, k < x.m → Room w sz (dg x.ds k)
 far : Far x.ds
 most : x.m ≤ 20000
 few : ∀ k, k < x.m → (dg x.ds k).n ≤ 100000
theorem KOk.but {w w' : World} {sz : Nat} {x : KL} {T : Nat → Prop} (h : KOk w sz x) (hb : But T w w') (hT : ∀ b, T b → ¬ InD x.ds b) (hq : ∀ b o, x.q = some ⟨b, o, none⟩ → ¬ T b) : KOk w' sz x := by
 refine ⟨h.len, ?_, fun k hk => (h.room k hk).at hb.size (fun b e => hb.block b ((h.room k hk).lt b e) fun s => hT b s ⟨k, by have := h.len; omega, e⟩), h.far, h.most, h.few⟩
 rcases h.sl with h0 | ⟨b, off, h1, h2, h3, h4⟩
 ·exact .inl h0
 ·refine .inr ⟨b, off, h1, h2, Nat.lt_of_lt_of_le h3 hb.size, fun k hk => ?_⟩
  rw [World.cell?_of_block (w := w) (w' := w') (a := ⟨b, off + k, none⟩) (hb.block b h3 (hq b off h1))]
  exact h4 k hk
def Tj (K : Nat → KL) (j : Nat) : Nat → Prop := fun b => ∃ i, i < j ∧ InD (K i).ds b
theorem tj_step {K : Nat → KL} {j : Nat} {w x y : World} (h : But (Tj K j) w x) (hb : But (InD (K j).ds) x y) : But (Tj K (j + 1)) w y :=
 (h.mono fun b ⟨i, h1, h2⟩ => ⟨i, by omega, h2⟩).trans (hb.mono fun b h2 => ⟨j, by omega, h2⟩)
structure Bag5 (w : World) (Bb : Nat) (K : Nat → KL) : Prop where
 nil : ∀ j, j < 20 → j ≠ 2 → j ≠ 4 → j ≠ 8 → j ≠ 12 → j ≠ 13 → K j = kl0
 cell : ∀ j, j < 20 → w.cell? ⟨Bb, j, none⟩ = some (K j).val
 k2 : KOk w 1 (K 2)
 k4 : KOk w 1 (K 4)
 k8 : KOk w 2 (K 8)
 k12 : KOk w 9 (K 12)
 k13 : KOk w 2 (K 13)
 dis : ∀ i j b, i ≠ j → InD (K i).ds b → ¬ InD (K j).ds b
 lst : ∀ i j b o, (K i).q = some ⟨b, o, none⟩ → ¬ InD (K j).ds b
 own : ∀ j, ¬ InD (K j).ds Bb
theorem Bag5.at {w x : World} {Bb j : Nat} {K : Nat → KL} (h : Bag5 w Bb K) (hb : But (Tj K j) w x) (hj : j < 20) : x.cell? ⟨Bb, j, none⟩ = some (K j).val := by
 have hl := World.block_lt_of_cell? w _ (h.cell j hj)
 rw [World.cell?_of_block (w := w) (w' := x) (a := ⟨Bb, j, none⟩) (hb.block Bb hl fun ⟨i, _, h2⟩ => h.own i h2)]
 exact h.cell j hj
theorem Bag5.kat {w x : World} {Bb j sz : Nat} {K : Nat → KL} (h : Bag5 w Bb K) (hb : But (Tj K j) w x) (hk : KOk w sz (K j)) : KOk x sz (K j) :=
 hk.but hb (fun b ⟨i, h1, h2⟩ => h.dis i j b (by omega) h2) (fun b o e ⟨i, _, h2⟩ => h.lst j i b o e h2)
theorem Bag5.nat {w x : World} {Bb j : Nat} {K : Nat → KL} (h : Bag5 w Bb K) (hb : But (Tj K j) w x) (hj : j < 20) (h2 : j ≠ 2) (h4 : j ≠ 4) (h8 : j ≠ 8) (h12 : j ≠ 12) (h13 : j ≠ 13) : x.cell? ⟨Bb, j, none⟩ = some (.slice none 0 0) := by
 have := h.at hb hj
 rw [h.nil j hj h2 h4 h8 h12 h13] at this
 exact this
theorem apart_v (Bb : Nat) (K : Nat → KL) (w : World) (h : Bag5 w Bb K) :
  Calls Tryz.prog 51 #[.pointer (some ⟨Bb, 0, none⟩)] w fun e w' => e = .returned (.bool true) ∧ But (Tj K 20) w w' := by
 have H := lh h
 have K0 := lh (show But (Tj K 0) w w from But.refl _ _)
 clear h
 have hc0 := H.out.nat K0.out (show 0 < 20 by decide) (by decide) (by decide) (by decide) (by decide) (by decide)
 go_enter Tryz.func51, Tryz.ntmps51
 go_wp2_with fail
 refine (flatLimbs_nil _).mono ?_
 rintro e w1 ⟨rfl, hb⟩
 have K1 := lh (tj_step K0.out (But.ofBelow hb (InD (K 0).ds)))
 clear hb hc0 K0
 have hc1 := H.out.nat K1.out (show 1 < 20 by decide) (by decide) (by decide) (by decide) (by decide) (by decide)
 go_wp2_with fail
 refine (flatWords_nil _).mono ?_
 rintro e w2 ⟨rfl, hb⟩
 have K2 := lh (tj_step K1.out (But.ofBelow hb (InD (K 1).ds)))
 clear hb hc1 K1
 have hc2 := H.out.at K2.out (show 2 < 20 by decide)
 unfold KL.val at hc2
 go_wp2_with fail
 have hk2 := H.out.kat K2.out H.out.k2
 refine (flatInts_any (K 2).q (K 2).c (K 2).m (K 2).ds _ hk2.len hk2.sl hk2.room hk2.far hk2.most hk2.few).mono ?_
 rintro e w3 ⟨rfl, hb⟩
 have K3 := lh (tj_step K2.out hb)
 clear hb hk2 hc2 K2
 have hc3 := H.out.nat K3.out (show 3 < 20 by decide) (by decide) (by decide) (by decide) (by decide) (by decide)
 go_wp2_with fail
 refine (flatLongs_nil _).mono ?_
 rintro e w4 ⟨rfl, hb⟩
 have K4 := lh (tj_step K3.out (But.ofBelow hb (InD (K 3).ds)))
 clear hb hc3 K3
 have hc4 := H.out.at K4.out (show 4 < 20 by decide)
 unfold KL.val at hc4
 go_wp2_with fail
 have hk4 := H.out.kat K4.out H.out.k4
 refine (flatTexts_any (K 4).q (K 4).c (K 4).m (K 4).ds _ hk4.len hk4.sl hk4.room hk4.far hk4.most hk4.few).mono ?_
 rintro e w5 ⟨rfl, hb⟩
 have K5 := lh (tj_step K4.out hb)
 clear hb hk4 hc4 K4
 have hc5 := H.out.nat K5.out (show 5 < 20 by decide) (by decide) (by decide) (by decide) (by decide) (by decide)
 go_wp2_with fail
 refine (flatBytes_nil _).mono ?_
 rintro e w6 ⟨rfl, hb⟩
 have K6 := lh (tj_step K5.out (But.ofBelow hb (InD (K 5).ds)))
 clear hb hc5 K5
 have hc6 := H.out.nat K6.out (show 6 < 20 by decide) (by decide) (by decide) (by decide) (by decide) (by decide)
 go_wp2_with fail
 refine (flatTruths_nil _).mono ?_
 rintro e w7 ⟨rfl, hb⟩
 have K7 := lh (tj_step K6.out (But.ofBelow hb (InD (K 6).ds)))
 clear hb hc6 K6
 have hc7 := H.out.nat K7.out (show 7 < 20 by decide) (by decide) (by decide) (by decide) (by decide) (by decide)
 go_wp2_with fail
 refine (flatNats_nil _).mono ?_
 rintro e w8 ⟨rfl, hb⟩
 have K8 := lh (tj_step K7.out (But.ofBelow hb (InD (K 7).ds)))
 clear hb hc7 K7
 have hc8 := H.out.at K8.out (show 8 < 20 by decide)
 unfold KL.val at hc8
 go_wp2_with fail
 have hk8 := H.out.kat K8.out H.out.k8
 refine (flatRanges_any (K 8).q (K 8).c (K 8).m (K 8).ds _ hk8.len hk8.sl hk8.room hk8.far hk8.most hk8.few).mono ?_
 rintro e w9 ⟨rfl, hb⟩
 have K9 := lh (tj_step K8.out hb)
 clear hb hk8 hc8 K8
 have hc9 := H.out.nat K9.out (show 9 < 20 by decide) (by decide) (by decide) (by decide) (by decide) (by decide)
 go_wp2_with fail
 refine (flatFolds_nil _).mono ?_
 rintro e w10 ⟨rfl, hb⟩
 have K10 := lh (tj_step K9.out (But.ofBelow hb (InD (K 9).ds)))
 clear hb hc9 K9
 have hc10 := H.out.nat K10.out (show 10 < 20 by decide) (by decide) (by decide) (by decide) (by decide) (by decide)
 go_wp2_with fail
 refine (flatProps_nil _).mono ?_
 rintro e w11 ⟨rfl, hb⟩
 have K11 := lh (tj_step K10.out (But.ofBelow hb (InD (K 10).ds)))
 clear hb hc10 K10
 have hc11 := H.out.nat K11.out (show 11 < 20 by decide) (by decide) (by decide) (by decide) (by decide) (by decide)
 go_wp2_with fail
 refine (flatTablesRows_nil _).mono ?_
 rintro e w12 ⟨rfl, hb⟩
 have K12 := lh (tj_step K11.out (But.ofBelow hb (InD (K 11).ds)))
 clear hb hc11 K11
 have hc12 := H.out.at K12.out (show 12 < 20 by decide)
 unfold KL.val at hc12
 go_wp2_with fail
 have hk12 := H.out.kat K12.out H.out.k12
 refine (flatNodes_any (K 12).q (K 12).c (K 12).m (K 12).ds _ hk12.len hk12.sl hk12.room hk12.far hk12.most hk12.few).mono ?_
 rintro e w13 ⟨rfl, hb⟩
 have K13 := lh (tj_step K12.out hb)
 clear hb hk12 hc12 K12
 have hc13 := H.out.at K13.out (show 13 < 20 by decide)
 unfold KL.val at hc13
 go_wp2_with fail
 have hk13 := H.out.kat K13.out H.out.k13
 refine (flatTrees_any (K 13).q (K 13).c (K 13).m (K 13).ds _ hk13.len hk13.sl hk13.room hk13.far hk13.most hk13.few).mono ?_
 rintro e w14 ⟨rfl, hb⟩
 have K14 := lh (tj_step K13.out hb)
 clear hb hk13 hc13 K13
 have hc14 := H.out.nat K14.out (show 14 < 20 by decide) (by decide) (by decide) (by decide) (by decide) (by decide)
 go_wp2_with fail
 refine (flatOps_nil _).mono ?_
 rintro e w15 ⟨rfl, hb⟩
 have K15 := lh (tj_step K14.out (But.ofBelow hb (InD (K 14).ds)))
 clear hb hc14 K14
 have hc15 := H.out.nat K15.out (show 15 < 20 by decide) (by decide) (by decide) (by decide) (by decide) (by decide)
 go_wp2_with fail
 refine (flatPrograms_nil _).mono ?_
 rintro e w16 ⟨rfl, hb⟩
 have K16 := lh (tj_step K15.out (But.ofBelow hb (InD (K 15).ds)))
 clear hb hc15 K15
 have hc16 := H.out.nat K16.out (show 16 < 20 by decide) (by decide) (by decide) (by decide) (by decide) (by decide)
 go_wp2_with fail
 refine (flatArrivals_nil _).mono ?_
 rintro e w17 ⟨rfl, hb⟩
 have K17 := lh (tj_step K16.out (But.ofBelow hb (InD (K 16).ds)))
 clear hb hc16 K16
 have hc17 := H.out.nat K17.out (show 17 < 20 by decide) (by decide) (by decide) (by decide) (by decide) (by decide)
 go_wp2_with fail
 refine (flatPlaces_nil _).mono ?_
 rintro e w18 ⟨rfl, hb⟩
 have K18 := lh (tj_step K17.out (But.ofBelow hb (InD (K 17).ds)))
 clear hb hc17 K17
 have hc18 := H.out.nat K18.out (show 18 < 20 by decide) (by decide) (by decide) (by decide) (by decide) (by decide)
 go_wp2_with fail
 refine (flatRows_nil _).mono ?_
 rintro e w19 ⟨rfl, hb⟩
 have K19 := lh (tj_step K18.out (But.ofBelow hb (InD (K 18).ds)))
 clear hb hc18 K18
 have hc19 := H.out.nat K19.out (show 19 < 20 by decide) (by decide) (by decide) (by decide) (by decide) (by decide)
 go_wp2_with fail
 refine (flatReplays_nil _).mono ?_
 rintro e w20 ⟨rfl, hb⟩
 have K20 := lh (tj_step K19.out (But.ofBelow hb (InD (K 19).ds)))
 clear hb hc19 K19
 go_wp2
 go_ret
 exact ⟨rfl, K20.out⟩
end Go.Proofs.YtkefndfgkmdphaaGreat


namespace Go.Proofs.YtkefndfgkmdphaaGreat
set_option maxHeartbeats 3200000
set_option maxRecDepth 100000
open Go.RowKit Tnr Tnt

structure TR where
 p : Option Addr
 n : Nat
 c : Nat
 ts : List TV
def tr0 : TR := ⟨none, 0, 0, []⟩
def gq (rs : List TR) (k : Nat) : TR := rs.getD k tr0
theorem drop_gq {rs : List TR} {k : Nat} (h : k < rs.length) : rs.drop k = gq rs k :: rs.drop (k + 1) := by
 unfold gq
 rw [List.getD_eq_getElem?_getD, List.getElem?_eq_getElem h]
 exact List.drop_eq_getElem_cons h
def putV (vs : Nat → List Value) (r : TR) : Nat → List Value := treesV (updV vs 13 (vs 13 ++ [.slice r.p r.n r.c])) r.ts
def putsV (vs : Nat → List Value) (rs : List TR) : Nat → List Value := rs.foldl putV vs
theorem putV_at (vs : Nat → List Value) (r : TR) : putV vs r 8 = vs 8 ++ (r.ts.flatMap TV.ys).map (fun x => .slice x.ps x.nd.set.length x.cs) ∧ putV vs r 2 = vs 2 ++ (r.ts.flatMap TV.ys).map (fun x => .slice x.pk x.nd.kids.length x.ck) ∧ putV vs r 4 = vs 4 ++ r.ts.map (fun t => .slice t.na t.nn t.nc) ∧ putV vs r 12 = vs 12 ++ r.ts.map (fun t => .slice t.q t.ys.length t.cq) ∧ putV vs r 13 = vs 13 ++ [.slice r.p r.n r.c] ∧ ∀ j, j ≠ 8 → j ≠ 2 → j ≠ 4 → j ≠ 12 → j ≠ 13 → putV vs r j = vs j := by
 obtain ⟨a, b, c, d, f⟩ := treesV_at r.ts (updV vs 13 (vs 13 ++ [.slice r.p r.n r.c]))
 unfold putV
 refine ⟨?_, ?_, ?_, ?_, ?_, fun j h1 h2 h3 h4 h5 => ?_⟩
 ·rw [a, updV_ne _ _ (by decide)]
 ·rw [b, updV_ne _ _ (by decide)]
 ·rw [c, updV_ne _ _ (by decide)]
 ·rw [d, updV_ne _ _ (by decide)]
 ·rw [f 13 (by decide) (by decide) (by decide) (by decide), updV_same]
 ·rw [f j h1 h2 h3 h4, updV_ne _ _ h5]
theorem putsV_at : ∀ (rs : List TR) (vs : Nat → List Value), putsV vs rs 8 = vs 8 ++ ((rs.flatMap TR.ts).flatMap TV.ys).map (fun x => .slice x.ps x.nd.set.length x.cs) ∧ putsV vs rs 2 = vs 2 ++ ((rs.flatMap TR.ts).flatMap TV.ys).map (fun x => .slice x.pk x.nd.kids.length x.ck) ∧ putsV vs rs 4 = vs 4 ++ (rs.flatMap TR.ts).map (fun t => .slice t.na t.nn t.nc) ∧ putsV vs rs 12 = vs 12 ++ (rs.flatMap TR.ts).map (fun t => .slice t.q t.ys.length t.cq) ∧ putsV vs rs 13 = vs 13 ++ rs.map (fun r => .slice r.p r.n r.c) ∧ ∀ j, j ≠ 8 → j ≠ 2 → j ≠ 4 → j ≠ 12 → j ≠ 13 → putsV vs rs j = vs j
 | [], vs => by simp [putsV]
 | r :: rs, vs => by
  obtain ⟨a, b, c, d, f, g⟩ := putsV_at rs (putV vs r)
  obtain ⟨a', b', c', d', f', g'⟩ := putV_at vs r
  have e : putsV vs (r :: rs) = putsV (putV vs r) rs := rfl
  rw [e, a, b, c, d, f, a', b', c', d', f']
  refine ⟨by simp, by simp, by simp, by simp, by simp, fun j h1 h2 h3 h4 h5 => by rw [g j h1 h2 h3 h4 h5, g' j h1 h2 h3 h4 h5]⟩
theorem sizeT_flat (ts : List TV) : (ts.flatMap TV.ys).length = sizeT ts := by
 induction ts with
 | nil => rfl
 | cons t ts ih => rw [List.flatMap_cons, List.length_append, ih, sizeT_cons]
theorem slD_of_row {w : World} {Bb : Nat} {T : TypeId} {q : Option Addr} {m cq : Nat} {ds : List D} (h : w.ownsRow (Bb + 1) T 1 (.slice q m cq) (ds.map D.val).length (ds.map D.val)) (hd : ∀ b, InD ds b → b < Bb) : SlD w q ds ∧ m = ds.length ∧ ∀ b o, q = some ⟨b, o, none⟩ → Bb < b := by
 have h' := h
 rcases h.2 with ⟨h1, h2⟩ | ⟨g, cap, cur, h1, hg, hh, _⟩
 ·simp only [List.length_map] at h2
  have : ds = [] := List.eq_nil_of_length_eq_zero h2
  subst this
  simp only [Value.slice.injEq] at h1
  exact ⟨.inl rfl, by simp [h1.2.1], fun b o e => by rw [h1.1] at e; cases e⟩
 ·simp only [Value.slice.injEq, List.length_map] at h1
  obtain ⟨rfl, rfl, rfl⟩ := h1
  refine ⟨.inr ⟨g, 0, rfl, fun s => by have := hd g s; omega, (Array.getElem?_eq_some_iff.1 hh).1, fun k hk => ?_⟩, rfl, fun b o e => by cases e; omega⟩
  have hk2 : k < (ds.map D.val).length * 1 := by rw [List.length_map]; omega
  rw [List.length_map] at h'
  rw [Nat.zero_add, h'.cellAt k (by omega), List.getElem?_map]
  unfold dg
  rw [List.getD_eq_getElem?_getD, List.getElem?_eq_getElem hk]; rfl
structure ApOk (w : World) (rs : List TR) (DS : Nat → List D) : Prop where
 vals : ∀ j, j < 20 → putsV (fun _ => []) rs j = (DS j).map D.val
 r2 : ∀ k, k < (DS 2).length → Room w 1 (dg (DS 2) k)
 r4 : ∀ k, k < (DS 4).length → Room w 1 (dg (DS 4) k)
 r8 : ∀ k, k < (DS 8).length → Room w 2 (dg (DS 8) k)
 r12 : ∀ k, k < (DS 12).length → Room w 9 (dg (DS 12) k)
 r13 : ∀ k, k < (DS 13).length → Room w 2 (dg (DS 13) k)
 far : ∀ j, Far (DS j)
 most : ∀ j, (DS j).length ≤ 20000
 few : ∀ j k, k < (DS j).length → (dg (DS j) k).n ≤ 100000
 dis : ∀ i j b, i ≠ j → InD (DS i) b → ¬ InD (DS j) b
 lt : ∀ j b, InD (DS j) b → b < w.heap.size
 rows : ∀ r ∈ rs, r.n = r.ts.length ∧ SlT w r.p r.ts
theorem ApOk.nil {w : World} {rs : List TR} {DS : Nat → List D} (h : ApOk w rs DS) {j : Nat} (hj : j < 20) (h8 : j ≠ 8) (h2 : j ≠ 2) (h4 : j ≠ 4) (h12 : j ≠ 12) (h13 : j ≠ 13) : DS j = [] := by
 have := h.vals j hj
 rw [(putsV_at rs _).2.2.2.2.2 j h8 h2 h4 h12 h13] at this
 exact List.map_eq_nil_iff.1 this.symm
def SlQ (w : World) (q : Option Addr) (rs : List TR) : Prop := ∀ k, k < rs.length → ∃ b off, q = some ⟨b, off, none⟩ ∧ w.cell? ⟨b, off + k, none⟩ = some (.slice (gq rs k).p (gq rs k).n (gq rs k).c)
theorem gq_mem {rs : List TR} {k : Nat} (h : k < rs.length) : gq rs k ∈ rs := by
 unfold gq
 rw [List.getD_eq_getElem?_getD, List.getElem?_eq_getElem h]
 exact List.getElem_mem h
theorem put_fits {U : Nat → List Value} {rs : List TR} {k : Nat} {w : World} {DS : Nat → List D} (h : ApOk w rs DS) (hk : k < rs.length) (hU : putsV U (rs.drop k) = putsV (fun _ => []) rs) :
  (U 13).length ≤ 20000 ∧ (U 8).length + sizeT (gq rs k).ts ≤ 20000 ∧ (U 2).length + sizeT (gq rs k).ts ≤ 20000 ∧ (U 12).length + (gq rs k).ts.length ≤ 20000 ∧ (U 4).length + (gq rs k).ts.length ≤ 20000 := by
 obtain ⟨a, b, c, d, f, _⟩ := putsV_at (rs.drop k) U
 rw [hU] at a b c d f
 have l8 := congrArg List.length ((h.vals 8 (by decide)).symm.trans a)
 have l2 := congrArg List.length ((h.vals 2 (by decide)).symm.trans b)
 have l4 := congrArg List.length ((h.vals 4 (by decide)).symm.trans c)
 have l12 := congrArg List.length ((h.vals 12 (by decide)).symm.trans d)
 have l13 := congrArg List.length ((h.vals 13 (by decide)).symm.trans f)
 rw [drop_gq hk] at l8 l2 l4 l12 l13
 simp only [List.length_map, List.length_append, List.flatMap_cons, List.flatMap_append, sizeT_flat] at l8 l2 l4 l12 l13
 have m8 := h.most 8
 have m2 := h.most 2
 have m4 := h.most 4
 have m12 := h.most 12
 have m13 := h.most 13
 refine ⟨by omega, by omega, by omega, by omega, by omega⟩
theorem apartTrees_any (q : Option Addr) (cq m : Nat) (rs : List TR) (DS : Nat → List D) (w : World) (hm : m = rs.length) (hq : SlQ w q rs) (h : ApOk w rs DS) (hm1 : m ≤ 100) :
  Calls Tryz.prog 19 #[.slice q m cq] w fun e w' => e = .returned (.bool true) ∧ But (fun b => ∃ j, j < 20 ∧ InD (DS j) b) w w' := by
 have HM := lh hm
 have HQ := lh hq
 have H := lh h
 have hmI : (m : Int) ≤ 100 := by omega
 clear hm hq h
 go_enter Tryz.func19, Tryz.ntmps19
 go_wp2
 go_loopw [4] (fun kv wr => ∃ (k : Nat), k ≤ m ∧ kv = .int .i64 (k : Nat) ∧ Hid (∃ s U, BagV wr w.heap.size w.heap.size s U ∧ putsV U (rs.drop k) = putsV (fun _ => []) rs) ∧ Hid (Below w.heap.size w wr)) (fun kv _ => m - (intOf kv).toNat)
 case atStart =>
  refine ⟨0, Nat.zero_le _, rfl, ⟨fun _ => .slice none 0 0, fun _ => [], ⟨fun j hj => ?_, fun j hj => ?_, fun j hj => World.ownsRow_nil _ _ _ _, Nat.le_refl _, fun _ _ _ => rfl⟩, rfl⟩, (Below.refl _ _).alloc (Nat.le_refl _) _⟩
  ·rw [World.cell?_alloc_at _ _ _ _ rfl]
   match j, hj with
   | 0, _ => rfl
   | 1, _ => rfl
   | 2, _ => rfl
   | 3, _ => rfl
   | 4, _ => rfl
   | 5, _ => rfl
   | 6, _ => rfl
   | 7, _ => rfl
   | 8, _ => rfl
   | 9, _ => rfl
   | 10, _ => rfl
   | 11, _ => rfl
   | 12, _ => rfl
   | 13, _ => rfl
   | 14, _ => rfl
   | 15, _ => rfl
   | 16, _ => rfl
   | 17, _ => rfl
   | 18, _ => rfl
   | 19, _ => rfl
   | j + 20, h => exact absurd h (by omega)
  ·exact World.frozen?_alloc_at _ _ _ _ rfl
 case round =>
  obtain ⟨k, hk, rfl, HG, HB⟩ := hrel
  rename World => wr
  by_cases hkm : k < m
  ·have hkI : (k : Int) < m := by omega
   have hkd : k < rs.length := by have := HM.out; omega
   obtain ⟨bq, oq, rfl, hcq⟩ := HQ.out k hkd
   have hcw := fkeep_cell HB.out hcq
   obtain ⟨s, U, hg, hU⟩ := HG.out
   obtain ⟨f13, f8, f2, f12, f4⟩ := put_fits H.out hkd hU
   obtain ⟨hn, hsl⟩ := H.out.rows _ (gq_mem hkd)
   rw [drop_gq hkd] at hU
   obtain ⟨r, hr⟩ : ∃ r, r = gq rs k := ⟨_, rfl⟩
   rw [← hr] at hcw f8 f2 f12 f4 hn hsl hU
   have HP := lh (putTrees_v w.heap.size s U r.p r.n r.c r.ts w wr hn hg hsl HB.out (by omega) (by omega) (by omega) (by omega) (by omega))
   have HU : Hid (putsV (putV U r) (rs.drop (k + 1)) = putsV (fun _ => []) rs) := hU
   have HKM := lh hkm
   clear hcq hg hU f13 f8 f2 f12 f4 hn hsl hr hkd hkm HG
   go_wp2_with (go_at_call 50; refine HP.out.mono ?_; rintro e w6 ⟨rfl, ⟨s6, hb6⟩, hbl6, _⟩; have HB6 := lh hb6; have HBL6 := lh (HB.out.trans hbl6); clear hb6 hbl6)
   go_roundw
   case rel => exact ⟨k + 1, by have := HKM.out; omega, by go_num, ⟨s6, _, HB6.out, HU.out⟩, HBL6.out⟩
   case measure => have := HKM.out; simp [intOf]; omega
  ·have hkI : (m : Int) ≤ k := by omega
   obtain rfl : k = m := by omega
   obtain ⟨s, U, hg, hU⟩ := HG.out
   rw [List.drop_eq_nil_of_le (by have := HM.out; omega)] at hU
   have hU2 : U = putsV (fun _ => []) rs := hU
   have hfm : ∀ j, j < 20 → ∃ x : KL, s j = x.val ∧ x.ds = DS j ∧ SlD wr x.q x.ds ∧ x.m = x.ds.length ∧ ∀ b o, x.q = some ⟨b, o, none⟩ → w.heap.size < b := fun j hj => by
    have hrow := hg.row j hj
    rw [hU2, H.out.vals j hj] at hrow
    obtain ⟨q, n, c, e⟩ : ∃ q n c, s j = .slice q n c := by
     rcases hrow.2 with ⟨h, _⟩ | ⟨g, cap, cur, h, _⟩
     ·exact ⟨_, _, _, h⟩
     ·exact ⟨_, _, _, h⟩
    rw [e] at hrow
    obtain ⟨h1, h2, h3⟩ := slD_of_row hrow (H.out.lt j)
    exact ⟨⟨q, n, c, DS j⟩, e, rfl, h1, h2, h3⟩
   obtain ⟨K, hK⟩ : ∃ K : Nat → KL, ∀ j, (j < 20 → s j = (K j).val ∧ (K j).ds = DS j ∧ SlD wr (K j).q (K j).ds ∧ (K j).m = (K j).ds.length ∧ ∀ b o, (K j).q = some ⟨b, o, none⟩ → w.heap.size < b) ∧ (¬ j < 20 → K j = kl0) := by
    refine ⟨fun j => if hj : j < 20 then Classical.choose (hfm j hj) else kl0, fun j => ⟨fun hj => ?_, fun hj => dif_neg hj⟩⟩
    simp only [dif_pos hj]
    exact Classical.choose_spec (hfm j hj)
   have hroom : ∀ {j sz : Nat}, j < 20 → (∀ t, t < (DS j).length → Room w sz (dg (DS j) t)) → KOk wr sz (K j) := fun {j sz} hj hr => by
    obtain ⟨_, e2, e3, e4, _⟩ := (hK j).1 hj
    refine ⟨e4, e3, fun t ht => ?_, by rw [e2]; exact H.out.far j, by rw [e4, e2]; exact H.out.most j, fun t ht => ?_⟩
    ·rw [e4, e2] at ht
     rw [e2]
     exact (hr t ht).at HB.out.size fun b e => HB.out.block b ((hr t ht).lt b e)
    ·rw [e4, e2] at ht
     rw [e2]; exact H.out.few j t ht
   have hin : ∀ j b, InD (K j).ds b → j < 20 ∧ InD (DS j) b := fun j b hb => by
    by_cases hj : j < 20
    ·refine ⟨hj, ?_⟩
     have e := ((hK j).1 hj).2.1
     rw [e] at hb; exact hb
    ·rw [(hK j).2 hj] at hb
     obtain ⟨t, ht, _⟩ := hb
     simp [kl0] at ht
   have hbag : Bag5 wr w.heap.size K := by
    refine ⟨fun j hj h2 h4 h8 h12 h13 => ?_, fun j hj => ?_, hroom (by decide) H.out.r2, hroom (by decide) H.out.r4, hroom (by decide) H.out.r8, hroom (by decide) H.out.r12, hroom (by decide) H.out.r13, fun i j b hne h1 h2 => H.out.dis i j b hne (hin i b h1).2 (hin j b h2).2, fun i j b o e h2 => ?_, fun j h2 => ?_⟩
    ·obtain ⟨e1, e2, _, e4, _⟩ := (hK j).1 hj
     have hd := H.out.nil hj h8 h2 h4 h12 h13
     rw [hd] at e2
     have e5 : (K j).m = 0 := by rw [e4, e2]; rfl
     have e6 := hg.nil j hj (by rw [hU2, H.out.vals j hj, hd]; rfl)
     rw [e1] at e6
     obtain ⟨a1, a2, a3, a4, a5⟩ : ∃ a1 a2 a3 a4, K j = ⟨a1, a2, a3, a4⟩ := ⟨_, _, _, _, rfl⟩
     rw [a5] at e6 e2 ⊢
     simp only [KL.val, Value.slice.injEq] at e6
     obtain ⟨rfl, rfl, rfl⟩ := e6
     simp only at e2
     rw [e2]; rfl
    ·rw [hg.cell j hj, ((hK j).1 hj).1]
    ·by_cases hi : i < 20
     ·have := ((hK i).1 hi).2.2.2.2 b o e
      have := H.out.lt j b (hin j b h2).2
      omega
     ·rw [(hK i).2 hi] at e; cases e
    ·have := H.out.lt j _ (hin j _ h2).2
     omega
   have HA := lh (apart_v w.heap.size K wr hbag)
   have HIN := lh hin
   clear hbag hroom hfm hg hU hU2 hin hK
   go_wp2_with (go_at_call 51; refine HA.out.mono ?_; rintro e w6 ⟨rfl, hb6⟩; have HB6 := lh hb6; clear hb6)
   go_ret
   exact ⟨rfl, (But.ofBelow HB.out _).trans (HB6.out.mono fun b ⟨j, _, h2⟩ => ⟨j, (HIN.out j b h2).1, (HIN.out j b h2).2⟩)⟩
end Go.Proofs.YtkefndfgkmdphaaGreat

