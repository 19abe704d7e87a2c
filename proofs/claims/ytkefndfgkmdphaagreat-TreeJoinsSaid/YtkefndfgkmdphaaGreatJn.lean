import Derived.Test.YtkefndfgkmdphaaGreatFi
import Derived.Test.YtkefndfgkmdphaaGreatJq
import Derived.Test.YtkefndfgkmdphaaGreatMk

namespace Go.Proofs.YtkefndfgkmdphaaGreat
set_option maxHeartbeats 6400000
set_option maxRecDepth 100000
open Go.RowKit Tnr Tnt

theorem node_lit3 (x : NV) (ls lk : Nat) (h1 : ls = x.nd.set.length) (h2 : lk = x.nd.kids.length) : ∃ v0 v3 v4 v5 v6 v7 v8 : Value, (encN x).toArray = #[v0, .slice x.ps ls x.cs, .slice x.pk lk x.ck, v3, v4, v5, v6, v7, v8] := by
 subst h1 h2; exact ⟨_, _, _, _, _, _, _, rfl⟩
theorem rowN_cells {w : World} {B g no cap : Nat} {l : List NV} (h : RowN w B (.slice (some ⟨g, 0, none⟩) no cap) l) (hn : l.length = no) (i : Nat) (hi : i < no) : CellsN w g (i * 9) (gn l i) := by
 unfold RowN at h
 rw [hn] at h
 have k : ∀ j, j < 9 → ∀ u, (encN (gn l i))[j]? = some u → w.cell? ⟨g, i * 9 + j, none⟩ = some u := fun j hj u hu => by
  rw [h.cellAt (i * 9 + j) (by omega), encN_at l i j (by omega) hj, hu]
 exact ⟨k 0 (by omega) _ rfl, k 1 (by omega) _ rfl, k 2 (by omega) _ rfl, k 3 (by omega) _ rfl, k 4 (by omega) _ rfl, k 5 (by omega) _ rfl, k 6 (by omega) _ rfl, k 7 (by omega) _ rfl, k 8 (by omega) _ rfl⟩
theorem cellsN_lit {w : World} {b o : Nat} {x : NV} {u0 u1 u2 u3 u4 u5 u6 u7 u8 : Value} (h : CellsN w b o x) (hl : (encN x).toArray = #[u0, u1, u2, u3, u4, u5, u6, u7, u8]) :
  w.cell? ⟨b, o, none⟩ = some u0 ∧ w.cell? ⟨b, o + 1, none⟩ = some u1 ∧ w.cell? ⟨b, o + 2, none⟩ = some u2 ∧ w.cell? ⟨b, o + 3, none⟩ = some u3 ∧ w.cell? ⟨b, o + 4, none⟩ = some u4 ∧ w.cell? ⟨b, o + 5, none⟩ = some u5 ∧ w.cell? ⟨b, o + 6, none⟩ = some u6 ∧ w.cell? ⟨b, o + 7, none⟩ = some u7 ∧ w.cell? ⟨b, o + 8, none⟩ = some u8 := by
 unfold encN at hl
 simp only [Array.mk.injEq, List.cons.injEq, and_true] at hl
 obtain ⟨rfl, rfl, rfl, rfl, rfl, rfl, rfl, rfl, rfl⟩ := hl
 exact h
theorem gn_front {l m : List NV} {i : Nat} (h : i < l.length) : gn (l ++ m) i = gn l i := by
 rw [gn_get (by rw [List.length_append]; omega), gn_get h, List.getElem_append_left h]
theorem gn_marks {l : List NV} {k i : Nat} (h1 : l.length ≤ i) (h2 : i < l.length + k) : gn (l ++ marksN k) i = markNV (i - l.length) := by
 rw [gn_get (by rw [List.length_append, marksN_length]; omega), List.getElem_append_right h1]
 unfold marksN
 simp
theorem nodeIn_mark (w : World) (i : Nat) : NodeIn w (markNV i) := ⟨.inl rfl, .inl rfl, fun _ => rfl, fun _ => rfl, Nat.le_refl _, Nat.le_refl _⟩
theorem keptNode_any (x y : NV) (B : Nat) (w : World) (h : LentN w B x y) (hI : NodeIn w x) (h3k : x.nd.kids.length ≤ 3000) (h3s : x.nd.set.length ≤ 3000) :
  Calls Tryz.prog 18 #[.agg (encN y).toArray, .agg (encN x).toArray] w fun e w' => e = .returned (.bool true) ∧ Below w.heap.size w w' := by
 obtain ⟨ls, hls⟩ : ∃ n, n = x.nd.set.length := ⟨_, rfl⟩
 obtain ⟨lk, hlk⟩ : ∃ n, n = x.nd.kids.length := ⟨_, rfl⟩
 obtain ⟨v0, v3, v4, v5, v6, v7, v8, hlit⟩ := node_lit3 x ls lk hls hlk
 obtain ⟨u0, u3, u4, u5, u6, u7, u8, hlit'⟩ := node_lit3 y ls lk (by rw [h.nd]; exact hls) (by rw [h.nd]; exact hlk)
 obtain ⟨W2, hW2⟩ : ∃ W, W = (w.alloc (.cells (encN y).toArray 28)).alloc (.cells (encN x).toArray 28) := ⟨_, rfl⟩
 have hb2 : Below w.heap.size w W2 := by rw [hW2]; exact bl_trans (bl_alloc _ _) (bl_alloc _ _)
 have hX : Bx W2 w.heap.size 28 (encN y).toArray := by rw [hW2]; exact (Bx.new w _ _).below (bl_alloc _ _)
 have hY : Bx W2 (w.heap.size + 1) 28 (encN x).toArray := by
  have h := Bx.new (w.alloc (.cells (encN y).toArray 28)) 28 (encN x).toArray
  rw [World.size_alloc] at h; rw [hW2]; exact h
 have HS : Hid (Calls Tryz.prog 47 #[.agg (encN y).toArray, .agg (encN x).toArray] W2 fun e w' => e = .returned (.bool true) ∧ Below W2.heap.size W2 w') :=
  (sameNode_any y x W2 (h.nodeIn.below hb2) (hI.below hb2) ⟨by rw [h.nd]; omega, by rw [h.nd]; omega⟩ ⟨by omega, by omega⟩).mono fun e w' ⟨h1, h2⟩ => ⟨by rw [h1, (sameNd_iff _ _).2 h.nd], h2⟩
 have HR : Hid (∀ V, Below W2.heap.size W2 V → Calls Tryz.prog 48 #[.slice y.ps ls y.cs, .slice x.ps ls x.cs] V fun e w' => e = .returned (.bool true) ∧ Below V.heap.size V w') := by
  intro V hV
  have hb := hb2.trans (hV.mono hb2.size)
  obtain ⟨h0, ⟨g, h1, h2, h3, h4⟩, _⟩ := h.below hb
  rw [← hls] at h2 h4
  rw [h1]
  exact keptR_any x.ps x.cs ls x.nd.set B g y.cs V hls (hI.below hb).set h3s h4 h2 h3
 have HK : Hid (∀ V, Below W2.heap.size W2 V → Calls Tryz.prog 49 #[.slice y.pk lk y.ck, .slice x.pk lk x.ck] V fun e w' => e = .returned (.bool true) ∧ Below V.heap.size V w') := by
  intro V hV
  have hb := hb2.trans (hV.mono hb2.size)
  obtain ⟨h0, _, g, h1, h2, h3, h4⟩ := h.below hb
  rw [h1, hlk]
  exact kept_any x.pk x.ck x.nd.kids B g y.ck V (hI.below hb).kids h3k h4 h2 h3
 have HB2 := lh hb2
 unfold Hid at HS
 rw [hlit, hlit'] at HS
 rw [hlit'] at hX
 rw [hlit] at hY
 rw [hlit, hlit'] at hW2
 rw [hlit, hlit']
 obtain ⟨ps, hps⟩ : ∃ z, z = x.ps := ⟨_, rfl⟩
 obtain ⟨cs, hcs⟩ : ∃ z, z = x.cs := ⟨_, rfl⟩
 obtain ⟨pk, hpk⟩ : ∃ z, z = x.pk := ⟨_, rfl⟩
 obtain ⟨ck, hck⟩ : ∃ z, z = x.ck := ⟨_, rfl⟩
 obtain ⟨qs, hqs⟩ : ∃ z, z = y.ps := ⟨_, rfl⟩
 obtain ⟨es, hes⟩ : ∃ z, z = y.cs := ⟨_, rfl⟩
 obtain ⟨qk, hqk⟩ : ∃ z, z = y.pk := ⟨_, rfl⟩
 obtain ⟨ek, hek⟩ : ∃ z, z = y.ck := ⟨_, rfl⟩
 rw [← hps, ← hcs, ← hpk, ← hck] at HS hY hW2 ⊢
 rw [← hqs, ← hes, ← hqk, ← hek] at HS hX hW2 ⊢
 rw [← hps, ← hcs, ← hqs, ← hes] at HR
 rw [← hpk, ← hck, ← hqk, ← hek] at HK
 have HS := lh HS
 have hs2 : W2.heap.size = w.heap.size + 1 + 1 := by rw [hW2]; simp
 obtain ⟨bx, hbx⟩ : ∃ b, b = w.heap.size := ⟨_, rfl⟩
 obtain ⟨br, hbr⟩ : ∃ b, b = bx + 1 := ⟨_, rfl⟩
 rw [← hbx] at hX
 rw [← hbx, ← hbr] at hY
 have HNB : Hid (w.heap.size = bx ∧ bx + 1 = br) := ⟨hbx.symm, hbr.symm⟩
 have HW2 := lh hW2.symm
 have HX := lh hX
 have HY := lh hY
 clear hlit hlit' h hI hls hlk h3k h3s hW2 hs2 hb2 hbx hbr hps hcs hpk hck hqs hes hqk hek
 go_enter Tryz.func18, Tryz.ntmps18
 go_upto_region 1 with fail
 rw [HW2.out, HNB.out.1, HNB.out.2]
 obtain ⟨a0, a1, a2, a3, a4, a5, a6, a7, a8⟩ := nine hX
 obtain ⟨d0, d1, d2, d3, d4, d5, d6, d7, d8⟩ := nine hY
 clear hX hY
 go_wp2_with fail
 refine HS.out.mono ?_
 rintro e w3 ⟨rfl, hb3⟩
 clear a0 a1 a2 a3 a4 a5 a6 a7 a8 d0 d1 d2 d3 d4 d5 d6 d7 d8
 obtain ⟨_, a1, a2, _⟩ := nine (HX.out.below hb3)
 obtain ⟨_, d1, d2, _⟩ := nine (HY.out.below hb3)
 have HB3 := lh hb3
 clear hb3
 go_wp2_with fail
 refine (HR.out w3 HB3.out).mono ?_
 rintro e w4 ⟨rfl, hb4⟩
 have HB4 := lh (bl_trans HB3.out hb4)
 clear a1 a2 d1 d2 hb4
 obtain ⟨_, _, a2, _⟩ := nine (HX.out.below HB4.out)
 obtain ⟨_, _, d2, _⟩ := nine (HY.out.below HB4.out)
 go_wp2_with fail
 refine (HK.out w4 HB4.out).mono ?_
 rintro e w5 ⟨rfl, hb5⟩
 have HB5 := lh (bl_trans HB4.out hb5)
 clear a2 d2 hb5
 go_wp2
 go_ret
 exact ⟨rfl, bl_trans HB2.out HB5.out⟩

theorem keptNodes_any (p : Option Addr) (c n : Nat) (xs ys : List NV) (B g cap : Nat) (w : World) (hn : n = xs.length) (hx : SlN w p xs) (hnm : n ≤ 3000) (hl : ∀ x ∈ xs, x.nd.kids.length ≤ 3000 ∧ x.nd.set.length ≤ 3000) (ho : LNs w B n g cap xs ys) :
  Calls Tryz.prog 65 #[.slice (some ⟨g, 0, none⟩) n cap, .slice p n c] w fun e w' => e = .returned (.bool true) ∧ Below w.heap.size w w' := by
 have hnI : (n : Int) ≤ 3000 := by omega
 have hcI : (n : Int) + 12 ≤ (cap : Int) := by have := ho.2.1; omega
 have hcJ : (cap : Int) ≤ 9223372036854775807 := by have := ho.2.2.1; omega
 have HN := lh hn
 have HP := lh hx
 have HL := lh hl
 have HY := lh ho.1
 have HO := lh ho.2.2.2.1
 have HT := lh ho.2.2.2.2
 have HNN : Hid ((ys ++ marksN 12).length = n + 12) := by show _ = _; rw [List.length_append, marksN_length, ← ho.1]
 clear hx hn hnm hl ho
 go_enter Tryz.func65, Tryz.ntmps65
 go_wp2
 go_loopw [6] (fun iv wr => ∃ (k : Nat), k ≤ n + 12 ∧ iv = .int .i64 (k : Nat) ∧ Hid (Below w.heap.size w wr)) (fun iv _ => n + 12 - (intOf iv).toNat)
 case atStart => exact ⟨0, Nat.zero_le _, rfl, Below.refl _ _⟩
 case round =>
  obtain ⟨k, hk, rfl, HB⟩ := hrel
  rename World => wr
  have hbd : Below w.heap.size w wr.drew := HB.out.drew
  have HBD := lh hbd
  by_cases hkn : k < n
  ·have hkx : k < xs.length := by have := HN.out; omega
   obtain ⟨b1, o1, rfl, hc1, hin⟩ := (HP.out.below hbd).at hkx
   have hc3 := rowN_cells (rowN_below HO.out hbd) HNN.out k (by omega)
   rw [gn_front (by have := HY.out; omega)] at hc3
   have hlt := (HT.out k hkn).below hbd
   have hlx := HL.out _ (gn_mem hkx)
   obtain ⟨x, hx⟩ : ∃ x, x = gn xs k := ⟨_, rfl⟩
   obtain ⟨y, hy⟩ : ∃ x, x = gn ys k := ⟨_, rfl⟩
   rw [← hx] at hc1 hin hlt hlx
   rw [← hy] at hc3 hlt
   clear hx hy hkx
   obtain ⟨v0, v1, v2, v3, v4, v5, v6, v7, v8, hlit⟩ : ∃ v0 v1 v2 v3 v4 v5 v6 v7 v8, (encN x).toArray = #[v0, v1, v2, v3, v4, v5, v6, v7, v8] := ⟨_, _, _, _, _, _, _, _, _, rfl⟩
   obtain ⟨u0, u1, u2, u3, u4, u5, u6, u7, u8, hlit'⟩ : ∃ v0 v1 v2 v3 v4 v5 v6 v7 v8, (encN y).toArray = #[v0, v1, v2, v3, v4, v5, v6, v7, v8] := ⟨_, _, _, _, _, _, _, _, _, rfl⟩
   have hc1 := cellsN_lit hc1 hlit
   have hc3 := cellsN_lit hc3 hlit'
   obtain ⟨C, hC⟩ : ∃ C : World → Prop, C = fun V => Below wr.drew.heap.size wr.drew V ∧ (V.cell? ⟨b1, o1 + k * 9, none⟩ = some v0 ∧ V.cell? ⟨b1, o1 + k * 9 + 1, none⟩ = some v1 ∧ V.cell? ⟨b1, o1 + k * 9 + 2, none⟩ = some v2 ∧ V.cell? ⟨b1, o1 + k * 9 + 3, none⟩ = some v3 ∧ V.cell? ⟨b1, o1 + k * 9 + 4, none⟩ = some v4 ∧ V.cell? ⟨b1, o1 + k * 9 + 5, none⟩ = some v5 ∧ V.cell? ⟨b1, o1 + k * 9 + 6, none⟩ = some v6 ∧ V.cell? ⟨b1, o1 + k * 9 + 7, none⟩ = some v7 ∧ V.cell? ⟨b1, o1 + k * 9 + 8, none⟩ = some v8) ∧ (V.cell? ⟨g, k * 9, none⟩ = some u0 ∧ V.cell? ⟨g, k * 9 + 1, none⟩ = some u1 ∧ V.cell? ⟨g, k * 9 + 2, none⟩ = some u2 ∧ V.cell? ⟨g, k * 9 + 3, none⟩ = some u3 ∧ V.cell? ⟨g, k * 9 + 4, none⟩ = some u4 ∧ V.cell? ⟨g, k * 9 + 5, none⟩ = some u5 ∧ V.cell? ⟨g, k * 9 + 6, none⟩ = some u6 ∧ V.cell? ⟨g, k * 9 + 7, none⟩ = some u7 ∧ V.cell? ⟨g, k * 9 + 8, none⟩ = some u8) := ⟨_, rfl⟩
   have HC : Hid (∀ V, Below wr.drew.heap.size wr.drew V → C V) := by
    intro V hV
    rw [hC]
    obtain ⟨a0, a1, a2, a3, a4, a5, a6, a7, a8⟩ := hc1
    obtain ⟨d0, d1, d2, d3, d4, d5, d6, d7, d8⟩ := hc3
    exact ⟨hV, ⟨cell_keepX a0 hV, cell_keepX a1 hV, cell_keepX a2 hV, cell_keepX a3 hV, cell_keepX a4 hV, cell_keepX a5 hV, cell_keepX a6 hV, cell_keepX a7 hV, cell_keepX a8 hV⟩, cell_keepX d0 hV, cell_keepX d1 hV, cell_keepX d2 hV, cell_keepX d3 hV, cell_keepX d4 hV, cell_keepX d5 hV, cell_keepX d6 hV, cell_keepX d7 hV, cell_keepX d8 hV⟩
   have HMC : Hid (∀ V, C V → Calls Tryz.prog 18 #[.agg #[u0, u1, u2, u3, u4, u5, u6, u7, u8], .agg #[v0, v1, v2, v3, v4, v5, v6, v7, v8]] V fun e w' => e = .returned (.bool true) ∧ C w') := by
    intro V hV
    rw [hC] at hV
    rw [← hlit, ← hlit']
    exact (keptNode_any x y B V (hlt.below hV.1) (hin.below hV.1) hlx.1 hlx.2).mono fun e w' ⟨h1, h2⟩ => ⟨h1, HC.out w' (hV.1.trans (h2.mono hV.1.size))⟩
   have hCd : C wr.drew := HC.out _ (Below.refl _ _)
   have hkI : (k : Int) < n := by omega
   have hkJ : (k : Int) < (n : Int) + 12 := by omega
   have hge : decide ((n : Int) ≤ k) = false := by rw [decide_eq_false_iff_not]; omega
   have hltD : decide ((k : Int) < n) = true := by rw [decide_eq_true_iff]; omega
   have hltN : decide (k < n) = true := by rw [decide_eq_true_iff]; omega
   have hgeN : decide (n ≤ k) = false := by rw [decide_eq_false_iff_not]; omega
   clear HC hlit hlit' hc1 hc3 hlt hlx hin hkn hbd
   go_wp2
   refine wp_region_quiet (C := C) (by kernel_rfl) (by kernel_rfl) hCd (Bxd.out ?_)
   clear hCd
   subst hC
   dsimp only
   iterate 13 (refine qw ?_; try simp only [Act.put, sb])
   refine q_want (by kernel_rfl) (fun K hK => ?_)
   refine ⟨.bool true, fun V hV => ?_, hK _ ?_⟩
   ·have HV := lh hV
    clear hV hK
    unfold Oper.quietAt
    go_simp
    exact HMC.out V HV.out
   clear hK K
   try simp only [Act.put, sb]
   iterate 8 (refine qw ?_; try simp only [Act.put, sb])
   iterate 11 (refine q_skip ((wanted_some (j := 21) (s := 44) (b := true) (c := false) rfl rfl rfl).trans rfl) ?_; (try simp only [Act.put, sb]))
   iterate 2 (refine qw ?_; try simp only [Act.put, sb])
   refine ⟨wpQuiet_nil ?_⟩
   intro w5 hV
   have HV := lh hV.1
   clear hV
   go_wp2
   go_roundw
   case rel => exact ⟨k + 1, by omega, by go_num, bl_trans HBD.out HV.out⟩
   case measure => simp [intOf] <;> omega
  ·by_cases hkm : k < n + 12
   ·have hc3 := rowN_cells (rowN_below HO.out hbd) HNN.out k (by omega)
    rw [gn_marks (by have := HY.out; omega) (by have := HY.out; omega), ← HY.out] at hc3
    obtain ⟨i, hi⟩ : ∃ i, i = k - n := ⟨_, rfl⟩
    rw [← hi] at hc3
    obtain ⟨u0, u1, u2, u3, u4, u5, u6, u7, u8, hlit'⟩ : ∃ v0 v1 v2 v3 v4 v5 v6 v7 v8, (encN (markNV i)).toArray = #[v0, v1, v2, v3, v4, v5, v6, v7, v8] := ⟨_, _, _, _, _, _, _, _, _, rfl⟩
    have hc3 := cellsN_lit hc3 hlit'
    obtain ⟨C, hC⟩ : ∃ C : World → Prop, C = fun V => Below wr.drew.heap.size wr.drew V ∧ (V.cell? ⟨g, k * 9, none⟩ = some u0 ∧ V.cell? ⟨g, k * 9 + 1, none⟩ = some u1 ∧ V.cell? ⟨g, k * 9 + 2, none⟩ = some u2 ∧ V.cell? ⟨g, k * 9 + 3, none⟩ = some u3 ∧ V.cell? ⟨g, k * 9 + 4, none⟩ = some u4 ∧ V.cell? ⟨g, k * 9 + 5, none⟩ = some u5 ∧ V.cell? ⟨g, k * 9 + 6, none⟩ = some u6 ∧ V.cell? ⟨g, k * 9 + 7, none⟩ = some u7 ∧ V.cell? ⟨g, k * 9 + 8, none⟩ = some u8) := ⟨_, rfl⟩
    have HC : Hid (∀ V, Below wr.drew.heap.size wr.drew V → C V) := by
     intro V hV
     rw [hC]
     obtain ⟨d0, d1, d2, d3, d4, d5, d6, d7, d8⟩ := hc3
     exact ⟨hV, cell_keepX d0 hV, cell_keepX d1 hV, cell_keepX d2 hV, cell_keepX d3 hV, cell_keepX d4 hV, cell_keepX d5 hV, cell_keepX d6 hV, cell_keepX d7 hV, cell_keepX d8 hV⟩
    have HMC : Hid (∀ V, C V → Calls Tryz.prog 109 #[.int .i64 1, .int .i64 (i : Nat)] V fun e w' => e = .returned (.agg #[u0, u1, u2, u3, u4, u5, u6, u7, u8]) ∧ C w') := by
     intro V hV
     rw [hC] at hV
     rw [← hlit']
     exact (markNode_any i V (by omega)).mono fun e w' ⟨h1, h2⟩ => ⟨h1, HC.out w' (hV.1.trans (h2.mono hV.1.size))⟩
    have HMS : Hid (∀ V, C V → Calls Tryz.prog 47 #[.agg #[u0, u1, u2, u3, u4, u5, u6, u7, u8], .agg #[u0, u1, u2, u3, u4, u5, u6, u7, u8]] V fun e w' => e = .returned (.bool true) ∧ C w') := by
     intro V hV
     rw [hC] at hV
     rw [← hlit']
     exact (sameNode_any (markNV i) (markNV i) V (nodeIn_mark V i) (nodeIn_mark V i) ⟨Nat.zero_le _, Nat.zero_le _⟩ ⟨Nat.zero_le _, Nat.zero_le _⟩).mono fun e w' ⟨h1, h2⟩ => ⟨by rw [h1, (sameNd_iff _ _).2 rfl], HC.out w' (hV.1.trans (h2.mono hV.1.size))⟩
    have hCd : C wr.drew := HC.out _ (Below.refl _ _)
    have hiI : (k : Int) - n = (i : Nat) := by omega
    have hkJ : (k : Int) < (n : Int) + 12 := by omega
    have hge : decide ((n : Int) ≤ k) = true := by rw [decide_eq_true_iff]; omega
    have hltD : decide ((k : Int) < n) = false := by rw [decide_eq_false_iff_not]; omega
    have hltN : decide (k < n) = false := by rw [decide_eq_false_iff_not]; omega
    have hgeN : decide (n ≤ k) = true := by rw [decide_eq_true_iff]; omega
    have hwi : IntKind.i64.wrap (i : Int) = (i : Int) := by rw [IntKind.wrap_i64]; omega
    clear HC hlit' hc3 hi hkn hkm hbd
    go_wp2
    refine wp_region_quiet (C := C) (by kernel_rfl) (by kernel_rfl) hCd (Bxd.out ?_)
    clear hCd
    subst hC
    dsimp only
    iterate 5 (refine qw ?_; try simp only [Act.put, sb])
    iterate 10 (refine q_skip ((wanted_some (j := 4) (s := 27) (b := true) (c := false) rfl rfl rfl).trans rfl) ?_; (try simp only [Act.put, sb]))
    iterate 15 (refine qw ?_; try simp only [Act.put, sb])
    refine q_want (by kernel_rfl) (fun K hK => ?_)
    refine ⟨.agg #[u0, u1, u2, u3, u4, u5, u6, u7, u8], fun V hV => ?_, hK _ ?_⟩
    ·have HV := lh hV
     clear hV hK
     unfold Oper.quietAt
     go_simp
     exact HMC.out V HV.out
    clear hK K
    try simp only [Act.put, sb]
    refine q_want (by kernel_rfl) (fun K hK => ?_)
    refine ⟨.bool true, fun V hV => ?_, hK _ ?_⟩
    ·have HV := lh hV
     clear hV hK
     unfold Oper.quietAt
     go_simp
     exact HMS.out V HV.out
    clear hK K
    try simp only [Act.put, sb]
    iterate 3 (refine qw ?_; try simp only [Act.put, sb])
    refine ⟨wpQuiet_nil ?_⟩
    intro w5 hV
    have HV := lh hV.1
    clear hV
    go_wp2
    go_roundw
    case rel => exact ⟨k + 1, by omega, by go_num, bl_trans HBD.out HV.out⟩
    case measure => simp [intOf] <;> omega
   ·have hkJ : (n : Int) + 12 ≤ k := by omega
    go_wp2
    go_ret
    exact ⟨rfl, HB.out⟩
end Go.Proofs.YtkefndfgkmdphaaGreat
