import Derived.Test.YtkefndfgkmdphaaGreatFi
import Derived.Test.YtkefndfgkmdphaaGreatMn
import Derived.Test.YtkefndfgkmdphaaGreatLj
import Derived.Test.YtkefndfgkmdphaaGreatFts
import Derived.Test.YtkefndfgkmdphaaGreatJt

namespace Go.Proofs.YtkefndfgkmdphaaGreat
set_option maxHeartbeats 6400000
set_option maxRecDepth 100000
open Go.RowKit Tnr Tnt

theorem treeOfN_any (p : Option Addr) (n c : Nat) (xs : List NV) (pn : Option Addr) (nn cn : Nat) (nm : List ByteArray) (w : World) (hn : n = xs.length) (hnI : (n : Int) ≤ 9223372036854775807) (hp : SlN w p xs) (hf : ∀ x ∈ xs, x.nd.kids.length ≤ 9223372036854775807 ∧ x.nd.set.length ≤ 9223372036854775807) (hnn : nn = nm.length) (hnnI : (nn : Int) ≤ 9223372036854775807) (hX : SlX w pn nm) (hz : ∀ x ∈ nm, x.size ≤ 9223372036854775807) :
  Calls Tryz.prog 52 #[.agg #[.slice p n c, .slice pn nn cn], .int .i64 3000] w fun e w' => (∃ z : Int, e = .returned (.int .i64 z) ∧ 0 ≤ z ∧ z ≤ 1152921504606860000 ∧ (z ≤ 3000 → nn ≤ 3000 ∧ n ≤ 3000 ∧ ∀ x ∈ xs, x.nd.kids.length ≤ 3000 ∧ x.nd.set.length ≤ 3000) ∧ (z ≤ 3000 → (n : Int) ≤ z)) ∧ Below w.heap.size w w' := by
 obtain ⟨W1, hW1⟩ : ∃ W, W = w.alloc (.cells #[.slice p n c, .slice pn nn cn] 34) := ⟨_, rfl⟩
 obtain ⟨b0, hb0⟩ : ∃ b, b = w.heap.size := ⟨_, rfl⟩
 have hb1 : Below w.heap.size w W1 := by rw [hW1]; exact bl_alloc _ _
 have hT : Bx W1 b0 34 #[.slice p n c, .slice pn nn cn] := by rw [hW1, hb0]; exact Bx.new w _ _
 have cT0 : W1.cell? ⟨b0, 0, none⟩ = some (.slice p n c) := hT.cell rfl
 have cT1 : W1.cell? ⟨b0, 1, none⟩ = some (.slice pn nn cn) := hT.cell rfl
 have HT := lh (textsOf6_any pn nn cn nm W1 hnn hnnI (hX.below hb1) hz)
 have HP := lh (hp.below hb1)
 have HN := lh (And.intro hn hf)
 have HB1 := lh hb1
 have HW1 := lh (And.intro hW1 hb0)
 clear hn hp hf hnn hnnI hX hz hW1 hb1 hT hb0
 go_enter Tryz.func52, Tryz.ntmps52
 go_wp2_with fail
 rw [← HW1.out.2, show w.alloc (.cells #[.slice p n c, .slice pn nn cn] 34) = W1 from HW1.out.1.symm]
 refine (HT.out).mono ?_
 rintro e w5 ⟨⟨tz, rfl, ht0, htm, htn⟩, rfl⟩
 have HTN := lh htn
 clear htn HT
 go_wp2
 go_loopw [5, 6] (fun iv jv wr => ∃ (k r : Nat) (z : Int), k ≤ n ∧ jv = .int .i64 (k : Nat) ∧ iv = .int .i64 z ∧ Hid (tz ≤ z ∧ (k : Int) ≤ z ∧ z ≤ 1152921504606860000) ∧ Hid (∀ j, j < k → ((min (gn xs j).nd.set.length 3001 : Nat) : Int) + ((min (gn xs j).nd.kids.length 3000 : Nat) : Int) + 1 ≤ z) ∧ wr = w5.drewN r) (fun _ jv _ => n - (intOf jv).toNat)
 case atStart => exact ⟨0, 0, tz, Nat.zero_le _, rfl, rfl, ⟨by omega, by omega, by omega⟩, fun j hj => absurd hj (by omega), rfl⟩
 case round =>
  obtain ⟨k, r, z, hk, rfl, rfl, HZ, HE, rfl⟩ := hrel
  by_cases hkn : k < n
  ·have hkI : (k : Int) < n := by omega
   by_cases hz3 : z ≤ 3000
   ·have hkx : k < xs.length := by have := HN.out.1; omega
    obtain ⟨b, o, rfl, hcells, _⟩ := HP.out.at hkx
    obtain ⟨x, hx⟩ : ∃ x, x = gn xs k := ⟨_, rfl⟩
    have hfx := HN.out.2 _ (gn_mem hkx)
    rw [← hx] at hcells hfx
    obtain ⟨ls, hls⟩ : ∃ n, n = x.nd.set.length := ⟨_, rfl⟩
    obtain ⟨lk, hlk⟩ : ∃ n, n = x.nd.kids.length := ⟨_, rfl⟩
    obtain ⟨_, c1, c2, _⟩ := hcells
    rw [← hls] at c1 hfx
    rw [← hlk] at c2 hfx
    have HX := lh (And.intro hx (And.intro hls hlk))
    have HR : Hid (∀ q, Calls Tryz.prog 106 #[.slice x.ps ls x.cs, .int .i64 3000] (w5.drewN q) fun e w' => e = .returned (.int .i64 ((min ls 3001 : Nat) : Int)) ∧ w' = w5.drewN q) := fun q => rangesOf6_any _ _ _ _
    have hls2 : min ls 3001 ≤ 3001 := by omega
    obtain ⟨ms, hms⟩ : ∃ m, m = min ls 3001 := ⟨_, rfl⟩
    rw [← hms] at HR hls2
    have HMS := lh hms
    have hz0 : 0 ≤ z := by have := HZ.out; omega
    have hw1 : IntKind.i64.wrap (z + 1) = z + 1 := by rw [IntKind.wrap_i64]; omega
    have hw2 : IntKind.i64.wrap (z + 1 + ((ms : Nat) : Int)) = z + 1 + ((ms : Nat) : Int) := by rw [IntKind.wrap_i64]; omega
    have hw3 : IntKind.i64.wrap (z + 1 + ((ms : Nat) : Int) + min ((lk : Nat) : Int) 3000) = z + 1 + ((ms : Nat) : Int) + min ((lk : Nat) : Int) 3000 := by rw [IntKind.wrap_i64]; omega
    have hw4 : IntKind.i64.wrap ((k : Nat) + 1 : Int) = (k : Nat) + 1 := by rw [IntKind.wrap_i64]; omega
    have e1 : decide (z ≤ 3000) = true := by simpa using hz3
    clear hx hls hlk hms hfx hkx
    obtain ⟨C, hC⟩ : ∃ C : World → Prop, C = fun V => V.cell? ⟨b0, 0, none⟩ = some (.slice (some ⟨b, o, none⟩) n c) ∧ V.cell? ⟨b, o + k * 9 + 1, none⟩ = some (.slice x.ps ls x.cs) ∧ V.cell? ⟨b, o + k * 9 + 2, none⟩ = some (.slice x.pk lk x.ck) ∧ ∃ q, V = w5.drewN q := ⟨_, rfl⟩
    have hCd : C (w5.drewN r).drew := by rw [hC]; exact ⟨cT0, c1, c2, r + 1, rfl⟩
    have HF2 : Hid (∀ V, C V → Calls Tryz.prog 106 #[.slice x.ps ls x.cs, .int .i64 3000] V fun e w' => e = .returned (.int .i64 ((ms : Nat) : Int)) ∧ C w') := by
     intro V hV
     have hV' := hV
     rw [hC] at hV'
     obtain ⟨_, _, _, q, rfl⟩ := hV'
     exact (HR.out q).mono fun e w' ⟨h1, h2⟩ => ⟨h1, by rw [h2]; exact hV⟩
    go_wp2
    refine wp_region_quiet (C := C) (by kernel_rfl) (by kernel_rfl) hCd ?_
    clear hCd
    subst hC
    dsimp only
    iterate 9 (refine BigFrame.wpQuiet_want (by kernel_rfl) (fun K hK => ?_); refine ⟨?_, fun V hV => ?_, hK _ ?_⟩; rotate_left; (focus (unfold Oper.quietAt; dsimp only at hV; go_simp; try with_reducible rfl)); clear hK K; (try simp only [Act.put, sb]))
    refine BigFrame.wpQuiet_want (by kernel_rfl) (fun K hK => ?_)
    refine ⟨.int .i64 ((ms : Nat) : Int), fun V hV => ?_, hK _ ?_⟩
    ·have HV := lh hV
     clear hV hK
     unfold Oper.quietAt
     go_simp
     exact HF2.out V HV.out
    clear hK K
    try simp only [Act.put, sb]
    iterate 9 (refine BigFrame.wpQuiet_want (by kernel_rfl) (fun K hK => ?_); refine ⟨?_, fun V hV => ?_, hK _ ?_⟩; rotate_left; (focus (unfold Oper.quietAt; dsimp only at hV; go_simp; try with_reducible rfl)); clear hK K; (try simp only [Act.put, sb]))
    refine BigFrame.wpQuiet_want (by kernel_rfl) (fun K hK => ?_)
    refine ⟨.int .i64 (min ((lk : Nat) : Int) 3000), fun V hV => ?_, hK _ ?_⟩
    ·clear hV hK
     unfold Oper.quietAt
     go_simp
    clear hK K
    try simp only [Act.put, sb]
    iterate 2 (refine BigFrame.wpQuiet_want (by kernel_rfl) (fun K hK => ?_); refine ⟨?_, fun V hV => ?_, hK _ ?_⟩; rotate_left; (focus (unfold Oper.quietAt; dsimp only at hV; go_simp; try with_reducible rfl)); clear hK K; (try simp only [Act.put, sb]))
    refine wpQuiet_nil ?_
    intro w6 hV
    obtain ⟨_, _, _, q, rfl⟩ := hV
    go_wp2
    go_roundw
    case rel =>
     refine ⟨k + 1, q, z + 1 + ((ms : Nat) : Int) + min ((lk : Nat) : Int) 3000, by omega, by go_num, rfl, ⟨by have := HZ.out; omega, by have := HZ.out; omega, by omega⟩, fun j hj => ?_, by first | rfl | trivial⟩
     by_cases hjk : j < k
     ·have := HE.out j hjk; omega
     ·obtain rfl : j = k := by omega
      rw [← HX.out.1, ← HX.out.2.1, ← HX.out.2.2, ← HMS.out]; omega
    case measure => simp [intOf]; omega
   ·have e1 : decide (z ≤ 3000) = false := by simpa using hz3
    go_wp2
    go_ret
    exact ⟨⟨z, rfl, by have := HZ.out; omega, HZ.out.2.2, fun h => by omega, fun h => by omega⟩, HB1.out.trans ((drewN_below w5 r).mono HB1.out.size)⟩
  ·have hkI : decide ((k : Int) < n) = false := by simp; omega
   go_wp2
   go_ret
   refine ⟨⟨z, rfl, by have := HZ.out; omega, HZ.out.2.2, fun h => ⟨?_, by have := HZ.out; omega, fun x hx => ?_⟩, fun h => by have := HZ.out; omega⟩, HB1.out.trans ((drewN_below w5 r).mono HB1.out.size)⟩
   ·have := HTN.out (by have := HZ.out; omega)
    have := HZ.out
    omega
   ·obtain ⟨j, hj, rfl⟩ := List.getElem_of_mem hx
    have h2 := HE.out j (by have := HN.out.1; omega)
    rw [gn_get hj] at h2
    omega

structure TNm (w : World) (t : TV) (nm : List ByteArray) : Prop where
 tree : TreeIn w t
 few : ∀ x ∈ t.ys, x.nd.kids.length ≤ 9223372036854775807 ∧ x.nd.set.length ≤ 9223372036854775807
 len : t.nn = nm.length
 max : (t.nn : Int) ≤ 9223372036854775807
 sl : SlX w t.na nm
 fits : ∀ x ∈ nm, x.size ≤ 9223372036854775807
def Small7 (m : Nat) (ts : List TV) : Prop := m ≤ 3000 ∧ sizeT ts ≤ 3000 ∧ ∀ t ∈ ts, t.nn ≤ 3000 ∧ t.ys.length ≤ 3000 ∧ ∀ x ∈ t.ys, x.nd.kids.length ≤ 3000 ∧ x.nd.set.length ≤ 3000
theorem sizeT_take {ts : List TV} {k : Nat} (h : k < ts.length) : sizeT (ts.take (k + 1)) = sizeT (ts.take k) + (gt ts k).ys.length := by
 rw [take_gt h]
 unfold sizeT
 simp
theorem treesOfN_any (p : Option Addr) (c m : Nat) (ts : List TV) (w : World) (hm : m = ts.length) (hmI : (m : Int) ≤ 9223372036854775807) (hp : SlT w p ts) (hn : ∀ t ∈ ts, ∃ nm, TNm w t nm) :
  Calls Tryz.prog 25 #[.slice p m c, .int .i64 3000] w fun e w' => (∃ z : Int, e = .returned (.int .i64 z) ∧ (z ≤ 3000 → Small7 m ts)) ∧ Below w.heap.size w w' := by
 have HM := lh hm
 have HP := lh hp
 have HN := lh hn
 clear hm hp hn
 go_enter Tryz.func25, Tryz.ntmps25
 go_wp2
 go_loopw [5, 6] (fun iv jv wr => ∃ (k : Nat) (z : Int), k ≤ m ∧ jv = .int .i64 (k : Nat) ∧ iv = .int .i64 z ∧ Hid (0 ≤ z ∧ z ≤ 1152921504606869999 ∧ (z ≤ 3000 → (k : Int) + (sizeT (ts.take k) : Nat) ≤ z ∧ ∀ j, j < k → (gt ts j).nn ≤ 3000 ∧ (gt ts j).ys.length ≤ 3000 ∧ ∀ x ∈ (gt ts j).ys, x.nd.kids.length ≤ 3000 ∧ x.nd.set.length ≤ 3000)) ∧ Hid (Below w.heap.size w wr)) (fun _ jv _ => m - (intOf jv).toNat)
 case atStart => exact ⟨0, 0, Nat.zero_le _, rfl, rfl, ⟨by omega, by omega, fun _ => ⟨by simp [sizeT], fun j hj => absurd hj (Nat.not_lt_zero j)⟩⟩, Below.refl _ _⟩
 case round =>
  obtain ⟨k, z, hk, rfl, rfl, HZ, HB⟩ := hrel
  rename World => wr
  by_cases hkm : k < m
  ·have hkI : (k : Int) < m := by omega
   by_cases hz3 : z ≤ 3000
   ·have e1 : decide (z ≤ 3000) = true := by simpa using hz3
    have hkx : k < ts.length := by have := HM.out; omega
    obtain ⟨b, o, rfl, ct0, ct1, _⟩ := (HP.out.below HB.out).at hkx
    obtain ⟨nm, hnm⟩ := HN.out _ (gt_mem hkx)
    have HST := lh (sizeT_take hkx)
    obtain ⟨t, ht⟩ : ∃ t, t = gt ts k := ⟨_, rfl⟩
    have HTE := lh ht
    rw [← ht] at ct0 ct1 hnm HST
    obtain ⟨ly, hly⟩ : ∃ n, n = t.ys.length := ⟨_, rfl⟩
    rw [← hly] at ct0
    have HLY := lh hly
    have HT := lh (fun W (hW : Below wr.heap.size wr W) => treeOfN_any t.q ly t.cq t.ys t.na t.nn t.nc nm W hly (by have := hnm.tree.le; have := hnm.tree.max; omega) ((hnm.tree.nodes.below HB.out).below hW) hnm.few hnm.len hnm.max ((hnm.sl.below HB.out).below hW) hnm.fits)
    have HKM := lh hkm
    have HZ3 := lh hz3
    clear hkm hz3 hkx hnm ht hly
    go_wp2_with fail
    refine (HT.out _ (by first | exact Below.refl _ _ | exact bl_alloc _ _)).mono ?_
    rintro e w5 ⟨⟨y, rfl, hy0, hym, hys, hyn⟩, hb5⟩
    have HY := lh (And.intro hy0 (And.intro hym (And.intro hys hyn)))
    have HB5 := lh (HB.out.trans (hb5.mono HB.out.size))
    have hw1 : IntKind.i64.wrap (z + 1) = z + 1 := by rw [IntKind.wrap_i64]; have := HZ.out; have := HZ3.out; omega
    have hw2 : IntKind.i64.wrap (z + 1 + y) = z + 1 + y := by rw [IntKind.wrap_i64]; have := HZ.out; have := HZ3.out; omega
    clear hy0 hym hys hyn hb5 ct0 ct1
    go_wp2
    go_roundw
    case rel =>
     refine ⟨k + 1, z + 1 + y, by have := HKM.out; omega, by go_num, (by have := HZ.out; have := HZ3.out; have := HY.out; congr 1; unfold wrap64; omega), ⟨by have := HZ.out; have := HY.out; omega, by have := HZ3.out; have := HY.out; omega, fun h => ?_⟩, HB5.out⟩
     obtain ⟨z0, _, zs⟩ := HZ.out
     obtain ⟨y0, _, ys, yn⟩ := HY.out
     obtain ⟨q1, q2⟩ := zs HZ3.out
     have hy3 : y ≤ 3000 := by omega
     have := yn hy3
     refine ⟨by rw [HST.out, ← HLY.out]; omega, fun j hj => ?_⟩
     by_cases e : j = k
     ·subst e
      rw [← HTE.out]
      obtain ⟨r1, r2, r3⟩ := ys hy3
      exact ⟨r1, by rw [← HLY.out]; exact r2, r3⟩
     ·exact q2 j (by omega)
    case measure => have := HKM.out; simp [intOf]; omega
   ·have e1 : decide (z ≤ 3000) = false := by simpa using hz3
    go_wp2
    go_ret
    exact ⟨⟨z, rfl, fun h => by omega⟩, HB.out⟩
  ·obtain rfl : k = m := by omega
   have hkI : decide ((k : Int) < k) = false := by simp
   go_wp2
   go_ret
   refine ⟨⟨z, rfl, fun h => ?_⟩, HB.out⟩
   obtain ⟨_, _, zs⟩ := HZ.out
   obtain ⟨q1, q2⟩ := zs h
   rw [List.take_of_length_le (by rw [← HM.out]; exact Nat.le_refl _)] at q1
   refine ⟨by omega, by omega, fun t ht => ?_⟩
   obtain ⟨j, hj, rfl⟩ := List.getElem_of_mem ht
   have := q2 j (by have := HM.out; omega)
   rw [gt_get hj] at this
   exact this
end Go.Proofs.YtkefndfgkmdphaaGreat


namespace Go.Proofs.YtkefndfgkmdphaaGreat
set_option maxHeartbeats 6400000
set_option maxRecDepth 100000
open Go.RowKit Tnr Tnt

def RowT (w : World) (B : Nat) (v : Value) (l : List TV) : Prop := w.ownsRow B 34 2 v l.length (l.flatMap encT)
theorem rowT_form {w : World} {B : Nat} {v : Value} {l : List TV} (h : RowT w B v l) : ∃ q d, v = .slice q l.length d := by
 rcases h.2 with ⟨rfl, hn⟩ | ⟨g, cap, cur, rfl, _⟩
 ·exact ⟨none, 0, by rw [hn]⟩
 ·exact ⟨_, _, rfl⟩
theorem rowT_some {w : World} {B no : Nat} {q : Option Addr} {d : Nat} {l : List TV} (h : RowT w B (.slice q no d) l) (hn : 0 < no) (hl : no = l.length) : ∃ g, q = some ⟨g, 0, none⟩ ∧ no ≤ d ∧ d ≤ 9223372036854775807 := by
 subst hl
 rcases h.2 with ⟨_, h0⟩ | ⟨g, cap, cur, e, _, _, hnc, hcm, _⟩
 ·omega
 ·simp only [Value.slice.injEq, true_and] at e
  obtain ⟨rfl, rfl⟩ := e
  exact ⟨g, rfl, hnc, by simpa [maxLen] using hcm⟩
def LT (w : World) (B : Nat) (t u : TV) (nm : List ByteArray) : Prop :=
 ∃ g cap gx capx ys, u = ⟨some ⟨g, 0, none⟩, cap, some ⟨gx, 0, none⟩, t.nn, capx, ys⟩ ∧ LNs w B t.ys.length g cap t.ys ys ∧ LXs w B t.nn gx capx nm
def MK (w : World) (B : Nat) (u : TV) (i : Nat) : Prop := ∃ a, u = ⟨none, 0, some ⟨a, 0, none⟩, 1, 1, []⟩ ∧ Bx w a 9 #[.string (mtx 1 i)] ∧ B ≤ a
def LQ (w : World) (B n : Nat) (ts : List TV) (nms : Nat → List ByteArray) (i : Nat) (u : TV) : Prop := (i < n → LT w B (gt ts i) u (nms i)) ∧ (¬ i < n → MK w B u (i - n))
theorem LT.below {w w' : World} {B : Nat} {t u : TV} {nm : List ByteArray} (h : LT w B t u nm) (hb : Below w.heap.size w w') : LT w' B t u nm := by
 obtain ⟨g, cap, gx, capx, ys, e, h1, h2⟩ := h
 exact ⟨g, cap, gx, capx, ys, e, h1.below hb, h2.below hb⟩
theorem LQ.below {w w' : World} {B n i : Nat} {ts : List TV} {nms : Nat → List ByteArray} {u : TV} (h : LQ w B n ts nms i u) (hb : Below w.heap.size w w') : LQ w' B n ts nms i u :=
 ⟨fun hi => (h.1 hi).below hb, fun hi => by obtain ⟨a, e, h1, h2⟩ := h.2 hi; exact ⟨a, e, h1.below hb, h2⟩⟩
theorem LQ.beside {w w' : World} {B n i : Nat} {ts us : List TV} {nms : Nat → List ByteArray} {u : TV} {v : Value} (h : LQ w B n ts nms i u) (ho : RowT w B v us) (hg : w.grownBy w' v.ownBlock) : LQ w' B n ts nms i u := by
 have kp : ∀ {T : TypeId} {z m : Nat} {v2 : Value} {xs : List Value}, T ≠ 34 → w.ownsRow B T z v2 m xs → w'.ownsRow B T z v2 m xs := fun {T z m v2 xs} hT hr => kept_beside hr ho hT hg
 refine ⟨fun hi => ?_, fun hi => ?_⟩
 ·obtain ⟨g, cap, gx, capx, ys, e, h1, h2⟩ := h.1 hi
  refine ⟨g, cap, gx, capx, ys, e, ⟨h1.1, h1.2.1, h1.2.2.1, kp (by decide) h1.2.2.2.1, fun j hj => ?_⟩, h2.1, h2.2.1, h2.2.2.1, kp (by decide) h2.2.2.2⟩
  obtain ⟨h0, ⟨g, k1, k2, k3, k4⟩, g', l1, l2, l3, l4⟩ := h1.2.2.2.2 j hj
  exact ⟨h0, ⟨g, k1, k2, k3, kp (by decide) k4⟩, g', l1, l2, l3, kp (by decide) l4⟩
 ·obtain ⟨a, e, h1, h2⟩ := h.2 hi
  exact ⟨a, e, h1.kept hg (fun s => row_ne ho h1 (by decide) s.symm), h2⟩
theorem gt_snoc_lt {us : List TV} {u : TV} {i : Nat} (h : i < us.length) : gt (us ++ [u]) i = gt us i := by
 rw [gt_get (by rw [List.length_append]; omega), gt_get h, List.getElem_append_left h]
theorem gt_snoc_eq {us : List TV} {u : TV} : gt (us ++ [u]) us.length = u := by
 rw [gt_get (by rw [List.length_append]; simp)]; simp
def RQ (w : World) (B n : Nat) (ts : List TV) (nms : Nat → List ByteArray) (v : Value) (us : List TV) : Prop := RowT w B v us ∧ ∀ i, i < us.length → LQ w B n ts nms i (gt us i)
theorem RQ.below {w w' : World} {B n : Nat} {ts us : List TV} {nms : Nat → List ByteArray} {v : Value} (h : RQ w B n ts nms v us) (hb : Below w.heap.size w w') : RQ w' B n ts nms v us := ⟨row_below h.1 hb, fun i hi => (h.2 i hi).below hb⟩
theorem RQ.snoc {w w' : World} {B n no : Nat} {ts us : List TV} {nms : Nat → List ByteArray} {v v' : Value} {u : TV} (h : RQ w B n ts nms v us) (hno : no = us.length) (hu : LQ w B n ts nms us.length u) (hown : w'.ownsRow B 34 2 v' (no + 1) (us.flatMap encT ++ encT u)) (hg : w.grownBy w' v.ownBlock) : RQ w' B n ts nms v' (us ++ [u]) := by
 refine ⟨?_, fun i hi => ?_⟩
 ·unfold RowT
  rw [List.length_append, ← hno, List.flatMap_append, show [u].flatMap encT = encT u by simp]
  exact hown
 ·by_cases e : i < us.length
  ·rw [gt_snoc_lt e]; exact (h.2 i e).beside h.1 hg
  ·have : i = us.length := by rw [List.length_append, List.length_singleton] at hi; omega
   subst this
   rw [gt_snoc_eq]; exact hu.beside h.1 hg
def LentTsPost (n : Nat) (ts : List TV) (nms : Nat → List ByteArray) (w : World) (e : Ending) (w' : World) : Prop :=
 ∃ g cap us, e = .returned (.slice (some ⟨g, 0, none⟩) n cap) ∧ us.length = n + 12 ∧ n + 12 ≤ cap ∧ cap ≤ 9223372036854775807 ∧ RQ w' w.heap.size n ts nms (.slice (some ⟨g, 0, none⟩) (n + 12) cap) us ∧ Below w.heap.size w w'
theorem lentTrees_any (p : Option Addr) (c n : Nat) (ts : List TV) (nms : Nat → List ByteArray) (w : World) (hn : n = ts.length) (hp : SlT w p ts) (hs : Small7 n ts) (hnm : ∀ i, i < n → TNm w (gt ts i) (nms i)) (hnil : ∀ t ∈ ts, t.na = none → t.nc = 0) :
  Calls Tryz.prog 7 #[.slice p n c] w (LentTsPost n ts nms w) := by
 obtain ⟨i0, hinf, hz0, hz1, hz2⟩ := info_parts info_tree
 have HX := lh hp
 have HS := lh hs
 have HNM := lh hnm
 have HNI := lh hnil
 have hnm3 : n ≤ 3000 := hs.1
 have hnI : (n : Int) ≤ 3000 := by omega
 have HN := lh hn
 clear hp hs hnm hnil hn
 go_enter Tryz.func7, Tryz.ntmps7
 go_wp2_with (at_make; refine wpList_make_own _ rfl _ _ 29 rfl w.heap.size 34 i0 (.agg #[.slice none 0 0, .slice none 0 0]) 2 Tryz.underlying29 hinf hz0 hz1 .i64 .i64 _ (n + 12) rfl rfl ?m1 ?m3 ?m4 ?m5 ?_)
 case m1 => push_cast; rfl
 case m3 => rw [hz2]; omega
 case m4 => simp only [maxLen]; omega
 case m5 => exact Nat.le_refl _
 intro w2 hown2 hgrow2
 have hb2 : Below w.heap.size w w2 := (Below.refl _ _).grown hgrow2 (Nat.le_refl _) (by simp)
 have HO2 := lh (show RQ w2 w.heap.size n ts nms (.slice (some ⟨w.heap.size, 0, none⟩) 0 (n + 12)) [] from ⟨hown2, fun i hi => by simp at hi⟩)
 have HB2 := lh hb2
 clear hown2 hgrow2 hb2
 go_wp2
 go_loopw [3, 4] (fun ov iv wr => ∃ (k : Nat) (q : Option Addr) (d : Nat) (us : List TV), k ≤ n ∧ ov = .slice q k d ∧ iv = .int .i64 (k : Nat) ∧ Hid (k = us.length) ∧ Hid (RQ wr w.heap.size n ts nms (.slice q k d) us) ∧ Hid (Below w.heap.size w wr)) (fun _ iv _ => n - (intOf iv).toNat)
 case atStart => exact ⟨0, _, _, [], Nat.zero_le _, rfl, rfl, rfl, HO2.out, HB2.out⟩
 case round =>
  obtain ⟨k, q, d, us, hk, rfl, rfl, HK, HO, HB⟩ := hrel
  rename World => wr
  by_cases hkn : k < n
  ·have hkx : k < ts.length := by have := HN.out; omega
   obtain ⟨bp, op, rfl, c0, c1, hti⟩ := (HX.out.below HB.out).at hkx
   have hkI : (k : Int) < n := by omega
   have hsm := HS.out.2.2 _ (gt_mem hkx)
   have hnn := HNM.out k hkn
   have hni := HNI.out _ (gt_mem hkx)
   obtain ⟨t, ht⟩ : ∃ t, t = gt ts k := ⟨_, rfl⟩
   rw [← ht] at c0 c1 hti hsm hnn hni
   obtain ⟨ly, hly⟩ : ∃ n, n = t.ys.length := ⟨_, rfl⟩
   rw [← hly] at c0 hsm
   have HLEN := lh (lentTree_any t.q ly t.cq t.ys t.na t.nn t.nc (nms k) wr hly hti.nodes hsm.2.1 hsm.2.2 hnn.len (hnn.sl.below HB.out) hsm.1 hni)
   have HTE := lh (And.intro ht hly)
   have HKN := lh hkn
   have HWS := lh HB.out.size
   clear hkx hti hsm hnn hni ht hly hkn
   go_wp2_with fail
   refine HLEN.out.mono ?_
   rintro e w6 ⟨g1, c1', gx, cx, ys, rfl, hln, hlx, hb6⟩
   have hb6a := bl_alloc w6 (.cells #[.slice (some ⟨g1, 0, none⟩) ly c1', .slice (some ⟨gx, 0, none⟩) t.nn cx] 34)
   have hXa := Bx.new w6 34 #[.slice (some ⟨g1, 0, none⟩) ly c1', .slice (some ⟨gx, 0, none⟩) t.nn cx]
   have z0 := hXa.cell (i := 0) rfl
   have z1 := hXa.cell (i := 1) rfl
   have hu : LQ w6 w.heap.size n ts nms us.length ⟨some ⟨g1, 0, none⟩, c1', some ⟨gx, 0, none⟩, t.nn, cx, ys⟩ := ⟨fun _ => ⟨g1, c1', gx, cx, ys, by rw [← HK.out, ← HTE.out.1], by rw [← HK.out, ← HTE.out.1, ← HTE.out.2]; exact hln.down HWS.out, by rw [← HK.out, ← HTE.out.1]; exact ⟨hlx.1, hlx.2.1, hlx.2.2.1, World.ownsRow.mono hlx.2.2.2 HWS.out⟩⟩, fun h => absurd (show us.length < n by rw [← HK.out]; exact HKN.out) h⟩
   have HR6 := lh ((HO.out.below hb6).below hb6a)
   have HU6 := lh (hu.below hb6a)
   have HB6 := lh (HB.out.trans ((bl_trans hb6 hb6a).mono HWS.out))
   have HLY : Hid (ys.length = ly) := hln.1.symm
   clear hb6 hb6a HLEN hXa hln hlx hu c0 c1
   go_wp2_with (at_builtin; refine wpList_append_own _ rfl _ _ 29 rfl w.heap.size 34 i0 (.agg #[.slice none 0 0, .slice none 0 0]) 2 48 Tryz.underlying29 hinf hz0 hz1 hz2 rfl (by decide) (.slice q k d) k _ rfl (by have h := HR6.out.1; unfold RowT at h; rw [← HK.out] at h; exact h.alloc _) ⟨_, 0, none⟩ 1 1 [.slice (some ⟨g1, 0, none⟩) ly c1', .slice (some ⟨gx, 0, none⟩) t.nn cx] rfl rfl ?k1 ?k2 ?k3 ?k4 ?k5 ?_)
   case k1 =>
    have h := cells_nine (w6.alloc (.cells #[.slice (some ⟨g1, 0, none⟩) ly c1', .slice (some ⟨gx, 0, none⟩) t.nn cx] 34)) [.slice (some ⟨g1, 0, none⟩) ly c1', .slice (some ⟨gx, 0, none⟩) t.nn cx] 34
    rw [World.size_alloc] at h
    exact h
   case k2 => simp [Value.oneCell']
   case k3 => simp only [maxLen]; omega
   case k4 => omega
   case k5 => have := HB6.out.size; simp at this ⊢; omega
   intro v5 w5 hown5 hgrow5 _
   have hnew := (HR6.out.below (bl_alloc _ (.cells #[.slice (some ⟨g1, 0, none⟩) ly c1', .slice (some ⟨gx, 0, none⟩) t.nn cx] 34))).snoc HK.out (HU6.out.below (bl_alloc _ _)) (by unfold encT; rw [HLY.out]; exact hown5) hgrow5
   obtain ⟨q5, d5, rfl⟩ := rowT_form hnew.1
   have hb5 : Below w.heap.size w w5 := (HB6.out.alloc HB6.out.size _).grown hgrow5 (by have := HB6.out.size; simp at this ⊢; omega) (fun g hg => (HR6.out.1.lt g hg).1)
   have HK5 : Hid (k + 1 = (us ++ [(⟨some ⟨g1, 0, none⟩, c1', some ⟨gx, 0, none⟩, t.nn, cx, ys⟩ : TV)]).length) := by show _ = _; rw [List.length_append, ← HK.out]; rfl
   rw [← HK5.out] at hnew ⊢
   have HNW := lh hnew
   have HB5 := lh hb5
   clear hown5 hgrow5 hb5 hnew z0 z1
   go_wp2
   go_roundw
   case rel => exact ⟨k + 1, q5, d5, _, by have := HKN.out; omega, rfl, by go_num, HK5.out, HNW.out, HB5.out⟩
   case measure => have := HKN.out; simp [intOf]; omega
  ·have hkI : (n : Int) ≤ k := by omega
   obtain rfl : k = n := by omega
   clear hkn
   go_wp2
   go_loopw [3, 6] (fun ov jv wi => ∃ (j no : Nat) (q : Option Addr) (d : Nat) (us : List TV), j ≤ 12 ∧ no = k + j ∧ ov = .slice q no d ∧ jv = .int .i64 (j : Nat) ∧ Hid (no = us.length) ∧ Hid (RQ wi w.heap.size k ts nms (.slice q no d) us) ∧ Hid (Below w.heap.size w wi)) (fun _ jv _ => 12 - (intOf jv).toNat)
   case atStart => exact ⟨0, k, q, d, us, by omega, rfl, rfl, rfl, HK.out, HO.out, HB.out⟩
   case round =>
    clear HK HO HB
    obtain ⟨j, no, q2, d2, us2, hj, hno, rfl, rfl, HK, HO, HB⟩ := hrel
    rename World => wi
    by_cases hj12 : j < 12
    ·have hjI : (j : Int) < 12 := by omega
     have HMN := lh (markTreeV_any 1 j wi (by decide) (by omega))
     have HJ := lh hj12
     have HNO := lh hno
     clear hj12 hno
     go_wp2_with fail
     refine HMN.out.mono ?_
     rintro e w6 ⟨g, rfl, hg6, hgs6, hb6⟩
     have hu : LQ w6 w.heap.size k ts nms us2.length ⟨none, 0, some ⟨g, 0, none⟩, 1, 1, []⟩ := ⟨fun h => by have := HK.out; have := HNO.out; omega, fun _ => ⟨g, rfl, by rw [show us2.length - k = j by have := HK.out; have := HNO.out; omega]; exact hg6, Nat.le_trans HB.out.size hgs6⟩⟩
     have HR6 := lh (HO.out.below hb6)
     have HU6 := lh hu
     have HB6 := lh (HB.out.trans (hb6.mono HB.out.size))
     clear hb6 HMN hu hg6 hgs6
     go_wp2_with (at_builtin; refine wpList_append_own _ rfl _ _ 29 rfl w.heap.size 34 i0 (.agg #[.slice none 0 0, .slice none 0 0]) 2 48 Tryz.underlying29 hinf hz0 hz1 hz2 rfl (by decide) (.slice q2 no d2) no _ rfl (by have h := HR6.out.1; unfold RowT at h; rw [← HK.out] at h; exact h.alloc _) ⟨_, 0, none⟩ 1 1 [.slice none 0 0, .slice (some ⟨g, 0, none⟩) 1 1] rfl rfl ?n1 ?n2 ?n3 ?n4 ?n5 ?_)
     case n1 => exact cells_nine w6 _ 34
     case n2 => simp [Value.oneCell']
     case n3 => have := HNO.out; simp only [maxLen]; omega
     case n4 => have := HNO.out; omega
     case n5 => have := HB6.out.size; simp; omega
     intro v5 w5 hown5 hgrow5 _
     have hnew := (HR6.out.below (bl_alloc _ (.cells #[.slice none 0 0, .slice (some ⟨g, 0, none⟩) 1 1] 34))).snoc HK.out (HU6.out.below (bl_alloc _ _)) hown5 hgrow5
     obtain ⟨q5, d5, rfl⟩ := rowT_form hnew.1
     have hb5 : Below w.heap.size w w5 := (HB6.out.alloc HB6.out.size _).grown hgrow5 (by have := HB6.out.size; simp; omega) (fun g hg => (HR6.out.1.lt g hg).1)
     have HK5 : Hid (no + 1 = (us2 ++ [(⟨none, 0, some ⟨g, 0, none⟩, 1, 1, []⟩ : TV)]).length) := by show _ = _; rw [List.length_append, ← HK.out]; rfl
     rw [← HK5.out] at hnew ⊢
     have HNW := lh hnew
     have HB5 := lh hb5
     clear hown5 hgrow5 hb5 hnew
     go_wp2
     go_roundw
     case rel => exact ⟨j + 1, no + 1, q5, d5, _, by have := HJ.out; omega, by have := HNO.out; omega, rfl, by go_num, HK5.out, HNW.out, HB5.out⟩
     case measure => have := HJ.out; simp [intOf]; omega
    ·have hjI : (12 : Int) ≤ j := by omega
     obtain rfl : j = 12 := by omega
     obtain ⟨g, rfl, hd1, hd2⟩ := rowT_some HO.out.1 (by omega) HK.out
     subst hno
     go_wp2
     go_ret
     exact ⟨g, d2, us2, rfl, HK.out.symm, hd1, hd2, HO.out, HB.out⟩
end Go.Proofs.YtkefndfgkmdphaaGreat

