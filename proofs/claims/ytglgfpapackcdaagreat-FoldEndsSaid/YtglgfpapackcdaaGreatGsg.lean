/- The walks of SameProps, SameTables, LentTables, KeptTables: tables handed in, and kept. -/
/- The walks of LentTables and KeptTables. -/
import Derived.Test.YtglgfpapackcdaaGreatGsa
import Derived.Test.YtglgfpapackcdaaGreatGse

namespace Go.Proofs.YtglgfpapackcdaaGreat
open Go.RowKit Tnr

set_option maxHeartbeats 3200000 in
set_option maxRecDepth 100000 in
theorem sameProps_any (p q : Option Addr) (c d n : Nat) (xs ys : List PV) (w : World) (hn : n = xs.length) (hny : n = ys.length) (hx : SlP w p xs) (hy : SlP w q ys) (hnm : n ≤ 3000) (hl : ∀ i, i < n → (gp xs i).2.2.2.length ≤ 3000) (he : ∀ i, i < n → (gp xs i).1 = (gp ys i).1 ∧ (gp xs i).2.2.2 = (gp ys i).2.2.2) :
    Calls Tryz.prog 87 #[.slice p n c, .slice q n d] w fun e w' => e = .returned (.bool true) ∧ Below w.heap.size w w' := by
  have hnI : (n : Int) ≤ 3000 := by omega
  have HN := Lib.hid hn
  have HNY := Lib.hid hny
  have HX := Lib.hid hx
  have HY := Lib.hid hy
  have HL := Lib.hid hl
  have HE := Lib.hid he
  clear hn hny hx hy hl he
  go_enter Tryz.func87, Tryz.ntmps87
  go_wp2
  go_loopw [5] (fun iv wr => ∃ (k : Nat), k ≤ n ∧ iv = .int .i64 (k : Nat) ∧ Hid (Below w.heap.size w wr)) (fun iv _ => n - (intOf iv).toNat)
  case atStart => exact ⟨0, Nat.zero_le _, rfl, Below.refl _ _⟩
  case round =>
    obtain ⟨k, hk, rfl, HB⟩ := hrel
    rename World => wr
    by_cases hkn : k < n
    · have hkx : k < xs.length := by have := HN.out; omega
      have hky : k < ys.length := by have := HNY.out; omega
      obtain ⟨b1, o1, rfl, hc1, hc2⟩ := slp_at (HX.out.below HB.out) hkx
      obtain ⟨b2, o2, rfl, hc3, hc4⟩ := slp_at (HY.out.below HB.out) hky
      have hA : SlR wr (gp xs k).2.1 (gp xs k).2.2.2 := by
        have h := HX.out.1 (gp xs k) (by rw [gp_get hkx]; exact List.getElem_mem hkx)
        exact h.below HB.out
      have hA2 : SlR wr (gp ys k).2.1 (gp ys k).2.2.2 := by
        have h := HY.out.1 (gp ys k) (by rw [gp_get hky]; exact List.getElem_mem hky)
        exact h.below HB.out
      have hLA := HL.out k hkn
      obtain ⟨he1, he2⟩ := HE.out k hkn
      generalize gp xs k = x at *
      generalize gp ys k = y at *
      obtain ⟨nm, qx, cx, lx⟩ := x
      obtain ⟨nm2, qy, cy, ly⟩ := y
      simp only at he1 he2 hc1 hc2 hc3 hc4 hA hA2 hLA
      subst he1 he2
      obtain ⟨m, hm⟩ : ∃ m, m = lx.length := ⟨_, rfl⟩
      rw [← hm] at hc2 hc4
      have HKN := Lib.hid (fun (W : World) (hW : Below wr.heap.size wr W) => sameProp_any nm qx qy cx cy m lx W hm (hA.below hW) (hA2.below hW) hLA)
      have hkI : (k : Int) < n := by omega
      have HKL := Lib.hid hkn
      clear hkn hA hA2 hLA hkx hky hm
      go_wp2
      go_region_held3 (fun W => W.cell? ⟨b1, o1 + k * 2, none⟩ = some (.string nm) ∧ W.cell? ⟨b1, o1 + k * 2 + 1, none⟩ = some (.slice qx m cx) ∧ W.cell? ⟨b2, o2 + k * 2, none⟩ = some (.string nm) ∧ W.cell? ⟨b2, o2 + k * 2 + 1, none⟩ = some (.slice qy m cy) ∧ Hid (Below wr.heap.size wr W)) (first | exact ⟨hc1, hc2, hc3, hc4, bl_drew _⟩ | exact ⟨by assumption, by assumption, by assumption, by assumption, by assumption⟩) (first | (go_at_call 89; (with_reducible refine (HKN.out _ (bl_drew _)).mono ?_); rintro e w6 ⟨rfl, hb6⟩; have hq1 : World.cell? w6 ⟨b1, o1 + k * 2, none⟩ = some (.string nm) := keep_cell hb6 (by assumption); have hq2 : World.cell? w6 ⟨b1, o1 + k * 2 + 1, none⟩ = some (.slice qx m cx) := keep_cell hb6 (by assumption); have hq3 : World.cell? w6 ⟨b2, o2 + k * 2, none⟩ = some (.string nm) := keep_cell hb6 (by assumption); have hq4 : World.cell? w6 ⟨b2, o2 + k * 2 + 1, none⟩ = some (.slice qy m cy) := keep_cell hb6 (by assumption); have hq5 : Hid (Below wr.heap.size wr w6) := bl_trans (bl_drew _) hb6; clear hb6))
      go_wp2
      go_roundw
      case rel => exact ⟨k + 1, by have := HKL.out; omega, by go_num, bl_trans HB.out hq5.out⟩
      case measure => have := HKL.out; simp [intOf]; omega
    · have hkI : (n : Int) ≤ k := by omega
      go_wp2
      go_ret
      exact ⟨rfl, HB.out⟩

set_option maxHeartbeats 1600000 in
set_option maxRecDepth 100000 in
theorem sameTables_any (pf qf pp qp : Option Addr) (cf df cp dp nf np : Nat) (F : List R) (xs ys : List PV) (w : World) (hnf : nf = F.length) (hf : SlR w pf F) (hg : SlR w qf F) (hfl : F.length ≤ 4611686018427387904) (hn : np = xs.length) (hny : np = ys.length) (hx : SlP w pp xs) (hy : SlP w qp ys) (hnm : np ≤ 3000) (hl : ∀ i, i < np → (gp xs i).2.2.2.length ≤ 3000) (he : ∀ i, i < np → (gp xs i).1 = (gp ys i).1 ∧ (gp xs i).2.2.2 = (gp ys i).2.2.2) :
    Calls Tryz.prog 57 #[.agg #[.slice pf nf cf, .slice pp np cp], .agg #[.slice qf nf df, .slice qp np dp]] w fun e w' => e = .returned (.bool true) ∧ Below w.heap.size w w' := by
  obtain ⟨w0, hw0⟩ : ∃ w0, w0 = (w.alloc (.cells #[.slice pf nf cf, .slice pp np cp] 30)).alloc (.cells #[.slice qf nf df, .slice qp np dp] 30) := ⟨_, rfl⟩
  have hB0 : Below w.heap.size w w0 := by subst hw0; exact ((Below.refl _ _).alloc (Nat.le_refl _) _).alloc (by simp) _
  have hX0 : w0.heap[w.heap.size]? = some (.cells #[.slice pf nf cf, .slice pp np cp] 30 (0, 0)) := by
    subst hw0
    rw [Below.heap_alloc _ _ _ (by simp)]; exact heap_alloc_new w _
  have hR0 : w0.heap[w.heap.size + 1]? = some (.cells #[.slice qf nf df, .slice qp np dp] 30 (0, 0)) := by
    have h := heap_alloc_new (w.alloc (.cells #[.slice pf nf cf, .slice pp np cp] 30)) (.cells #[.slice qf nf df, .slice qp np dp] 30)
    subst hw0
    simpa using h
  obtain ⟨hc0, hc1, _, _⟩ := ptwo_cells hX0
  obtain ⟨hd0, hd1, _, _⟩ := ptwo_cells hR0
  have hsame := sameF_any pf qf cf df F F w0 (hf.below hB0) (hg.below hB0) hfl hfl
  rw [show decide (F = F) = true by simp, ← hnf] at hsame
  have HSAME := Lib.hid hsame
  have HK := Lib.hid (fun W (hW : Below w0.heap.size w0 W) => sameProps_any pp qp cp dp np xs ys W hn hny ((hx.below hB0).below hW) ((hy.below hB0).below hW) hnm hl he)
  have HB0 := Lib.hid hB0
  have HW0 := Lib.hid hw0
  clear hB0 hX0 hR0 hw0 hf hg hfl hn hny hx hy hnm hl he hnf hsame
  go_enter Tryz.func57, Tryz.ntmps57
  go_wp2_with fail
  rw [← HW0.out]
  refine HSAME.out.mono ?_
  rintro e w1 ⟨rfl, s, rfl⟩
  have HK1 := Lib.hid (HK.out _ (drewN_below w0 s))
  have HB1 := Lib.hid (HB0.out.trans ((drewN_below w0 s).mono HB0.out.size))
  clear HK HSAME
  go_wp2_with fail
  refine HK1.out.mono ?_
  rintro e w2 ⟨rfl, hb2⟩
  have HB2 := Lib.hid (HB1.out.trans (hb2.mono HB1.out.size))
  go_wp2
  go_ret
  exact ⟨rfl, HB2.out⟩
end Go.Proofs.YtglgfpapackcdaaGreat


namespace Go.Proofs.YtglgfpapackcdaaGreat
open Go.RowKit Tnr

structure LTab (w : World) (B g cap nf g2 cap2 np : Nat) (F : List R) (xs ys : List PV) : Prop where
  f1 : nf + 12 ≤ cap
  f2 : cap ≤ 9223372036854775807
  fo : OwnF w B (.slice (some ⟨g, 0, none⟩) (nf + 12) cap) (F ++ marksR 12)
  pr : LPs w B np g2 cap2 xs ys
theorem LTab.below {w w' : World} {B g cap nf g2 cap2 np : Nat} {F : List R} {xs ys : List PV} (h : LTab w B g cap nf g2 cap2 np F xs ys) (hb : Below w.heap.size w w') : LTab w' B g cap nf g2 cap2 np F xs ys := ⟨h.f1, h.f2, ownF_below h.fo hb, h.pr.below hb⟩
theorem LentP.other {w w' : World} {B b : Nat} {x y : PV} {c : Array Value} (h : LentP w B x y) (hb : w.heap[b]? = some (.cells c 30 (0, 0))) (a : Addr) (ha : a.block = b) (u : Value) (hw : w' = w.setCell a u) : LentP w' B x y := by
  subst hw ha
  obtain ⟨h0, h1, g, h2, h3, h4, h5⟩ := h
  exact ⟨h0, h1, g, h2, h3, h4, ownsRow_setCell_other (a := a) h5 (ownR_ne h5 hb (by decide)) u⟩
theorem ownP_ne {w : World} {B : Nat} {v : Value} {l : List PV} (h : OwnP w B v l) {nb : Nat} {c : Array Value} {T : TypeId} {fz : Nat × Nat} (hv : w.heap[nb]? = some (.cells c T fz)) (hT : T ≠ 37) : v.ownBlock ≠ some nb := by
  intro hg
  rcases h.2 with ⟨rfl, _⟩ | ⟨g, cap, cur, rfl, _, hh, _⟩
  · simp [Value.ownBlock] at hg
  · simp only [Value.ownBlock, Option.some.injEq] at hg
    subst hg
    rw [hh] at hv
    simp only [Option.some.injEq, Obj.cells.injEq] at hv
    exact hT hv.2.1.symm
theorem LTab.other {w : World} {B g cap nf g2 cap2 np b : Nat} {F : List R} {xs ys : List PV} {c : Array Value} (h : LTab w B g cap nf g2 cap2 np F xs ys) (hb : w.heap[b]? = some (.cells c 30 (0, 0))) (a : Addr) (ha : a.block = b) (u : Value) : LTab (w.setCell a u) B g cap nf g2 cap2 np F xs ys := by
  subst ha
  refine ⟨h.f1, h.f2, ownsRow_setCell_other (a := a) h.fo (ownF_ne h.fo hb (by decide)) u, h.pr.1, h.pr.2.1, h.pr.2.2.1, ownsRow_setCell_other (a := a) h.pr.2.2.2.1 (ownP_ne h.pr.2.2.2.1 hb (by decide)) u, fun i hi => (h.pr.2.2.2.2 i hi).other hb a rfl u rfl⟩
theorem LTab.down {w : World} {B B' g cap nf g2 cap2 np : Nat} {F : List R} {xs ys : List PV} (h : LTab w B g cap nf g2 cap2 np F xs ys) (hB : B' ≤ B) : LTab w B' g cap nf g2 cap2 np F xs ys := by
  refine ⟨h.f1, h.f2, ownF_down h.fo hB, h.pr.1, h.pr.2.1, h.pr.2.2.1, ownP_down h.pr.2.2.2.1 hB, fun i hi => ?_⟩
  obtain ⟨h0, h1, g, h2, h3, h4, h5⟩ := h.pr.2.2.2.2 i hi
  exact ⟨h0, h1, g, h2, h3, h4, ownR_down h5 hB⟩
def LentTPost (nf np : Nat) (F : List R) (xs : List PV) (w : World) (e : Ending) (w' : World) : Prop :=
  ∃ g cap g2 cap2 ys, e = .returned (.agg #[.slice (some ⟨g, 0, none⟩) nf cap, .slice (some ⟨g2, 0, none⟩) np cap2]) ∧ LTab w' w.heap.size g cap nf g2 cap2 np F xs ys ∧ Below w.heap.size w w'

set_option maxHeartbeats 3200000 in
set_option maxRecDepth 100000 in
theorem lentTables_any (pf pp : Option Addr) (cf cp nf np : Nat) (F : List R) (xs : List PV) (w : World) (hnf : nf = F.length) (hf : SlR w pf F) (hfl : F.length ≤ 5000000000000) (hfn : pf = none → cf = 0) (hn : np = xs.length) (hx : SlP w pp xs) (hnm : np ≤ 3000) (hl : ∀ i, i < np → (gp xs i).2.2.2.length ≤ 3000) (hnil : ∀ i, i < np → (gp xs i).2.1 = none → (gp xs i).2.2.1 = 0) :
    Calls Tryz.prog 12 #[.agg #[.slice pf nf cf, .slice pp np cp]] w (LentTPost nf np F xs w) := by
  obtain ⟨w0, hw0⟩ : ∃ w0, w0 = (w.alloc (.cells #[.slice pf nf cf, .slice pp np cp] 30)).alloc (.cells #[.slice none 0 0, .slice none 0 0] 30) := ⟨_, rfl⟩
  have hB0 : Below w.heap.size w w0 := by subst hw0; exact ((Below.refl _ _).alloc (Nat.le_refl _) _).alloc (by simp) _
  have hX0 : w0.heap[w.heap.size]? = some (.cells #[.slice pf nf cf, .slice pp np cp] 30 (0, 0)) := by
    subst hw0
    rw [Below.heap_alloc _ _ _ (by simp)]; exact heap_alloc_new w _
  have hR0 : w0.heap[w.heap.size + 1]? = some (.cells #[.slice none 0 0, .slice none 0 0] 30 (0, 0)) := by
    have h := heap_alloc_new (w.alloc (.cells #[.slice pf nf cf, .slice pp np cp] 30)) (.cells #[.slice none 0 0, .slice none 0 0] 30)
    subst hw0
    simpa using h
  have hs0 : w0.heap.size = w.heap.size + 2 := by subst hw0; simp
  obtain ⟨hc0, hc1, _, _⟩ := ptwo_cells hX0
  have HLL := Lib.hid (lentF_any pf cf nf F w0 hnf (hf.below hB0) hfl hfn)
  have HLP := Lib.hid (fun (W : World) (hW : Below w.heap.size w W) => lentProps_any pp cp np xs W hn (hx.below hW) hnm hl hnil)
  have HB0 := Lib.hid hB0
  have HX0 := Lib.hid hX0
  have HR0 := Lib.hid hR0
  have HS0 := Lib.hid hs0
  have HW0 := Lib.hid hw0
  clear hB0 hX0 hR0 hs0 hw0 hf hfl hfn hx hnm hl hnil hn hnf
  go_enter Tryz.func12, Tryz.ntmps12
  go_wp2_with fail
  rw [← HW0.out]
  refine HLL.out.mono ?_
  rintro e w1 ⟨g, cap, rfl, h1, h2, h3, hb1⟩
  have hX1 : w1.heap[w.heap.size]? = some (.cells #[.slice pf nf cf, .slice pp np cp] 30 (0, 0)) := by rw [hb1.block _ (by rw [HS0.out]; omega)]; exact HX0.out
  have hR1 : w1.heap[w.heap.size + 1]? = some (.cells #[.slice none 0 0, .slice none 0 0] 30 (0, 0)) := by rw [hb1.block _ (by rw [HS0.out]; omega)]; exact HR0.out
  obtain ⟨ha0, ha1, hf0, hf1⟩ := ptwo_cells hX1
  have hX2 := ptwo_set0 hX1 (.slice (some ⟨g, 0, none⟩) nf cap)
  have hR2 : (w1.setCell ⟨w.heap.size, 0, none⟩ (.slice (some ⟨g, 0, none⟩) nf cap)).heap[w.heap.size + 1]? = some (.cells #[.slice none 0 0, .slice none 0 0] 30 (0, 0)) := by
    rw [Below.heap_setCell _ _ _ _ (by simp)]; exact hR1
  have hO2 : OwnF (w1.setCell ⟨w.heap.size, 0, none⟩ (.slice (some ⟨g, 0, none⟩) nf cap)) w0.heap.size (.slice (some ⟨g, 0, none⟩) (nf + 12) cap) (F ++ marksR 12) := ownsRow_setCell_other (a := ⟨w.heap.size, 0, none⟩) h3 (ownF_ne h3 hX1 (by decide)) (.slice (some ⟨g, 0, none⟩) nf cap)
  have hB2 := (HB0.out.trans (hb1.mono HB0.out.size)).setCell (p := ⟨w.heap.size, 0, none⟩) (Nat.le_refl _) (.slice (some ⟨g, 0, none⟩) nf cap)
  have hsz2 : w.heap.size + 2 ≤ (w1.setCell ⟨w.heap.size, 0, none⟩ (.slice (some ⟨g, 0, none⟩) nf cap)).heap.size := by
    have := hb1.size
    have h0 := HS0.out
    rw [World.size_setCell]; omega
  obtain ⟨w2, hw2⟩ : ∃ w2, w2 = w1.setCell ⟨w.heap.size, 0, none⟩ (.slice (some ⟨g, 0, none⟩) nf cap) := ⟨_, rfl⟩
  rw [← hw2] at hX2 hR2 hO2 hB2 hsz2
  obtain ⟨hd0, hd1, hg0, hg1⟩ := ptwo_cells hX2
  have HLP2 := Lib.hid (HLP.out w2 hB2)
  have HW2 := Lib.hid hw2
  have HX2 := Lib.hid hX2
  have HR2 := Lib.hid hR2
  have HO2 := Lib.hid hO2
  have HB2 := Lib.hid hB2
  have HS2 := Lib.hid hsz2
  have H1 := Lib.hid h1
  have H2 := Lib.hid h2
  clear hw2 hX2 hR2 hO2 hB2 hsz2 h1 h2 h3 hX1 hR1 hb1 HLP HLL hc0 hc1
  go_wp2_with (first | rw [← HW2.out] | fail)
  refine HLP2.out.mono ?_
  rintro e w3 ⟨g2, cap2, ys, rfl, hps, hb3⟩
  have hX3 : w3.heap[w.heap.size]? = some (.cells #[.slice (some ⟨g, 0, none⟩) nf cap, .slice pp np cp] 30 (0, 0)) := by rw [hb3.block _ (by have := HS2.out; omega)]; exact HX2.out
  have hR3 : w3.heap[w.heap.size + 1]? = some (.cells #[.slice none 0 0, .slice none 0 0] 30 (0, 0)) := by rw [hb3.block _ (by have := HS2.out; omega)]; exact HR2.out
  have hT3 : LTab w3 w.heap.size g cap nf g2 cap2 np F xs ys := ⟨H1.out, H2.out, ownF_down (ownF_below HO2.out hb3) HB0.out.size, (LTab.down (nf := nf) (g := g) (cap := cap) (F := F) ⟨H1.out, H2.out, ownF_down (ownF_below HO2.out hb3) HB0.out.size, ⟨hps.1, hps.2.1, hps.2.2.1, ownP_down hps.2.2.2.1 HB2.out.size, fun i hi => by
    obtain ⟨k0, k1, g', k2, k3, k4, k5⟩ := hps.2.2.2.2 i hi
    exact ⟨k0, k1, g', k2, k3, k4, ownR_down k5 HB2.out.size⟩⟩⟩ (Nat.le_refl _)).pr⟩
  have hT4 := hT3.other hX3 ⟨w.heap.size, 1, none⟩ rfl (.slice (some ⟨g2, 0, none⟩) np cap2)
  have hX4 := ptwo_set1 hX3 (.slice (some ⟨g2, 0, none⟩) np cap2)
  have hR4 : (w3.setCell ⟨w.heap.size, 1, none⟩ (.slice (some ⟨g2, 0, none⟩) np cap2)).heap[w.heap.size + 1]? = some (.cells #[.slice none 0 0, .slice none 0 0] 30 (0, 0)) := by
    rw [Below.heap_setCell _ _ _ _ (by simp)]; exact hR3
  have hT5 := hT4.other hR4 ⟨w.heap.size + 1, 0, none⟩ rfl (.slice (some ⟨g, 0, none⟩) nf cap)
  have hR5 := ptwo_set0 hR4 (.slice (some ⟨g, 0, none⟩) nf cap)
  have hT6 := hT5.other hR5 ⟨w.heap.size + 1, 1, none⟩ rfl (.slice (some ⟨g2, 0, none⟩) np cap2)
  have hR6 := ptwo_set1 hR5 (.slice (some ⟨g2, 0, none⟩) np cap2)
  have hB6 := (((HB2.out.trans (hb3.mono HB2.out.size)).setCell (p := ⟨w.heap.size, 1, none⟩) (Nat.le_refl _) (.slice (some ⟨g2, 0, none⟩) np cap2)).setCell (p := ⟨w.heap.size + 1, 0, none⟩) (Nat.le_succ _) (.slice (some ⟨g, 0, none⟩) nf cap)).setCell (p := ⟨w.heap.size + 1, 1, none⟩) (Nat.le_succ _) (.slice (some ⟨g2, 0, none⟩) np cap2)
  obtain ⟨hx30, hx31, hy30, hy31⟩ := ptwo_cells hX3
  obtain ⟨hx40, hx41, _, _⟩ := ptwo_cells hX4
  obtain ⟨hr40, hr41, hu40, hu41⟩ := ptwo_cells hR4
  obtain ⟨hr50, hr51, hu50, hu51⟩ := ptwo_cells hR5
  obtain ⟨hr60, hr61, _, _⟩ := ptwo_cells hR6
  have HT6 := Lib.hid hT6
  have HB6 := Lib.hid hB6
  clear hT3 hT4 hT5 hT6 hB6 hX3 hX4 hR3 hR4 hR5 hR6 hps hb3 HLP2 HX0 HR0
  go_wp2
  refine bodyPost_ret (v := .agg #[.slice (some ⟨g, 0, none⟩) nf cap, .slice (some ⟨g2, 0, none⟩) np cap2]) (by simp [results, Tryz.results12, go_sem, hr60, hr61]) rfl ?_
  exact ⟨g, cap, g2, cap2, ys, rfl, HT6.out, HB6.out⟩

theorem LPs.slp {w : World} {B n g cap : Nat} {xs ys : List PV} (h : LPs w B n g cap xs ys) (hn : n = xs.length) : SlP w (some ⟨g, 0, none⟩) ys ∧ (∀ i, i < n → (gp ys i).1 = (gp xs i).1 ∧ (gp ys i).2.2.2 = (gp xs i).2.2.2) := by
  obtain ⟨h1, h2, h3, h4, h5⟩ := h
  refine ⟨⟨fun y hy => ?_, ?_⟩, fun i hi => ⟨(h5 i hi).1, (h5 i hi).2.1⟩⟩
  · obtain ⟨i, hi, rfl⟩ := List.mem_iff_getElem.1 hy
    obtain ⟨k0, k1, g', k2, _, _, k5⟩ := h5 i (by omega)
    rw [gp_get hi] at k1 k2
    rw [k2, k1]
    exact lentR_sl k5
  · by_cases h0 : ys = []
    · exact .inl h0
    · refine .inr ⟨g, 0, rfl, fun i hi => ?_⟩
      have := ownP_cellN h4 (by rw [List.length_append, marksP_length, ← h1]) i (by omega)
      rw [gp_front hi] at this
      rw [Nat.zero_add]; exact this

set_option maxHeartbeats 3200000 in
set_option maxRecDepth 100000 in
theorem keptTables_any (pf pp : Option Addr) (cf cp B g cap nf g2 cap2 np : Nat) (F : List R) (xs ys : List PV) (w : World) (hnf : nf = F.length) (hf : SlR w pf F) (hfl : F.length ≤ 5000000000000) (hn : np = xs.length) (hx : SlP w pp xs) (hnm : np ≤ 3000) (hl : ∀ i, i < np → (gp xs i).2.2.2.length ≤ 3000) (ht : LTab w B g cap nf g2 cap2 np F xs ys) :
    Calls Tryz.prog 22 #[.agg #[.slice (some ⟨g, 0, none⟩) nf cap, .slice (some ⟨g2, 0, none⟩) np cap2], .agg #[.slice pf nf cf, .slice pp np cp]] w fun e w' => e = .returned (.bool true) ∧ Below w.heap.size w w' := by
  obtain ⟨w0, hw0⟩ : ∃ w0, w0 = (w.alloc (.cells #[.slice (some ⟨g, 0, none⟩) nf cap, .slice (some ⟨g2, 0, none⟩) np cap2] 30)).alloc (.cells #[.slice pf nf cf, .slice pp np cp] 30) := ⟨_, rfl⟩
  have hB0 : Below w.heap.size w w0 := by subst hw0; exact ((Below.refl _ _).alloc (Nat.le_refl _) _).alloc (by simp) _
  have hX0 : w0.heap[w.heap.size]? = some (.cells #[.slice (some ⟨g, 0, none⟩) nf cap, .slice (some ⟨g2, 0, none⟩) np cap2] 30 (0, 0)) := by
    subst hw0
    rw [Below.heap_alloc _ _ _ (by simp)]; exact heap_alloc_new w _
  have hR0 : w0.heap[w.heap.size + 1]? = some (.cells #[.slice pf nf cf, .slice pp np cp] 30 (0, 0)) := by
    have h := heap_alloc_new (w.alloc (.cells #[.slice (some ⟨g, 0, none⟩) nf cap, .slice (some ⟨g2, 0, none⟩) np cap2] 30)) (.cells #[.slice pf nf cf, .slice pp np cp] 30)
    subst hw0
    simpa using h
  have hs0 : w0.heap.size = w.heap.size + 2 := by subst hw0; simp
  obtain ⟨hc0, hc1, _, _⟩ := ptwo_cells hX0
  obtain ⟨hd0, hd1, _, _⟩ := ptwo_cells hR0
  have ht0 := ht.below hB0
  obtain ⟨hsl, heq⟩ := ht0.pr.slp hn
  have HSAME := Lib.hid (sameTables_any (some ⟨g, 0, none⟩) pf (some ⟨g2, 0, none⟩) pp cap cf cap2 cp nf np F ys xs w0 hnf (by obtain ⟨k1, _⟩ := ownF_form ht0.fo; exact lentF_sl ht0.fo) (hf.below hB0) (by omega) ht0.pr.1 hn hsl (hx.below hB0) hnm (fun i hi => by rw [(heq i hi).2]; exact hl i hi) heq)
  have HKF := Lib.hid (fun W (hW : Below w0.heap.size w0 W) => keptF_any pf cf nf F B g cap W hnf ((hf.below hB0).below hW) hfl (ownF_below ht0.fo hW) ht0.f1 ht0.f2)
  have HKP := Lib.hid (fun W (hW : Below w0.heap.size w0 W) => keptProps_any pp cp np B g2 cap2 xs ys W hn ((hx.below hB0).below hW) hnm hl (ht0.pr.below hW))
  have HB0 := Lib.hid hB0
  have HW0 := Lib.hid hw0
  have HS0 := Lib.hid hs0
  have HX0 := Lib.hid hX0
  have HR0 := Lib.hid hR0
  clear hB0 hX0 hR0 hw0 hs0 hf hfl hn hx hnm hl ht ht0 hsl heq hnf
  go_enter Tryz.func22, Tryz.ntmps22
  go_wp2_with fail
  rw [← HW0.out]
  refine HSAME.out.mono ?_
  rintro e w1 ⟨rfl, hb1⟩
  have hX1 := (hb1.block _ (by rw [HS0.out]; omega)).trans HX0.out
  have hR1 := (hb1.block _ (by rw [HS0.out]; omega)).trans HR0.out
  obtain ⟨ha0, ha1, _, _⟩ := ptwo_cells hX1
  obtain ⟨he0, he1, _, _⟩ := ptwo_cells hR1
  have HKF1 := Lib.hid (HKF.out w1 hb1)
  have HB1 := Lib.hid hb1
  clear hb1 hc0 hc1 hd0 hd1 HSAME HKF hX1 hR1
  go_wp2_with fail
  refine HKF1.out.mono ?_
  rintro e w2 ⟨rfl, hb2⟩
  have hb02 := bl_trans HB1.out hb2
  have hX2 := (hb02.block _ (by rw [HS0.out]; omega)).trans HX0.out
  have hR2 := (hb02.block _ (by rw [HS0.out]; omega)).trans HR0.out
  obtain ⟨hi0, hi1, _, _⟩ := ptwo_cells hX2
  obtain ⟨hj0, hj1, _, _⟩ := ptwo_cells hR2
  have HKP2 := Lib.hid (HKP.out w2 hb02)
  have HB2 := Lib.hid (HB0.out.trans (hb02.mono HB0.out.size))
  clear hb2 hb02 ha0 ha1 he0 he1 HKF1 HKP hX2 hR2
  go_wp2_with fail
  refine HKP2.out.mono ?_
  rintro e w3 ⟨rfl, hb3⟩
  have HB3 := Lib.hid (HB2.out.trans (hb3.mono HB2.out.size))
  go_wp2
  go_ret
  exact ⟨rfl, HB3.out⟩
end Go.Proofs.YtglgfpapackcdaaGreat

