/- The program's rows: all that are alike, by their canon, in a map. -/
import Derived.Test.YtglgfpapackcdaaGreatGh
import Derived.Test.YtglgfpapackcdaaGreatGra
import Derived.Test.YtglgfpapackcdaaGreatGe
import Derived.Deep.RegionHeld3
import Derived.Deep.AppendLies

namespace Go.Proofs.YtglgfpapackcdaaGreat
open Go.RowKit Tnr Go.Maps

def g1 (F A : List R) (i : Nat) (c : Int) : List Int := if c ∈ toks (F.take i) A then [c] else []
def g2 (F A : List R) (i : Nat) (c : Int) : List Int := if c ∈ toks F A then c :: ((F.take i).filter fun f => f.2 == c).map (·.1) else []
theorem toks_step' (F A : List R) {i : Nat} (h : i < F.length) : toks (F.take (i + 1)) A = toks (F.take i) A ++ (if hasB A (gr F i).1 || hasB A (gr F i).2 then [(gr F i).2] else []) := by
  unfold toks
  rw [take_gr h, List.filter_append, List.map_append]
  congr 1
  by_cases e : (hasB A (gr F i).1 || hasB A (gr F i).2) = true
  · simp [List.filter, e]
  · simp [List.filter, Bool.not_eq_true _ ▸ e]
theorem g1_zero (F A : List R) (c : Int) : g1 F A 0 c = [] := by simp [g1, toks]
theorem g1_hit (F A : List R) {i : Nat} (h : i < F.length) (ht : (hasB A (gr F i).1 || hasB A (gr F i).2) = true) (c : Int) : g1 F A (i + 1) c = if c = (gr F i).2 then [(gr F i).2] else g1 F A i c := by
  unfold g1
  rw [toks_step' F A h, if_pos ht]
  by_cases e : c = (gr F i).2
  · simp [e]
  · simp [e]
theorem g1_miss (F A : List R) {i : Nat} (h : i < F.length) (ht : (hasB A (gr F i).1 || hasB A (gr F i).2) = false) (c : Int) : g1 F A (i + 1) c = g1 F A i c := by
  unfold g1
  rw [toks_step' F A h, ht]
  simp
theorem g2_zero (F A : List R) (c : Int) : g2 F A 0 c = g1 F A F.length c := by
  simp [g1, g2]
theorem g2_hit (F A : List R) {i : Nat} (h : i < F.length) (ht : (gr F i).2 ∈ toks F A) (c : Int) : g2 F A (i + 1) c = if c = (gr F i).2 then g2 F A i (gr F i).2 ++ [(gr F i).1] else g2 F A i c := by
  unfold g2
  by_cases e : c = (gr F i).2
  · subst e
    simp [ht, take_gr h, List.filter_append, List.filter]
  · have e2 : ((gr F i).2 == c) = false := by simp; exact fun h => e h.symm
    simp [e, take_gr h, List.filter_append, List.filter, e2]
theorem g2_miss (F A : List R) {i : Nat} (h : i < F.length) (ht : (gr F i).2 ∉ toks F A) (c : Int) : g2 F A (i + 1) c = g2 F A i c := by
  unfold g2
  by_cases e : c ∈ toks F A
  · have e2 : ((gr F i).2 == c) = false := by simp; exact fun h => ht (h ▸ e)
    simp [e, take_gr h, List.filter_append, List.filter, e2]
  · simp [e]
theorem g2_ne {F A : List R} {i : Nat} {c : Int} : g2 F A i c ≠ [] ↔ c ∈ toks F A := by
  unfold g2
  by_cases e : c ∈ toks F A <;> simp [e]
theorem g2_mem (F A : List R) (x c : Int) : x ∈ g2 F A F.length c ↔ c ∈ toks F A ∧ (x = c ∨ ∃ f ∈ F, f.2 = c ∧ f.1 = x) := by
  unfold g2
  rw [List.take_length]
  by_cases e : c ∈ toks F A
  · simp only [e, if_true, true_and, List.mem_cons, List.mem_map, List.mem_filter, beq_iff_eq]
    constructor
    · rintro (h | ⟨f, ⟨h1, h2⟩, h3⟩)
      · exact .inl h
      · exact .inr ⟨f, h1, h2, h3⟩
    · rintro (h | ⟨f, h1, h2, h3⟩)
      · exact .inl h
      · exact .inr ⟨f, ⟨h1, h2⟩, h3⟩
  · simp [e]
theorem has_pt {A : List R} {z : Int} (h : PtI z) : hasB A z = decide (Cov A z) := by
  unfold hasB
  exact decide_eq_decide.2 ⟨fun h => h.2.2, fun h2 => ⟨h.1, h.2, h2⟩⟩
theorem wf_pt {z : Int} (h : PtI z) : (Lit.int .i64 z).wf = true := WalkArith.wf_i64 (by have := h.1; have := h.2; omega)
theorem klaw : Keyed Tryz.prog 3 := int_keyed Tryz.underlying3
theorem zero_ints (w : World) : (zeroValue 22).run Tryz.prog w = .ok (.slice none 0 0) w := by kernel_rfl
theorem one_row {w : World} {base : Nat} {y : Int} (hb : base ≤ w.heap.size) (hy : (Lit.int .i64 y).wf = true) : (w.alloc (.cells #[.int .i64 y] 3)).ownsInts base 3 .i64 (.slice (some ⟨w.heap.size, 0, none⟩) 1 1) [y] :=
  ⟨⟨rfl, .inr ⟨w.heap.size, 1, #[.int .i64 y], rfl, hb, heap_alloc_new w _, Nat.le_refl _, by simp only [maxLen]; omega, rfl, rfl⟩⟩, by simpa using hy⟩
theorem keep_cellB {W w6 : World} {a : Addr} {v : Value} (hb : Below W.heap.size W w6) (h : W.cell? a = some v) : w6.cell? a = some v := by rw [hb.cell (World.block_lt_of_cell? W _ h)]; exact h
abbrev Grp (w : World) (B b n : Nat) (D : DataW Unit) : Prop := w.ownsGroups Tryz.prog 3 B 3 .i64 b n D
theorem grp_below {w w' : World} {B b n : Nat} {D : DataW Unit} (h : Grp w B b n D) (hb : Below w.heap.size w w') : Grp w' B b n D := h.keptNew (grown_of_below hb)

theorem size_step {w : World} {B b n : Nat} {D : DataW Unit} (h : Grp w B b n D) {m : Nat} (hs : Maps.size D ≤ m) (y : Int) {d : DataW Unit} : Maps.size (D.put (.int .i64 y) d) ≤ m + 1 := by
  rw [Maps.size_put (h.map.tidy klaw)]
  split <;> omega
theorem size_same {w : World} {B b n : Nat} {D : DataW Unit} (h : Grp w B b n D) {m : Nat} {y : Int} (hh : Maps.has D (.int .i64 y) = true) (hs : Maps.size D ≤ m) {d : DataW Unit} : Maps.size (D.put (.int .i64 y) d) ≤ m := by
  rw [Maps.size_put (h.map.tidy klaw), if_pos hh]
  exact hs
theorem own_other {w : World} {base : Nat} {v : Value} {zs : List Int} {fb : Nat} {cs : Array Value} {T : TypeId} {fr : Nat × Nat} (h : w.ownsInts base 3 .i64 v zs) (hf : w.heap[fb]? = some (.cells cs T fr)) (hT : T ≠ 3) : v.ownBlock ≠ some fb := by
  intro e
  rcases h.1.2 with ⟨rfl, _⟩ | ⟨g, cap, cur, rfl, _, hh, _⟩
  · cases e
  · simp only [Value.ownBlock, Option.some.injEq] at e
    subst e
    rw [hh] at hf
    simp only [Option.some.injEq, Obj.cells.injEq] at hf
    exact hT hf.2.1.symm
theorem grown_drew (w : World) (r : Option Nat) : Hid (w.grownBy w.drew r) := ⟨rfl, rfl, rfl, Nat.le_refl _, fun _ _ _ => rfl⟩
theorem cell_grown {w w' : World} {r : Option Nat} {a : Addr} {v : Value} (hg : w.grownBy w' r) (hne : r ≠ some a.block) (h : w.cell? a = some v) : w'.cell? a = some v := by
  have hb := hg.block a.block (World.block_lt_of_cell? w _ h) (fun e => hne e.symm)
  rw [← h]
  simp only [World.cell?, hb]
theorem grown_cat {w w' w2 : World} {r : Option Nat} (h : w.grownBy w' r) (h2 : w'.grownBy w2 r) : w.grownBy w2 r :=
  ⟨h2.os.trans h.os, h2.tape.trans h.tape, h2.output.trans h.output, Nat.le_trans h.size h2.size, fun k hk hr => (h2.block k (Nat.lt_of_lt_of_le hk h.size) hr).trans (h.block k hk hr)⟩
abbrev Held (fb : Nat) (x y : Int) (W : World) : Prop := W.cell? ⟨fb, 0, none⟩ = some (.int .i64 x) ∧ W.cell? ⟨fb, 1, none⟩ = some (.int .i64 y)
theorem held_grown {W W' : World} {fb : Nat} {x y : Int} {r : Option Nat} (h : Held fb x y W) (hne : Hid (r ≠ some fb)) (hg : W.grownBy W' r) : Held fb x y W' :=
  ⟨cell_grown hg hne.out h.1, cell_grown hg hne.out h.2⟩
theorem held_drew {W : World} {fb : Nat} {x y : Int} (h : Held fb x y W) : Held fb x y W.drew := ⟨h.1, h.2⟩
theorem held_alloc {W : World} {fb : Nat} {x y : Int} (h : Held fb x y W) (o : Obj) : Held fb x y (W.alloc o) := by
  have hb := bl_alloc W o
  exact ⟨keep_cellB hb h.1, keep_cellB hb h.2⟩
theorem grown_one (w : World) (o : Obj) (r : Option Nat) : w.grownBy (w.alloc o).drew r := grown_cat (World.grownBy_alloc w o r) (grown_drew _ r).out
set_option maxHeartbeats 6400000 in
set_option maxRecDepth 100000 in
theorem rows_any (pf pp q : Option Addr) (cf cp c n m k : Nat) (F A : List R) (w : World) (hn : n = F.length) (hp : SlR w pf F) (hk : k = A.length) (hq : SlR w q A) (hA : Rt A) (hkl : k ≤ 10000000000000) (hF : F.length ≤ 1200000) (hr : ∀ i, i < F.length → PtI (gr F i).1 ∧ PtI (gr F i).2) :
    Calls Tryz.prog 48 #[.agg #[.slice pf n cf, .slice pp m cp], .slice q k c] w fun e w' => ∃ (b base nn : Nat) (D : DataW Unit), e = .returned (.map (some b)) ∧ Grp w' base b nn D ∧ nn ≤ 2400000 ∧ Maps.size D ≤ 1200000 ∧ DG D (g2 F A F.length) ∧ w.heap.size ≤ b ∧ Below w.heap.size w w' := by
  obtain ⟨i0, hinf, hz0, hz1, hz2⟩ := info_parts info_int
  have hmm := @run_makeMap Tryz.prog
  have hbx := BoxT.new w pf n cf pp m cp
  have hb1 : Below w.heap.size w (w.alloc (.cells #[.slice pf n cf, .slice pp m cp] 69)) := bl_alloc _ _
  have HBX := Lib.hid hbx
  have HP := Lib.hid (hp.below hb1)
  have HQ := Lib.hid (hq.below hb1)
  have HB1 := Lib.hid hb1
  have HN := Lib.hid hn
  have HK := Lib.hid hk
  have HRT := Lib.hid hA
  have HFL := Lib.hid hF
  have HPT := Lib.hid hr
  have HKL := Lib.hid hkl
  have hnI : (n : Int) ≤ 1200000 := by omega
  clear hn hp hk hq hA hkl hF hr hbx hb1
  go_enter Tryz.func48, Tryz.ntmps48
  obtain ⟨w1, hw1⟩ : ∃ W, W = w.alloc (.cells #[.slice pf n cf, .slice pp m cp] 69) := ⟨_, rfl⟩
  rw [← hw1] at HBX HP HQ HB1
  have hc0 : (w1.alloc (.map #[] 0)).cell? ⟨w.heap.size, 0, none⟩ = some (.slice pf n cf) := (HBX.out.below (bl_alloc _ _)).c0
  have hsz : (w1.alloc (.map #[] 0)).heap.size = w1.heap.size + 1 := by simp
  have hs1 : w1.heap.size = w.heap.size + 1 := by rw [hw1]; simp
  have hown0 := World.ownsGroups_made (H := Unit) w1 Tryz.prog 3 3 .i64
  go_wp2
  rw [← hw1]
  rw [hs1] at hsz hown0
  generalize hB : w.heap.size + 1 = B at hs1 hsz hown0 ⊢
  have HBW : Hid (Below w1.heap.size w1 (w1.alloc (.map #[] 0))) := bl_alloc _ _
  have HC0 : Hid (w1.cell? ⟨w.heap.size, 0, none⟩ = some (.slice pf n cf)) := HBX.out.c0
  generalize w1.alloc (.map #[] 0) = W1 at *
  have HS1 : Hid (B + 1 ≤ W1.heap.size) := Nat.le_of_eq hsz.symm
  have HOWN0 := Lib.hid hown0
  have HBE : Hid (w1.heap.size = B) := hs1
  have HBT : Hid (w.heap.size + 1 = B) := hB
  clear hB hs1 hc0
  generalize hbt : w.heap.size = bt at HBX HC0 ⊢
  clear hown0 hsz
  go_loopw [17] (fun iv wr => ∃ (i : Nat) (D : DataW Unit), i ≤ n ∧ iv = .int .i64 (i : Nat) ∧ Hid (Grp wr (B + 1) B i D) ∧ Hid (DG D (g1 F A i)) ∧ Hid (Maps.size D ≤ i) ∧ Hid (Below w1.heap.size w1 wr) ∧ Hid (B + 1 ≤ wr.heap.size)) (fun iv _ => n - (intOf iv).toNat)
  case atStart => exact ⟨0, .map [], Nat.zero_le _, rfl, HOWN0.out, DG.empty.same (g1_zero F A), Nat.zero_le _, HBW.out, HS1.out⟩
  case round =>
    obtain ⟨i, D, hi, rfl, HG, HD, HSZ, HB, HWS⟩ := hrel
    rename World => wr
    by_cases hin : i < n
    · have hiI : (i : Int) < n := by omega
      have hiF : i < F.length := by have := HN.out; omega
      obtain ⟨bf, of, rfl, hf1, hf2⟩ := slr_at (HP.out.below HB.out) hiF
      have HPX := Lib.hid (HPT.out i hiF)
      have HHIT := Lib.hid (g1_hit F A hiF)
      have HMIS := Lib.hid (g1_miss F A hiF)
      obtain ⟨x, hx⟩ : ∃ x, x = (gr F i).1 := ⟨_, rfl⟩
      obtain ⟨y, hy⟩ : ∃ x, x = (gr F i).2 := ⟨_, rfl⟩
      rw [← hx] at hf1 HPX HHIT HMIS
      rw [← hy] at hf2 HPX HHIT HMIS
      obtain ⟨tx, htx⟩ : ∃ t, t = decide (Cov A x) := ⟨_, rfl⟩
      obtain ⟨ty, hty⟩ : ∃ t, t = decide (Cov A y) := ⟨_, rfl⟩
      have HTB : Hid ((hasB A x || hasB A y) = (tx || ty)) := by
        show _ = _
        rw [has_pt HPX.out.1, has_pt HPX.out.2, htx, hty]
      have HTX := Lib.hid htx
      have HTY := Lib.hid hty
      have HI := Lib.hid hin
      clear hx hy htx hty hiF hin hi
      go_wp2_with fail
      obtain ⟨wf, hwf⟩ : ∃ wf, wf = wr.alloc (.cells #[.int .i64 x, .int .i64 y] 33) := ⟨_, rfl⟩
      have hbf : Below wr.heap.size wr wf := by rw [hwf]; exact bl_alloc _ _
      have hy1 : wf.cell? ⟨wr.heap.size, 1, none⟩ = some (.int .i64 y) := by rw [hwf, World.cell?_alloc_at _ _ _ _ rfl]; rfl
      rw [← hwf]
      have HGf := Lib.hid (grp_below HG.out hbf)
      have HBf := Lib.hid (bl_trans HB.out hbf)
      have HWf : Hid (B + 1 ≤ wf.heap.size) := Nat.le_trans HWS.out hbf.size
      clear hwf hbf hf1 hf2 HG HB HWS
      generalize wr.heap.size = fb at hy1 ⊢
      refine (fhas_any q c k A x wf HK.out (HQ.out.below HBf.out) HRT.out HKL.out).mono ?_
      rintro e w4 ⟨rfl, hb4⟩
      rw [← HTX.out]
      have hy4 := keep_cellB hb4 hy1
      have HG4 := Lib.hid (grp_below HGf.out hb4)
      have HB4 := Lib.hid (bl_trans HBf.out hb4)
      have HW4 : Hid (B + 1 ≤ w4.heap.size) := Nat.le_trans HWf.out hb4.size
      clear hb4 hy1 HGf HBf HWf
      cases tx with
      | true =>
        have HHITN := Lib.hid (HHIT.out (by rw [HTB.out]; rfl))
        have HBK := Lib.hid (HG4.out.backNil (t := 79) (E := 22) klaw Tryz.underlying79 (by have := HI.out; have := hnI; unfold maxLen; omega) (keyOf_int_mk Tryz.underlying3 (wf_pt HPX.out.2)))
        have HSZN := Lib.hid (size_step HG4.out HSZ.out y (d := rowDatum .i64 (.slice (some ⟨0, 0, none⟩) 1 1) [y]))
        have HONE := Lib.hid (one_row (w := w4) (y := y) HW4.out (wf_pt HPX.out.2))
        go_wp2_with (at_mapUpdate; refine wpList_mapUpdate_back _ rfl _ _ _ 79 rfl HBK.out rfl rfl rfl (World.grownBy_alloc _ _ _) HONE.out (by simp) (.inr ⟨_, rfl, Nat.le_refl _⟩) ?_)
        intro w6 hown6 hgrow6
        have HG6 := Lib.hid hown6
        have HB6 := Lib.hid ((HB4.out.alloc HB4.out.size _).grown hgrow6 (by have := HB4.out.size; simp; omega) (fun j hj => by cases hj; exact Nat.le_of_eq HBE.out))
        have HW6 : Hid (B + 1 ≤ w6.heap.size) := Nat.le_trans HW4.out (Nat.le_trans (by simp) hgrow6.size)
        clear hown6 hgrow6
        go_wp2
        go_roundw
        case rel => exact ⟨i + 1, _, by have := HI.out; omega, by go_num, HG6.out, (HD.out.put y (by simp)).same HHITN.out, HSZN.out, HB6.out, HW6.out⟩
        case measure => have := HI.out; simp [intOf]; omega
      | false =>
        go_wp2_with fail
        refine (fhas_any q c k A y w4 HK.out (HQ.out.below HB4.out) HRT.out HKL.out).mono ?_
        rintro e w5 ⟨rfl, hb5⟩
        rw [← HTY.out]
        have hy5 := keep_cellB hb5 hy4
        have HG5 := Lib.hid (grp_below HG4.out hb5)
        have HB5 := Lib.hid (bl_trans HB4.out hb5)
        have HW5 : Hid (B + 1 ≤ w5.heap.size) := Nat.le_trans HW4.out hb5.size
        clear hb5 hy4 HG4 HB4 HW4
        cases ty with
        | true =>
          have HHITN := Lib.hid (HHIT.out (by rw [HTB.out]; rfl))
          have HBK := Lib.hid (HG5.out.backNil (t := 79) (E := 22) klaw Tryz.underlying79 (by have := HI.out; have := hnI; unfold maxLen; omega) (keyOf_int_mk Tryz.underlying3 (wf_pt HPX.out.2)))
          have HSZN := Lib.hid (size_step HG5.out HSZ.out y (d := rowDatum .i64 (.slice (some ⟨0, 0, none⟩) 1 1) [y]))
          have HONE := Lib.hid (one_row (w := w5) (y := y) HW5.out (wf_pt HPX.out.2))
          go_wp2_with (at_mapUpdate; refine wpList_mapUpdate_back _ rfl _ _ _ 79 rfl HBK.out rfl rfl rfl (World.grownBy_alloc _ _ _) HONE.out (by simp) (.inr ⟨_, rfl, Nat.le_refl _⟩) ?_)
          intro w6 hown6 hgrow6
          have HG6 := Lib.hid hown6
          have HB6 := Lib.hid ((HB5.out.alloc HB5.out.size _).grown hgrow6 (by have := HB5.out.size; simp; omega) (fun j hj => by cases hj; exact Nat.le_of_eq HBE.out))
          have HW6 : Hid (B + 1 ≤ w6.heap.size) := Nat.le_trans HW5.out (Nat.le_trans (by simp) hgrow6.size)
          clear hown6 hgrow6
          go_wp2
          go_roundw
          case rel => exact ⟨i + 1, _, by have := HI.out; omega, by go_num, HG6.out, (HD.out.put y (by simp)).same HHITN.out, HSZN.out, HB6.out, HW6.out⟩
          case measure => have := HI.out; simp [intOf]; omega
        | false =>
          have HMISN := Lib.hid (HMIS.out (by rw [HTB.out]; rfl))
          have HGM := Lib.hid (HG5.out.mono (Nat.le_succ i))
          go_wp2
          go_roundw
          case rel => exact ⟨i + 1, D, by have := HI.out; omega, by go_num, HGM.out, HD.out.same HMISN.out, Nat.le_succ_of_le HSZ.out, HB5.out, HW5.out⟩
          case measure => have := HI.out; simp [intOf]; omega
    · have hiI : (n : Int) ≤ i := by omega
      have hin2 : i = n := by omega
      have HD2 : Hid (DG D (g2 F A 0)) := HD.out.same (fun c => by rw [g2_zero, hin2, ← HN.out])
      have hc0r := keep_cellB HB.out HC0.out
      have HG2 : Hid (Grp wr (B + 1) B (n + 0) D) := by
        have h := HG.out
        rw [hin2] at h
        exact h
      have HSZ2 : Hid (Maps.size D ≤ 1200000) := by
        have h1 := HSZ.out
        show _ ≤ _
        omega
      have HB0 := HB
      have HW0 := HWS
      clear HG HD HSZ hi hin hin2 HB HWS
      go_wp2
      generalize decide (i < n) = d18
      go_loopw [42] (fun iv wr => ∃ (i : Nat) (D : DataW Unit), i ≤ n ∧ iv = .int .i64 (i : Nat) ∧ Hid (Grp wr (B + 1) B (n + i) D) ∧ Hid (DG D (g2 F A i)) ∧ Hid (Maps.size D ≤ 1200000) ∧ Hid (Below w1.heap.size w1 wr) ∧ Hid (B + 1 ≤ wr.heap.size)) (fun iv _ => n - (intOf iv).toNat)
      case atStart => exact ⟨0, D, Nat.zero_le _, rfl, HG2.out, HD2.out, HSZ2.out, HB0.out, HW0.out⟩
      case round =>
      clear HG2 HD2 HSZ2 HB0 HW0 hc0r
      obtain ⟨i, D, hi, rfl, HG, HD, HSZ, HB, HWS⟩ := hrel
      rename World => wr
      by_cases hin : i < n
      · have hiI : (i : Int) < n := by omega
        have hiF : i < F.length := by have := HN.out; omega
        obtain ⟨bf, of, rfl, hf1, hf2⟩ := slr_at (HP.out.below HB.out) hiF
        have HPX := Lib.hid (HPT.out i hiF)
        have HHIT := Lib.hid (g2_hit F A hiF)
        have HMIS := Lib.hid (g2_miss F A hiF)
        obtain ⟨x, hx⟩ : ∃ x, x = (gr F i).1 := ⟨_, rfl⟩
        obtain ⟨y, hy⟩ : ∃ x, x = (gr F i).2 := ⟨_, rfl⟩
        rw [← hx] at hf1 HPX HHIT
        rw [← hy] at hf2 HPX HHIT HMIS
        have HI := Lib.hid hin
        have hbf : Below wr.heap.size wr (wr.alloc (.cells #[.int .i64 x, .int .i64 y] 33)) := bl_alloc _ _
        have hx1 : (wr.alloc (.cells #[.int .i64 x, .int .i64 y] 33)).cell? ⟨wr.heap.size, 0, none⟩ = some (.int .i64 x) := by rw [World.cell?_alloc_at _ _ _ _ rfl]; rfl
        have hy1 : (wr.alloc (.cells #[.int .i64 x, .int .i64 y] 33)).cell? ⟨wr.heap.size, 1, none⟩ = some (.int .i64 y) := by rw [World.cell?_alloc_at _ _ _ _ rfl]; rfl
        have HFB := Lib.hid (heap_alloc_new wr (.cells #[.int .i64 x, .int .i64 y] 33))
        have HGf := Lib.hid (grp_below HG.out hbf)
        have HBf := Lib.hid (bl_trans HB.out hbf)
        have HWf : Hid (B + 1 ≤ (wr.alloc (.cells #[.int .i64 x, .int .i64 y] 33)).heap.size) := Nat.le_trans HWS.out hbf.size
        have hkey := keyOf_int_mk (P := Tryz.prog) Tryz.underlying3 (wf_pt HPX.out.2)
        have HWR := HWS
        clear hx hy hiF hin hi hbf HG HB HWS
        by_cases ht : y ∈ toks F A
        · have HHITN := Lib.hid (HHIT.out ht)
          have HNE : Hid (g2 F A i y ≠ []) := g2_ne.2 ht
          have hhas : Maps.has D (.int .i64 y) = true := by
            rw [HD.out.hs]
            simpa using HNE.out
          go_wp2_with (at_lookup; refine wpList_ask_yes _ rfl _ _ 79 rfl 3 22 3 .i64 klaw Tryz.underlying79 (zero_ints _) (B + 1) B (n + i) D rfl HGf.out (by have := HI.out; have := hnI; unfold maxLen; omega) _ _ rfl hkey hhas ?_)
          intro v zs hat hoi hzl hback
          have HZS := Lib.hid (HD.out.row HNE.out hat hoi)
          have HOI := Lib.hid hoi
          have HZL := Lib.hid hzl
          have HBK := Lib.hid hback
          have HBF : Hid (some B ≠ some wr.heap.size) := fun h => by
            have h1 := HWR.out
            cases h
            omega
          have HWX : Hid ((Lit.int .i64 x).wf = true) := wf_pt HPX.out.1
          have HOB : Hid (v.ownBlock ≠ some wr.heap.size) := own_other hoi HFB.out (by decide)
          clear hat hoi hzl hback HFB
          generalize wr.heap.size = fb at *
          generalize wr.alloc (.cells #[.int .i64 x, .int .i64 y] 33) = wf at *
          have hn0 : (n : Int) + i ≤ 2400000 := by have := HI.out; omega
          have hn1 : n + i ≤ 2400000 := by omega
          go_wp2
          have h0 : Held fb x y wf := ⟨hx1, hy1⟩
          go_region_held3 (fun W => W.cell? ⟨fb, 0, none⟩ = some (.int .i64 x) ∧ W.cell? ⟨fb, 1, none⟩ = some (.int .i64 y) ) (first | exact held_drew h0 | exact held_drew (held_alloc h0 _) | exact held_grown (held_drew (held_alloc h0 _)) HOB hgrow5 | exact held_grown (held_grown (held_drew (held_alloc h0 _)) HOB hgrow5) HBF hgrow6) (first | ((refine step_append_lies _ (by rfl) _ _ _ (by rfl) (B + 1) 3 i0 (.int .i64 0) 1 8 Tryz.underlying22 hinf hz0 hz1 hz2 rfl (by decide) v zs.length _ (by rfl) ((HOI.out.1.alloc _).drew) ⟨wf.heap.size, 0, none⟩ 1 1 [.int .i64 x] (by rfl) (by rfl) (cells_one_new _ _ _) (by simp [Value.oneCell']) (by decide) (by have := HZL.out; simp only [maxLen]; omega) (by have := HZL.out; omega) (by have := HWf.out; simp; omega) (wf.heap.size + 1) (by simp) ?_; intro g5 cap5 w5 hown5 hgrow5 hat5 hlt5; obtain ⟨w6, hr6, hg6, hgrow6⟩ := HBK.out w5 (.slice (some ⟨g5, 0, none⟩) (zs.length + 1) cap5) (zs ++ [x]) (grown_cat (grown_one wf _ _) hgrow5) (HOI.out.appended hown5 HWX.out) (by have := HZL.out; simp; omega) (hat5.elim (fun h => .inl h.symm) (fun h => .inr ⟨g5, rfl, by omega⟩)))))
          have HG6 := Lib.hid hg6
          have HD6 : Hid (DG _ (g2 F A (i + 1))) := (HD.out.put y (zs := zs ++ [x]) (by simp)).same (fun c => by rw [HHITN.out c, ← HZS.out])
          have HSZ6 := Lib.hid (size_same HGf.out hhas HSZ.out (d := .slice (ChangeShapes.lits .i64 (zs ++ [x])) []))
          have hb5 : Below w1.heap.size w1 w5 := ((HBf.out.alloc HBf.out.size _).drew).grown hgrow5 (by have := HBf.out.size; simp; omega) (fun k hk => by have := (HOI.out.1.lt k hk).1; have := HBE.out; omega)
          have HB6 := Lib.hid (hb5.grown hgrow6 hb5.size (fun k hk => by cases hk; exact Nat.le_of_eq HBE.out))
          have HW6 : Hid (B + 1 ≤ w6.heap.size) := Nat.le_trans HWf.out (Nat.le_trans (Nat.le_trans (by simp) hgrow5.size) hgrow6.size)
          clear hown5 hgrow5 hat5 hlt5 hr6 hg6 hgrow6 hb5
          go_wp2
          go_roundw
          case rel => exact ⟨i + 1, _, by have := HI.out; omega, by go_num, HG6.out, HD6.out, HSZ6.out, HB6.out, HW6.out⟩
          case measure => have := HI.out; simp [intOf]; omega
        · have HMISN := Lib.hid (HMIS.out ht)
          have hhas : Maps.has D (.int .i64 y) = false := by
            rw [HD.out.hs]
            have : g2 F A i y = [] := by unfold g2; rw [if_neg ht]
            rw [this]; rfl
          have HGM := Lib.hid (HGf.out.mono (Nat.le_succ (n + i)))
          go_wp2_with (at_lookup; refine wpList_ask_no _ rfl _ _ 79 rfl 3 22 3 .i64 klaw Tryz.underlying79 (zero_ints _) (B + 1) B (n + i) D rfl HGf.out _ _ rfl hkey hhas ?_)
          go_wp2
          go_roundw
          case rel => exact ⟨i + 1, D, by have := HI.out; omega, by go_num, HGM.out, HD.out.same HMISN.out, HSZ.out, HBf.out, HWf.out⟩
          case measure => have := HI.out; simp [intOf]; omega
      · have hin2 : i = n := by omega
        have hiI : (n : Int) ≤ i := by omega
        have HDN : Hid (DG D (g2 F A F.length)) := by
          have h := HD.out
          rw [hin2, HN.out] at h
          exact h
        have HBN := Lib.hid (bl_trans HB1.out HB.out)
        go_wp2
        go_ret
        exact ⟨B, B + 1, n + i, D, rfl, HG.out, by have := HN.out; have := HFL.out; omega, HSZ.out, HDN.out, by have := HBT.out; omega, HBN.out⟩
end Go.Proofs.YtglgfpapackcdaaGreat
