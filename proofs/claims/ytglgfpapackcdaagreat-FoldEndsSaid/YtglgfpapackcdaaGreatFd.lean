/- The walks of the kit's putRanges, apart, ApartRanges at rows that lie apart. -/
import Derived.Test.YtglgfpapackcdaaGreatFc
import Derived.Test.YtglgfpapackcdaaGreatFn

namespace Go.Proofs.YtglgfpapackcdaaGreat
open Go.RowKit

structure BagRanges (w : World) (Bb B : Nat) (s : Value) (vs : List Value) : Prop where
  nils : ∀ j, j < 20 → j ≠ 8 → w.cell? ⟨Bb, j, none⟩ = some (.slice none 0 0)
  cell : w.cell? ⟨Bb, 8, none⟩ = some s
  free : w.frozen? ⟨Bb, 8, none⟩ = false
  row : w.ownsRow (Bb + 1) 25 1 s vs.length vs
  base : B ≤ Bb
theorem bag_ltRanges {w : World} {Bb B : Nat} {s : Value} {vs : List Value} (h : BagRanges w Bb B s vs) : Bb < w.heap.size := World.block_lt_of_cell? w _ h.cell
theorem bag_neRanges {w : World} {Bb : Nat} {s : Value} {vs : List Value} {n : Nat} (h : w.ownsRow (Bb + 1) 25 1 s n vs) : s.ownBlock ≠ some Bb := fun e => by have := (h.lt Bb e).1; omega
theorem bag_belowRanges {w w' : World} {Bb B : Nat} {s : Value} {vs : List Value} (h : BagRanges w Bb B s vs) (hb : Below w.heap.size w w') : BagRanges w' Bb B s vs := by
  have hlt := bag_ltRanges h
  have hbb := hb.block Bb hlt
  refine ⟨fun j h1 h2 => ?_, ?_, ?_, ?_, h.base⟩
  · rw [World.cell?_of_block (w := w) (w' := w') (a := ⟨Bb, j, none⟩) hbb]; exact h.nils j h1 h2
  · rw [World.cell?_of_block (w := w) (w' := w') (a := ⟨Bb, 8, none⟩) hbb]; exact h.cell
  · rw [World.frozen?_of_block (w := w) (w' := w') (a := ⟨Bb, 8, none⟩) hbb]; exact h.free
  · obtain ⟨h1, h2⟩ := h.row
    refine ⟨h1, ?_⟩
    rcases h2 with h2 | ⟨g, cap, cur, h3, hg, hh, r⟩
    · exact .inl h2
    · exact .inr ⟨g, cap, cur, h3, hg, by rw [hb.block g (Array.getElem?_eq_some_iff.1 hh).1]; exact hh, r⟩
theorem bag_putRanges {w w' : World} {Bb B : Nat} {s s' x : Value} {vs : List Value} (h : BagRanges w Bb B s vs) (hg : w.grownBy w' s.ownBlock) (ho : w'.ownsRow (Bb + 1) 25 1 s' (vs.length + 1) (vs ++ [x])) :
    BagRanges (w'.setCell ⟨Bb, 8, none⟩ s') Bb B s' (vs ++ [x]) := by
  have hlt := bag_ltRanges h
  have hbb : w'.heap[Bb]? = w.heap[Bb]? := hg.block Bb hlt (fun e => bag_neRanges h.row e.symm)
  have hc : w'.cell? ⟨Bb, 8, none⟩ = some s := by rw [World.cell?_of_block (w := w) (w' := w') (a := ⟨Bb, 8, none⟩) hbb]; exact h.cell
  refine ⟨fun j h1 h2 => ?_, ?_, ?_, ?_, h.base⟩
  · rw [World.cell?_setCell_other (w := w') (a := ⟨Bb, 8, none⟩) (b := ⟨Bb, j, none⟩) (v := s') (h := by intro e; simp only [Addr.mk.injEq, true_and, and_true] at e; omega), World.cell?_of_block (w := w) (w' := w') (a := ⟨Bb, j, none⟩) hbb]; exact h.nils j h1 h2
  · exact World.cell?_setCell_same' _ _ _ (by rw [hc]; rfl)
  · rw [World.frozen?_setCell, World.frozen?_of_block (w := w) (w' := w') (a := ⟨Bb, 8, none⟩) hbb]; exact h.free
  · rw [List.length_append]
    exact ownsRow_setCell_other (a := ⟨Bb, 8, none⟩) ho (bag_neRanges ho) _
theorem finfo_SRanges : (Tryz.prog.info? 25).map (fun i => (i.zero, i.size, i.bytes)) = some (some (.slice none 0 0), 1, 24) := by kernel_rfl

set_option maxHeartbeats 1600000 in
set_option maxRecDepth 100000 in
theorem putRanges_any (Bb B : Nat) (s : Value) (vs : List Value) (p : Option Addr) (n c : Nat) (w : World) (h : BagRanges w Bb B s vs) (hl : vs.length ≤ 1000) :
    Calls Tryz.prog 61 #[.pointer (some ⟨Bb, 0, none⟩), .slice p n c] w fun e w' => e = .returned (.tuple #[]) ∧ (∃ s', BagRanges w' Bb B s' (vs ++ [.slice p n c])) ∧ Below B w w' := by
  obtain ⟨i0, hinf, hz0, hz1, hz2⟩ := finfo_parts finfo_SRanges
  have HB := Lib.hid h
  have HL := Lib.hid hl
  have hc := h.cell
  have hf := h.free
  have HBW := Lib.hid (bag_ltRanges h)
  have HBG : Hid (BagRanges (w.alloc (.cells #[.slice p n c] 25)) Bb B s vs) := bag_belowRanges h ((Below.refl _ _).alloc (Nat.le_refl _) _)
  have HRO := Lib.hid h.row
  clear h hl
  go_enter Tryz.func61, Tryz.ntmps61
  go_wp2_with (at_builtin; refine wpList_append_own _ rfl _ _ 26 rfl (Bb + 1) 25 i0 (.slice none 0 0) 1 24 Tryz.underlying26 hinf hz0 hz1 hz2 rfl (by decide) s vs.length _ rfl HBG.out.row ⟨w.heap.size, 0, none⟩ 1 1 [.slice p n c] rfl rfl (one_new _ _ _) (by simp [Value.oneCell']) (by have := HL.out; simp only [maxLen]; omega) (by have := HL.out; omega) (by have := HBW.out; simp; omega) ?_)
  intro v5 w5 hown5 hgrow5 _
  have hput := bag_putRanges HBG.out hgrow5 hown5
  have hbb : w5.heap[Bb]? = w.heap[Bb]? := (hgrow5.block Bb (by have := HBW.out; simp; omega) (fun e => bag_neRanges HBG.out.row e.symm)).trans (Below.heap_alloc _ _ _ HBW.out)
  have hc5 : w5.cell? ⟨Bb, 8, none⟩ = some s := by rw [World.cell?_of_block (w := w) (w' := w5) (a := ⟨Bb, 8, none⟩) hbb]; exact HB.out.cell
  have hf5 : w5.frozen? ⟨Bb, 8, none⟩ = false := by rw [World.frozen?_of_block (w := w) (w' := w5) (a := ⟨Bb, 8, none⟩) hbb]; exact HB.out.free
  have hb5 : Below B w (w5.setCell ⟨Bb, 8, none⟩ v5) := by
    refine Below.setCell (((Below.refl B w).alloc (by have := HBW.out; have := HB.out.base; omega) _).grown hgrow5 (by have := HBW.out; have := HB.out.base; simp; omega) (fun k hk => ?_)) HB.out.base v5
    have := (HRO.out.lt k hk).1
    have := HB.out.base
    omega
  have HPUT := Lib.hid hput
  have HB5 := Lib.hid hb5
  obtain ⟨q5, n5, c5, rfl⟩ : ∃ q n c, v5 = .slice q n c := by
    rcases hown5.2 with ⟨h, _⟩ | ⟨g, cap, cur, h, _⟩
    · exact ⟨_, _, _, h⟩
    · exact ⟨_, _, _, h⟩
  clear hput hb5 hown5 hgrow5 hbb
  go_wp2
  go_end0
  exact ⟨rfl, ⟨_, HPUT.out⟩, HB5.out⟩

theorem nils_butRanges {w w' : World} {Bb : Nat} {S : Nat → Prop} (h : ∀ j, j < 20 → j ≠ 8 → w.cell? ⟨Bb, j, none⟩ = some (.slice none 0 0)) (hlt : Bb < w.heap.size) (hS : ¬ S Bb) (hb : But S w w') : ∀ j, j < 20 → j ≠ 8 → w'.cell? ⟨Bb, j, none⟩ = some (.slice none 0 0) := fun j h1 h2 => by
  rw [World.cell?_of_block (w := w) (w' := w') (a := ⟨Bb, j, none⟩) (hb.block Bb hlt hS)]; exact h j h1 h2
set_option maxHeartbeats 6400000 in
set_option maxRecDepth 100000 in
theorem apartRanges_any (Bb : Nat) (q : Option Addr) (cq m : Nat) (ds : List D) (w : World) (hm : m = ds.length) (hq : SlD w q ds) (hr : ∀ k, k < m → Room w 2 (dg ds k)) (hfar : Far ds) (hm1 : m ≤ 130) (hn : ∀ k, k < m → (dg ds k).n ≤ 100000000) (hni : ∀ j, j < 20 → j ≠ 8 → w.cell? ⟨Bb, j, none⟩ = some (.slice none 0 0)) (hc : w.cell? ⟨Bb, 8, none⟩ = some (.slice q m cq)) (hbn : ¬ InD ds Bb) :
    Calls Tryz.prog 62 #[.pointer (some ⟨Bb, 0, none⟩)] w fun e w' => e = .returned (.bool true) ∧ But (InD ds) w w' := by
  have HM := Lib.hid hm
  have HQ := Lib.hid hq
  have HR := Lib.hid hr
  have HF := Lib.hid hfar
  have HN := Lib.hid hn
  have HM1 := Lib.hid hm1
  have HNI := Lib.hid hni
  have HC := Lib.hid hc
  have HLT := Lib.hid (World.block_lt_of_cell? w _ hc)
  have HBN := Lib.hid hbn
  have K := Lib.hid (But.refl (InD ds) w)
  clear hm hq hr hfar hm1 hn hni hc hbn
  have hc0 := HNI.out 0 (by decide) (by decide)
  have K2 := Lib.hid (Below.refl w.heap.size w)
  go_enter Tryz.func62, Tryz.ntmps62
  go_wp2_with fail
  refine (flatLimbs_nil _).mono ?_
  rintro e w1 ⟨rfl, hb⟩
  have hbu := But.ofBelow hb (InD ds)
  replace HNI := Lib.hid (nils_butRanges HNI.out HLT.out HBN.out hbu)
  replace HLT := Lib.hid (Nat.lt_of_lt_of_le HLT.out hbu.size)
  replace HC : Hid (World.cell? w1 ⟨Bb, 8, none⟩ = some (.slice q m cq)) := fkeep_cell hb HC.out
  replace K2 := Lib.hid (K2.out.trans (hb.mono K2.out.size))
  replace K := Lib.hid (K.out.trans hbu)
  clear hb hbu
  have hc1 := HNI.out 1 (by decide) (by decide)
  go_wp2_with fail
  refine (flatWords_nil _).mono ?_
  rintro e w2 ⟨rfl, hb⟩
  have hbu := But.ofBelow hb (InD ds)
  replace HNI := Lib.hid (nils_butRanges HNI.out HLT.out HBN.out hbu)
  replace HLT := Lib.hid (Nat.lt_of_lt_of_le HLT.out hbu.size)
  replace HC : Hid (World.cell? w2 ⟨Bb, 8, none⟩ = some (.slice q m cq)) := fkeep_cell hb HC.out
  replace K2 := Lib.hid (K2.out.trans (hb.mono K2.out.size))
  replace K := Lib.hid (K.out.trans hbu)
  clear hb hbu
  have hc2 := HNI.out 2 (by decide) (by decide)
  go_wp2_with fail
  refine (flatInts_nil _).mono ?_
  rintro e w3 ⟨rfl, hb⟩
  have hbu := But.ofBelow hb (InD ds)
  replace HNI := Lib.hid (nils_butRanges HNI.out HLT.out HBN.out hbu)
  replace HLT := Lib.hid (Nat.lt_of_lt_of_le HLT.out hbu.size)
  replace HC : Hid (World.cell? w3 ⟨Bb, 8, none⟩ = some (.slice q m cq)) := fkeep_cell hb HC.out
  replace K2 := Lib.hid (K2.out.trans (hb.mono K2.out.size))
  replace K := Lib.hid (K.out.trans hbu)
  clear hb hbu
  have hc3 := HNI.out 3 (by decide) (by decide)
  go_wp2_with fail
  refine (flatLongs_nil _).mono ?_
  rintro e w4 ⟨rfl, hb⟩
  have hbu := But.ofBelow hb (InD ds)
  replace HNI := Lib.hid (nils_butRanges HNI.out HLT.out HBN.out hbu)
  replace HLT := Lib.hid (Nat.lt_of_lt_of_le HLT.out hbu.size)
  replace HC : Hid (World.cell? w4 ⟨Bb, 8, none⟩ = some (.slice q m cq)) := fkeep_cell hb HC.out
  replace K2 := Lib.hid (K2.out.trans (hb.mono K2.out.size))
  replace K := Lib.hid (K.out.trans hbu)
  clear hb hbu
  have hc4 := HNI.out 4 (by decide) (by decide)
  go_wp2_with fail
  refine (flatTexts_nil _).mono ?_
  rintro e w5 ⟨rfl, hb⟩
  have hbu := But.ofBelow hb (InD ds)
  replace HNI := Lib.hid (nils_butRanges HNI.out HLT.out HBN.out hbu)
  replace HLT := Lib.hid (Nat.lt_of_lt_of_le HLT.out hbu.size)
  replace HC : Hid (World.cell? w5 ⟨Bb, 8, none⟩ = some (.slice q m cq)) := fkeep_cell hb HC.out
  replace K2 := Lib.hid (K2.out.trans (hb.mono K2.out.size))
  replace K := Lib.hid (K.out.trans hbu)
  clear hb hbu
  have hc5 := HNI.out 5 (by decide) (by decide)
  go_wp2_with fail
  refine (flatBytes_nil _).mono ?_
  rintro e w6 ⟨rfl, hb⟩
  have hbu := But.ofBelow hb (InD ds)
  replace HNI := Lib.hid (nils_butRanges HNI.out HLT.out HBN.out hbu)
  replace HLT := Lib.hid (Nat.lt_of_lt_of_le HLT.out hbu.size)
  replace HC : Hid (World.cell? w6 ⟨Bb, 8, none⟩ = some (.slice q m cq)) := fkeep_cell hb HC.out
  replace K2 := Lib.hid (K2.out.trans (hb.mono K2.out.size))
  replace K := Lib.hid (K.out.trans hbu)
  clear hb hbu
  have hc6 := HNI.out 6 (by decide) (by decide)
  go_wp2_with fail
  refine (flatTruths_nil _).mono ?_
  rintro e w7 ⟨rfl, hb⟩
  have hbu := But.ofBelow hb (InD ds)
  replace HNI := Lib.hid (nils_butRanges HNI.out HLT.out HBN.out hbu)
  replace HLT := Lib.hid (Nat.lt_of_lt_of_le HLT.out hbu.size)
  replace HC : Hid (World.cell? w7 ⟨Bb, 8, none⟩ = some (.slice q m cq)) := fkeep_cell hb HC.out
  replace K2 := Lib.hid (K2.out.trans (hb.mono K2.out.size))
  replace K := Lib.hid (K.out.trans hbu)
  clear hb hbu
  have hc7 := HNI.out 7 (by decide) (by decide)
  go_wp2_with fail
  refine (flatNats_nil _).mono ?_
  rintro e w8 ⟨rfl, hb⟩
  have hbu := But.ofBelow hb (InD ds)
  replace HNI := Lib.hid (nils_butRanges HNI.out HLT.out HBN.out hbu)
  replace HLT := Lib.hid (Nat.lt_of_lt_of_le HLT.out hbu.size)
  replace HC : Hid (World.cell? w8 ⟨Bb, 8, none⟩ = some (.slice q m cq)) := fkeep_cell hb HC.out
  replace K2 := Lib.hid (K2.out.trans (hb.mono K2.out.size))
  replace K := Lib.hid (K.out.trans hbu)
  clear hb hbu
  have hc8 := HC.out
  have hkeep8 : ∀ j, j < m → ∀ b, (dg ds j).p = some b → (World.heap w8)[b]? = w.heap[b]? := fun j hj b e => K2.out.block b ((HR.out j hj).lt b e)
  go_wp2_with fail
  refine (flatRanges_any q cq m ds _ HM.out (slD_but HQ.out K.out) (fun j hj => (HR.out j hj).at K.out.size (fun b e => hkeep8 j hj b e)) HF.out HM1.out HN.out).mono ?_
  rintro e w9 ⟨rfl, hb⟩
  have hbu := hb
  replace HNI := Lib.hid (nils_butRanges HNI.out HLT.out HBN.out hbu)
  replace HLT := Lib.hid (Nat.lt_of_lt_of_le HLT.out hbu.size)
  replace K := Lib.hid (K.out.trans hbu)
  clear hb hbu
  have hc9 := HNI.out 9 (by decide) (by decide)
  go_wp2_with fail
  refine (flatFolds_nil _).mono ?_
  rintro e w10 ⟨rfl, hb⟩
  have hbu := But.ofBelow hb (InD ds)
  replace HNI := Lib.hid (nils_butRanges HNI.out HLT.out HBN.out hbu)
  replace HLT := Lib.hid (Nat.lt_of_lt_of_le HLT.out hbu.size)
  replace K := Lib.hid (K.out.trans hbu)
  clear hb hbu
  have hc10 := HNI.out 10 (by decide) (by decide)
  go_wp2_with fail
  refine (flatProps_nil _).mono ?_
  rintro e w11 ⟨rfl, hb⟩
  have hbu := But.ofBelow hb (InD ds)
  replace HNI := Lib.hid (nils_butRanges HNI.out HLT.out HBN.out hbu)
  replace HLT := Lib.hid (Nat.lt_of_lt_of_le HLT.out hbu.size)
  replace K := Lib.hid (K.out.trans hbu)
  clear hb hbu
  have hc11 := HNI.out 11 (by decide) (by decide)
  go_wp2_with fail
  refine (flatTablesRows_nil _).mono ?_
  rintro e w12 ⟨rfl, hb⟩
  have hbu := But.ofBelow hb (InD ds)
  replace HNI := Lib.hid (nils_butRanges HNI.out HLT.out HBN.out hbu)
  replace HLT := Lib.hid (Nat.lt_of_lt_of_le HLT.out hbu.size)
  replace K := Lib.hid (K.out.trans hbu)
  clear hb hbu
  have hc12 := HNI.out 12 (by decide) (by decide)
  go_wp2_with fail
  refine (flatNodes_nil _).mono ?_
  rintro e w13 ⟨rfl, hb⟩
  have hbu := But.ofBelow hb (InD ds)
  replace HNI := Lib.hid (nils_butRanges HNI.out HLT.out HBN.out hbu)
  replace HLT := Lib.hid (Nat.lt_of_lt_of_le HLT.out hbu.size)
  replace K := Lib.hid (K.out.trans hbu)
  clear hb hbu
  have hc13 := HNI.out 13 (by decide) (by decide)
  go_wp2_with fail
  refine (flatTrees_nil _).mono ?_
  rintro e w14 ⟨rfl, hb⟩
  have hbu := But.ofBelow hb (InD ds)
  replace HNI := Lib.hid (nils_butRanges HNI.out HLT.out HBN.out hbu)
  replace HLT := Lib.hid (Nat.lt_of_lt_of_le HLT.out hbu.size)
  replace K := Lib.hid (K.out.trans hbu)
  clear hb hbu
  have hc14 := HNI.out 14 (by decide) (by decide)
  go_wp2_with fail
  refine (flatOps_nil _).mono ?_
  rintro e w15 ⟨rfl, hb⟩
  have hbu := But.ofBelow hb (InD ds)
  replace HNI := Lib.hid (nils_butRanges HNI.out HLT.out HBN.out hbu)
  replace HLT := Lib.hid (Nat.lt_of_lt_of_le HLT.out hbu.size)
  replace K := Lib.hid (K.out.trans hbu)
  clear hb hbu
  have hc15 := HNI.out 15 (by decide) (by decide)
  go_wp2_with fail
  refine (flatPrograms_nil _).mono ?_
  rintro e w16 ⟨rfl, hb⟩
  have hbu := But.ofBelow hb (InD ds)
  replace HNI := Lib.hid (nils_butRanges HNI.out HLT.out HBN.out hbu)
  replace HLT := Lib.hid (Nat.lt_of_lt_of_le HLT.out hbu.size)
  replace K := Lib.hid (K.out.trans hbu)
  clear hb hbu
  have hc16 := HNI.out 16 (by decide) (by decide)
  go_wp2_with fail
  refine (flatArrivals_nil _).mono ?_
  rintro e w17 ⟨rfl, hb⟩
  have hbu := But.ofBelow hb (InD ds)
  replace HNI := Lib.hid (nils_butRanges HNI.out HLT.out HBN.out hbu)
  replace HLT := Lib.hid (Nat.lt_of_lt_of_le HLT.out hbu.size)
  replace K := Lib.hid (K.out.trans hbu)
  clear hb hbu
  have hc17 := HNI.out 17 (by decide) (by decide)
  go_wp2_with fail
  refine (flatPlaces_nil _).mono ?_
  rintro e w18 ⟨rfl, hb⟩
  have hbu := But.ofBelow hb (InD ds)
  replace HNI := Lib.hid (nils_butRanges HNI.out HLT.out HBN.out hbu)
  replace HLT := Lib.hid (Nat.lt_of_lt_of_le HLT.out hbu.size)
  replace K := Lib.hid (K.out.trans hbu)
  clear hb hbu
  have hc18 := HNI.out 18 (by decide) (by decide)
  go_wp2_with fail
  refine (flatRows_nil _).mono ?_
  rintro e w19 ⟨rfl, hb⟩
  have hbu := But.ofBelow hb (InD ds)
  replace HNI := Lib.hid (nils_butRanges HNI.out HLT.out HBN.out hbu)
  replace HLT := Lib.hid (Nat.lt_of_lt_of_le HLT.out hbu.size)
  replace K := Lib.hid (K.out.trans hbu)
  clear hb hbu
  have hc19 := HNI.out 19 (by decide) (by decide)
  go_wp2_with fail
  refine (flatReplays_nil _).mono ?_
  rintro e w20 ⟨rfl, hb⟩
  have hbu := But.ofBelow hb (InD ds)
  replace HNI := Lib.hid (nils_butRanges HNI.out HLT.out HBN.out hbu)
  replace HLT := Lib.hid (Nat.lt_of_lt_of_le HLT.out hbu.size)
  replace K := Lib.hid (K.out.trans hbu)
  clear hb hbu
  go_wp2
  go_ret
  exact ⟨rfl, K.out⟩

theorem far_take {ds : List D} {k : Nat} (h : k < ds.length) : ds.take (k + 1) = ds.take k ++ [dg ds k] := by
  rw [List.take_add_one, List.getElem?_eq_getElem h]
  congr 1
  unfold dg
  rw [List.getD_eq_getElem?_getD, List.getElem?_eq_getElem h]; rfl
theorem slD_of_ownRanges {w : World} {Bb : Nat} {q : Option Addr} {m cq : Nat} {ds : List D} (h : w.ownsRow (Bb + 1) 25 1 (.slice q m cq) (ds.map D.val).length (ds.map D.val)) (hd : ∀ b, InD ds b → b < Bb) : SlD w q ds ∧ m = ds.length := by
  have h' := h
  rcases h.2 with ⟨h1, h2⟩ | ⟨g, cap, cur, h1, hg, hh, _⟩
  · simp only [List.length_map] at h2
    have : ds = [] := List.eq_nil_of_length_eq_zero h2
    subst this
    simp only [Value.slice.injEq] at h1
    exact ⟨.inl rfl, by simp [h1.2.1]⟩
  · simp only [Value.slice.injEq, List.length_map] at h1
    obtain ⟨rfl, rfl, rfl⟩ := h1
    refine ⟨.inr ⟨g, 0, rfl, fun s => by have := hd g s; omega, (Array.getElem?_eq_some_iff.1 hh).1, fun k hk => ?_⟩, rfl⟩
    have hk2 : k < (ds.map D.val).length * 1 := by rw [List.length_map]; omega
    rw [List.length_map] at h'
    rw [Nat.zero_add, h'.cellAt k (by omega), List.getElem?_map]
    unfold dg
    rw [List.getD_eq_getElem?_getD, List.getElem?_eq_getElem hk]; rfl

set_option maxHeartbeats 3200000 in
set_option maxRecDepth 100000 in
theorem ApartRanges_any (q : Option Addr) (cq m : Nat) (ds : List D) (w : World) (hm : m = ds.length) (hq : SlD w q ds) (hr : ∀ k, k < m → Room w 2 (dg ds k)) (hfar : Far ds) (hm1 : m ≤ 130) (hn : ∀ k, k < m → (dg ds k).n ≤ 100000000) :
    Calls Tryz.prog 24 #[.slice q m cq] w fun e w' => e = .returned (.bool true) ∧ But (InD ds) w w' := by
  have HM := Lib.hid hm
  have HQ := Lib.hid hq
  have HR := Lib.hid hr
  have HF := Lib.hid hfar
  have HN := Lib.hid hn
  have HD : Hid (∀ b, InD ds b → b < w.heap.size) := fun b ⟨j, hj, e⟩ => (hr j (by omega)).lt b e
  have hmI : (m : Int) ≤ 130 := by omega
  clear hm hq hr hfar hn
  go_enter Tryz.func24, Tryz.ntmps24
  go_wp2
  go_loopw [4] (fun kv wr => ∃ (k : Nat) (s : Value), k ≤ m ∧ kv = .int .i64 (k : Nat) ∧ Hid (BagRanges wr w.heap.size w.heap.size s ((ds.take k).map D.val)) ∧ Hid (Below w.heap.size w wr)) (fun kv _ => m - (intOf kv).toNat)
  case atStart =>
    refine ⟨0, .slice none 0 0, Nat.zero_le _, rfl, ?_, (Below.refl _ _).alloc (Nat.le_refl _) _⟩
    refine ⟨fun j h1 h2 => ?_, ?_, ?_, World.ownsRow_nil _ _ _ _, Nat.le_refl _⟩
    · rw [World.cell?_alloc_at _ _ _ _ rfl]
      match j, h1 with
      | 0, _ => first | rfl | exact absurd rfl h2
      | 1, _ => first | rfl | exact absurd rfl h2
      | 2, _ => first | rfl | exact absurd rfl h2
      | 3, _ => first | rfl | exact absurd rfl h2
      | 4, _ => first | rfl | exact absurd rfl h2
      | 5, _ => first | rfl | exact absurd rfl h2
      | 6, _ => first | rfl | exact absurd rfl h2
      | 7, _ => first | rfl | exact absurd rfl h2
      | 8, _ => first | rfl | exact absurd rfl h2
      | 9, _ => first | rfl | exact absurd rfl h2
      | 10, _ => first | rfl | exact absurd rfl h2
      | 11, _ => first | rfl | exact absurd rfl h2
      | 12, _ => first | rfl | exact absurd rfl h2
      | 13, _ => first | rfl | exact absurd rfl h2
      | 14, _ => first | rfl | exact absurd rfl h2
      | 15, _ => first | rfl | exact absurd rfl h2
      | 16, _ => first | rfl | exact absurd rfl h2
      | 17, _ => first | rfl | exact absurd rfl h2
      | 18, _ => first | rfl | exact absurd rfl h2
      | 19, _ => first | rfl | exact absurd rfl h2
      | j + 20, h => exact absurd h (by omega)
    · rw [World.cell?_alloc_at _ _ _ _ rfl]; rfl
    · exact World.frozen?_alloc_at _ _ _ _ rfl
  case round =>
    obtain ⟨k, s, hk, rfl, HBG, HB⟩ := hrel
    rename World => wr
    by_cases hkm : k < m
    · have hkI : (k : Int) < m := by omega
      have hkd : k < ds.length := by have := HM.out; omega
      obtain ⟨bq, oq, rfl, hcq, _, _⟩ := slD_at (slD_but HQ.out (But.ofBelow HB.out _)) hkd
      obtain ⟨⟨p, n, c⟩, hd⟩ : ∃ d, d = dg ds k := ⟨_, rfl⟩
      rw [← hd, show D.val ⟨p, n, c⟩ = .slice (D.ad ⟨p, n, c⟩) n c from rfl] at hcq
      have HT : Hid ((ds.take (k + 1)).map D.val = (ds.take k).map D.val ++ [.slice (D.ad ⟨p, n, c⟩) n c]) := by
        show _ = _
        rw [far_take hkd, List.map_append, ← hd]; rfl
      generalize D.ad ⟨p, n, c⟩ = ad at *
      have HP := Lib.hid (putRanges_any w.heap.size w.heap.size s _ ad n c wr HBG.out (by rw [List.length_map, List.length_take]; omega))
      clear hd
      go_wp2_with (go_at_call 61; refine HP.out.mono ?_; rintro e w6 ⟨rfl, ⟨s6, hb6⟩, hbl6⟩; have HB6 := Lib.hid hb6; have HBL6 := Lib.hid (HB.out.trans hbl6); clear hb6 hbl6)
      go_roundw
      case rel => exact ⟨k + 1, s6, by omega, by go_num, (by rw [HT.out]; exact HB6.out), HBL6.out⟩
      case measure => simp [intOf]; omega
    · have hkI : (m : Int) ≤ k := by omega
      obtain rfl : k = m := by omega
      have hbg := HBG.out
      rw [List.take_of_length_le (by have := HM.out; omega)] at hbg
      obtain ⟨q2, n2, c2, rfl⟩ : ∃ q n c, s = .slice q n c := by
        rcases hbg.row.2 with ⟨h, _⟩ | ⟨g, cap, cur, h, _⟩
        · exact ⟨_, _, _, h⟩
        · exact ⟨_, _, _, h⟩
      obtain ⟨hsl, hml⟩ := slD_of_ownRanges hbg.row HD.out
      have hlt := bag_ltRanges hbg
      have HA := Lib.hid (apartRanges_any w.heap.size q2 c2 n2 ds wr hml hsl (fun j hj => (HR.out j (by have := HM.out; omega)).at HB.out.size (fun b e => HB.out.block b ((HR.out j (by have := HM.out; omega)).lt b e))) HF.out (by have := HM.out; omega) (fun j hj => HN.out j (by have := HM.out; omega)) hbg.nils hbg.cell (fun s => by have := HD.out _ s; omega))
      clear hbg hsl hml hlt
      go_wp2_with (go_at_call 62; refine HA.out.mono ?_; rintro e w6 ⟨rfl, hb6⟩; have HB6 := Lib.hid hb6; clear hb6)
      go_ret
      exact ⟨rfl, (But.ofBelow HB.out _).trans HB6.out⟩
end Go.Proofs.YtglgfpapackcdaaGreat
