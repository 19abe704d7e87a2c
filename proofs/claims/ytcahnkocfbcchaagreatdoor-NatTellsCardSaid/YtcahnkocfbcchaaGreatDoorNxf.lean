/- The walk of the kit's apart: limbs and Nats have rows. -/
import Derived.Test.YtcahnkocfbcchaaGreatDoorFn
import Derived.Test.YtcahnkocfbcchaaGreatDoorFcl
import Derived.Test.YtcahnkocfbcchaaGreatDoorNxe

namespace Go.Proofs.YtcahnkocfbcchaaGreatDoor
open Go.RowKit Tnd

/-- a list of rows, and where it lies. -/
structure KL where
  q : Option Addr
  m : Nat
  c : Nat
  ds : List D
def KL.val (x : KL) : Value := .slice x.q x.m x.c
def kl0 : KL := ⟨none, 0, 0, []⟩
structure KOk (w : World) (sz : Nat) (x : KL) : Prop where
  len : x.m = x.ds.length
  sl : SlD w x.q x.ds
  room : ∀ k, k < x.m → Room w sz (dg x.ds k)
  far : Far x.ds
  most : x.m ≤ 130
  few : ∀ k, k < x.m → (dg x.ds k).n ≤ 100000
theorem KOk.but {w w' : World} {sz : Nat} {x : KL} {T : Nat → Prop} (h : KOk w sz x) (hb : But T w w') (hT : ∀ b, T b → ¬ InD x.ds b) (hq : ∀ b o, x.q = some ⟨b, o, none⟩ → ¬ T b) : KOk w' sz x := by
  refine ⟨h.len, ?_, fun k hk => (h.room k hk).at hb.size (fun b e => hb.block b ((h.room k hk).lt b e) fun s => hT b s ⟨k, by have := h.len; omega, e⟩), h.far, h.most, h.few⟩
  rcases h.sl with h0 | ⟨b, off, h1, h2, h3, h4⟩
  · exact .inl h0
  · refine .inr ⟨b, off, h1, h2, Nat.lt_of_lt_of_le h3 hb.size, fun k hk => ?_⟩
    rw [World.cell?_of_block (w := w) (w' := w') (a := ⟨b, off + k, none⟩) (hb.block b h3 (hq b off h1))]
    exact h4 k hk
/-- the rows of the kinds below j. -/
def Tj (K : Nat → KL) (j : Nat) : Nat → Prop := fun b => ∃ i, i < j ∧ InD (K i).ds b
theorem tj_step {K : Nat → KL} {j : Nat} {w x y : World} (h : But (Tj K j) w x) (hb : But (InD (K j).ds) x y) : But (Tj K (j + 1)) w y :=
  (h.mono fun b ⟨i, h1, h2⟩ => ⟨i, by omega, h2⟩).trans (hb.mono fun b h2 => ⟨j, by omega, h2⟩)
structure Bag2 (w : World) (Bb : Nat) (K : Nat → KL) : Prop where
  nil : ∀ j, j < 20 → j ≠ 0 → j ≠ 7 → K j = kl0
  cell : ∀ j, j < 20 → w.cell? ⟨Bb, j, none⟩ = some (K j).val
  k0 : KOk w 1 (K 0)
  k7 : KOk w 1 (K 7)
  dis : ∀ i j b, i ≠ j → InD (K i).ds b → ¬ InD (K j).ds b
  lst : ∀ i j b o, (K i).q = some ⟨b, o, none⟩ → ¬ InD (K j).ds b
  own : ∀ j, ¬ InD (K j).ds Bb
theorem Bag2.at {w x : World} {Bb j : Nat} {K : Nat → KL} (h : Bag2 w Bb K) (hb : But (Tj K j) w x) (hj : j < 20) : x.cell? ⟨Bb, j, none⟩ = some (K j).val := by
  have hl := World.block_lt_of_cell? w _ (h.cell j hj)
  rw [World.cell?_of_block (w := w) (w' := x) (a := ⟨Bb, j, none⟩) (hb.block Bb hl fun ⟨i, _, h2⟩ => h.own i h2)]
  exact h.cell j hj
theorem Bag2.kat {w x : World} {Bb j sz : Nat} {K : Nat → KL} (h : Bag2 w Bb K) (hb : But (Tj K j) w x) (hk : KOk w sz (K j)) : KOk x sz (K j) :=
  hk.but hb (fun b ⟨i, h1, h2⟩ => h.dis i j b (by omega) h2) (fun b o e ⟨i, _, h2⟩ => h.lst j i b o e h2)
theorem Bag2.none {w x : World} {Bb j : Nat} {K : Nat → KL} (h : Bag2 w Bb K) (hb : But (Tj K j) w x) (hj : j < 20) (h0 : j ≠ 0) (h7 : j ≠ 7) : x.cell? ⟨Bb, j, none⟩ = some (.slice none 0 0) := by
  have := h.at hb hj
  rw [h.nil j hj h0 h7] at this
  exact this
set_option maxHeartbeats 6400000 in
set_option maxRecDepth 100000 in
theorem apart_v (Bb : Nat) (K : Nat → KL) (w : World) (h : Bag2 w Bb K) :
    Calls Tryz.prog 49 #[.pointer (some ⟨Bb, 0, none⟩)] w fun e w' => e = .returned (.bool true) ∧ But (Tj K 20) w w' := by
  have H := Lib.hid h
  have K0 := Lib.hid (show But (Tj K 0) w w from But.refl _ _)
  clear h
  have hc0 := H.out.at K0.out (show 0 < 20 by decide)
  unfold KL.val at hc0
  go_enter Tryz.func49, Tryz.ntmps49
  go_wp2_with fail
  have hk0 := H.out.kat K0.out H.out.k0
  refine (flatLimbs_any (K 0).q (K 0).c (K 0).m (K 0).ds _ hk0.len hk0.sl hk0.room hk0.far hk0.most hk0.few).mono ?_
  rintro e w1 ⟨rfl, hb⟩
  have K1 := Lib.hid (tj_step K0.out hb)
  clear hb hk0 hc0 K0
  have hc1 := H.out.none K1.out (show 1 < 20 by decide) (by decide) (by decide)
  go_wp2_with fail
  refine (flatWords_nil _).mono ?_
  rintro e w2 ⟨rfl, hb⟩
  have K2 := Lib.hid (tj_step K1.out (But.ofBelow hb (InD (K 1).ds)))
  clear hb hc1 K1
  have hc2 := H.out.none K2.out (show 2 < 20 by decide) (by decide) (by decide)
  go_wp2_with fail
  refine (flatInts_nil _).mono ?_
  rintro e w3 ⟨rfl, hb⟩
  have K3 := Lib.hid (tj_step K2.out (But.ofBelow hb (InD (K 2).ds)))
  clear hb hc2 K2
  have hc3 := H.out.none K3.out (show 3 < 20 by decide) (by decide) (by decide)
  go_wp2_with fail
  refine (flatLongs_nil _).mono ?_
  rintro e w4 ⟨rfl, hb⟩
  have K4 := Lib.hid (tj_step K3.out (But.ofBelow hb (InD (K 3).ds)))
  clear hb hc3 K3
  have hc4 := H.out.none K4.out (show 4 < 20 by decide) (by decide) (by decide)
  go_wp2_with fail
  refine (flatTexts_nil _).mono ?_
  rintro e w5 ⟨rfl, hb⟩
  have K5 := Lib.hid (tj_step K4.out (But.ofBelow hb (InD (K 4).ds)))
  clear hb hc4 K4
  have hc5 := H.out.none K5.out (show 5 < 20 by decide) (by decide) (by decide)
  go_wp2_with fail
  refine (flatBytes_nil _).mono ?_
  rintro e w6 ⟨rfl, hb⟩
  have K6 := Lib.hid (tj_step K5.out (But.ofBelow hb (InD (K 5).ds)))
  clear hb hc5 K5
  have hc6 := H.out.none K6.out (show 6 < 20 by decide) (by decide) (by decide)
  go_wp2_with fail
  refine (flatTruths_nil _).mono ?_
  rintro e w7 ⟨rfl, hb⟩
  have K7 := Lib.hid (tj_step K6.out (But.ofBelow hb (InD (K 6).ds)))
  clear hb hc6 K6
  have hc7 := H.out.at K7.out (show 7 < 20 by decide)
  unfold KL.val at hc7
  go_wp2_with fail
  have hk7 := H.out.kat K7.out H.out.k7
  refine (flatNats_any (K 7).q (K 7).c (K 7).m (K 7).ds _ hk7.len hk7.sl hk7.room hk7.far hk7.most hk7.few).mono ?_
  rintro e w8 ⟨rfl, hb⟩
  have K8 := Lib.hid (tj_step K7.out hb)
  clear hb hk7 hc7 K7
  have hc8 := H.out.none K8.out (show 8 < 20 by decide) (by decide) (by decide)
  go_wp2_with fail
  refine (flatRanges_nil _).mono ?_
  rintro e w9 ⟨rfl, hb⟩
  have K9 := Lib.hid (tj_step K8.out (But.ofBelow hb (InD (K 8).ds)))
  clear hb hc8 K8
  have hc9 := H.out.none K9.out (show 9 < 20 by decide) (by decide) (by decide)
  go_wp2_with fail
  refine (flatFolds_nil _).mono ?_
  rintro e w10 ⟨rfl, hb⟩
  have K10 := Lib.hid (tj_step K9.out (But.ofBelow hb (InD (K 9).ds)))
  clear hb hc9 K9
  have hc10 := H.out.none K10.out (show 10 < 20 by decide) (by decide) (by decide)
  go_wp2_with fail
  refine (flatProps_nil _).mono ?_
  rintro e w11 ⟨rfl, hb⟩
  have K11 := Lib.hid (tj_step K10.out (But.ofBelow hb (InD (K 10).ds)))
  clear hb hc10 K10
  have hc11 := H.out.none K11.out (show 11 < 20 by decide) (by decide) (by decide)
  go_wp2_with fail
  refine (flatTablesRows_nil _).mono ?_
  rintro e w12 ⟨rfl, hb⟩
  have K12 := Lib.hid (tj_step K11.out (But.ofBelow hb (InD (K 11).ds)))
  clear hb hc11 K11
  have hc12 := H.out.none K12.out (show 12 < 20 by decide) (by decide) (by decide)
  go_wp2_with fail
  refine (flatNodes_nil _).mono ?_
  rintro e w13 ⟨rfl, hb⟩
  have K13 := Lib.hid (tj_step K12.out (But.ofBelow hb (InD (K 12).ds)))
  clear hb hc12 K12
  have hc13 := H.out.none K13.out (show 13 < 20 by decide) (by decide) (by decide)
  go_wp2_with fail
  refine (flatTrees_nil _).mono ?_
  rintro e w14 ⟨rfl, hb⟩
  have K14 := Lib.hid (tj_step K13.out (But.ofBelow hb (InD (K 13).ds)))
  clear hb hc13 K13
  have hc14 := H.out.none K14.out (show 14 < 20 by decide) (by decide) (by decide)
  go_wp2_with fail
  refine (flatOps_nil _).mono ?_
  rintro e w15 ⟨rfl, hb⟩
  have K15 := Lib.hid (tj_step K14.out (But.ofBelow hb (InD (K 14).ds)))
  clear hb hc14 K14
  have hc15 := H.out.none K15.out (show 15 < 20 by decide) (by decide) (by decide)
  go_wp2_with fail
  refine (flatPrograms_nil _).mono ?_
  rintro e w16 ⟨rfl, hb⟩
  have K16 := Lib.hid (tj_step K15.out (But.ofBelow hb (InD (K 15).ds)))
  clear hb hc15 K15
  have hc16 := H.out.none K16.out (show 16 < 20 by decide) (by decide) (by decide)
  go_wp2_with fail
  refine (flatArrivals_nil _).mono ?_
  rintro e w17 ⟨rfl, hb⟩
  have K17 := Lib.hid (tj_step K16.out (But.ofBelow hb (InD (K 16).ds)))
  clear hb hc16 K16
  have hc17 := H.out.none K17.out (show 17 < 20 by decide) (by decide) (by decide)
  go_wp2_with fail
  refine (flatPlaces_nil _).mono ?_
  rintro e w18 ⟨rfl, hb⟩
  have K18 := Lib.hid (tj_step K17.out (But.ofBelow hb (InD (K 17).ds)))
  clear hb hc17 K17
  have hc18 := H.out.none K18.out (show 18 < 20 by decide) (by decide) (by decide)
  go_wp2_with fail
  refine (flatRows_nil _).mono ?_
  rintro e w19 ⟨rfl, hb⟩
  have K19 := Lib.hid (tj_step K18.out (But.ofBelow hb (InD (K 18).ds)))
  clear hb hc18 K18
  have hc19 := H.out.none K19.out (show 19 < 20 by decide) (by decide) (by decide)
  go_wp2_with fail
  refine (flatReplays_nil _).mono ?_
  rintro e w20 ⟨rfl, hb⟩
  have K20 := Lib.hid (tj_step K19.out (But.ofBelow hb (InD (K 19).ds)))
  clear hb hc19 K19
  go_wp2
  go_ret
  exact ⟨rfl, K20.out⟩
end Go.Proofs.YtcahnkocfbcchaaGreatDoor
