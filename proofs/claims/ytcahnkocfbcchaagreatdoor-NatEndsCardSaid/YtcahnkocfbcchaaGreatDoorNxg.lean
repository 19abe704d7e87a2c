/- The walk of the kit's apart: limbs and Nats have rows. -/
/- The kit's bag with rows of limbs and of Nats: what its put.. leave. -/
import Derived.Test.YtcahnkocfbcchaaGreatDoorFn
import Derived.Test.YtcahnkocfbcchaaGreatDoorFcl
import Derived.Test.YtcahnkocfbcchaaGreatDoorNxe
import Derived.Test.YtcahnkocfbcchaaGreatDoorNxb

namespace Go.Proofs.YtcahnkocfbcchaaGreatDoor
open Go.RowKit Tnd

/-- a list of rows, and where it lies. -/
structure KL where
  q : Option Addr
  m : Nat
  c : Nat
  ds : List D
def KL.val (x : KL) : Value := .slice x.q x.m x.c
def kl0 : KL := ⟨none, 0, 0, []⟩
structure KOk (w : World) (sz : Nat) (x : KL) : Prop where
  len : x.m = x.ds.length
  sl : SlD w x.q x.ds
  room : ∀ k, k < x.m → Room w sz (dg x.ds k)
  far : Far x.ds
  most : x.m ≤ 130
  few : ∀ k, k < x.m → (dg x.ds k).n ≤ 100000
theorem KOk.but {w w' : World} {sz : Nat} {x : KL} {T : Nat → Prop} (h : KOk w sz x) (hb : But T w w') (hT : ∀ b, T b → ¬ InD x.ds b) (hq : ∀ b o, x.q = some ⟨b, o, none⟩ → ¬ T b) : KOk w' sz x := by
  refine ⟨h.len, ?_, fun k hk => (h.room k hk).at hb.size (fun b e => hb.block b ((h.room k hk).lt b e) fun s => hT b s ⟨k, by have := h.len; omega, e⟩), h.far, h.most, h.few⟩
  rcases h.sl with h0 | ⟨b, off, h1, h2, h3, h4⟩
  · exact .inl h0
  · refine .inr ⟨b, off, h1, h2, Nat.lt_of_lt_of_le h3 hb.size, fun k hk => ?_⟩
    rw [World.cell?_of_block (w := w) (w' := w') (a := ⟨b, off + k, none⟩) (hb.block b h3 (hq b off h1))]
    exact h4 k hk
/-- the rows of the kinds below j. -/
def Tj (K : Nat → KL) (j : Nat) : Nat → Prop := fun b => ∃ i, i < j ∧ InD (K i).ds b
theorem tj_step {K : Nat → KL} {j : Nat} {w x y : World} (h : But (Tj K j) w x) (hb : But (InD (K j).ds) x y) : But (Tj K (j + 1)) w y :=
  (h.mono fun b ⟨i, h1, h2⟩ => ⟨i, by omega, h2⟩).trans (hb.mono fun b h2 => ⟨j, by omega, h2⟩)
structure Bag2 (w : World) (Bb : Nat) (K : Nat → KL) : Prop where
  nil : ∀ j, j < 20 → j ≠ 0 → j ≠ 7 → K j = kl0
  cell : ∀ j, j < 20 → w.cell? ⟨Bb, j, none⟩ = some (K j).val
  k0 : KOk w 1 (K 0)
  k7 : KOk w 1 (K 7)
  dis : ∀ i j b, i ≠ j → InD (K i).ds b → ¬ InD (K j).ds b
  lst : ∀ i j b o, (K i).q = some ⟨b, o, none⟩ → ¬ InD (K j).ds b
  own : ∀ j, ¬ InD (K j).ds Bb
theorem Bag2.at {w x : World} {Bb j : Nat} {K : Nat → KL} (h : Bag2 w Bb K) (hb : But (Tj K j) w x) (hj : j < 20) : x.cell? ⟨Bb, j, none⟩ = some (K j).val := by
  have hl := World.block_lt_of_cell? w _ (h.cell j hj)
  rw [World.cell?_of_block (w := w) (w' := x) (a := ⟨Bb, j, none⟩) (hb.block Bb hl fun ⟨i, _, h2⟩ => h.own i h2)]
  exact h.cell j hj
theorem Bag2.kat {w x : World} {Bb j sz : Nat} {K : Nat → KL} (h : Bag2 w Bb K) (hb : But (Tj K j) w x) (hk : KOk w sz (K j)) : KOk x sz (K j) :=
  hk.but hb (fun b ⟨i, h1, h2⟩ => h.dis i j b (by omega) h2) (fun b o e ⟨i, _, h2⟩ => h.lst j i b o e h2)
theorem Bag2.none {w x : World} {Bb j : Nat} {K : Nat → KL} (h : Bag2 w Bb K) (hb : But (Tj K j) w x) (hj : j < 20) (h0 : j ≠ 0) (h7 : j ≠ 7) : x.cell? ⟨Bb, j, none⟩ = some (.slice none 0 0) := by
  have := h.at hb hj
  rw [h.nil j hj h0 h7] at this
  exact this
set_option maxHeartbeats 6400000 in
set_option maxRecDepth 100000 in
theorem apart_v (Bb : Nat) (K : Nat → KL) (w : World) (h : Bag2 w Bb K) :
    Calls Tryz.prog 49 #[.pointer (some ⟨Bb, 0, none⟩)] w fun e w' => e = .returned (.bool true) ∧ But (Tj K 20) w w' := by
  have H := Lib.hid h
  have K0 := Lib.hid (show But (Tj K 0) w w from But.refl _ _)
  clear h
  have hc0 := H.out.at K0.out (show 0 < 20 by decide)
  unfold KL.val at hc0
  go_enter Tryz.func49, Tryz.ntmps49
  go_wp2_with fail
  have hk0 := H.out.kat K0.out H.out.k0
  refine (flatLimbs_any (K 0).q (K 0).c (K 0).m (K 0).ds _ hk0.len hk0.sl hk0.room hk0.far hk0.most hk0.few).mono ?_
  rintro e w1 ⟨rfl, hb⟩
  have K1 := Lib.hid (tj_step K0.out hb)
  clear hb hk0 hc0 K0
  have hc1 := H.out.none K1.out (show 1 < 20 by decide) (by decide) (by decide)
  go_wp2_with fail
  refine (flatWords_nil _).mono ?_
  rintro e w2 ⟨rfl, hb⟩
  have K2 := Lib.hid (tj_step K1.out (But.ofBelow hb (InD (K 1).ds)))
  clear hb hc1 K1
  have hc2 := H.out.none K2.out (show 2 < 20 by decide) (by decide) (by decide)
  go_wp2_with fail
  refine (flatInts_nil _).mono ?_
  rintro e w3 ⟨rfl, hb⟩
  have K3 := Lib.hid (tj_step K2.out (But.ofBelow hb (InD (K 2).ds)))
  clear hb hc2 K2
  have hc3 := H.out.none K3.out (show 3 < 20 by decide) (by decide) (by decide)
  go_wp2_with fail
  refine (flatLongs_nil _).mono ?_
  rintro e w4 ⟨rfl, hb⟩
  have K4 := Lib.hid (tj_step K3.out (But.ofBelow hb (InD (K 3).ds)))
  clear hb hc3 K3
  have hc4 := H.out.none K4.out (show 4 < 20 by decide) (by decide) (by decide)
  go_wp2_with fail
  refine (flatTexts_nil _).mono ?_
  rintro e w5 ⟨rfl, hb⟩
  have K5 := Lib.hid (tj_step K4.out (But.ofBelow hb (InD (K 4).ds)))
  clear hb hc4 K4
  have hc5 := H.out.none K5.out (show 5 < 20 by decide) (by decide) (by decide)
  go_wp2_with fail
  refine (flatBytes_nil _).mono ?_
  rintro e w6 ⟨rfl, hb⟩
  have K6 := Lib.hid (tj_step K5.out (But.ofBelow hb (InD (K 5).ds)))
  clear hb hc5 K5
  have hc6 := H.out.none K6.out (show 6 < 20 by decide) (by decide) (by decide)
  go_wp2_with fail
  refine (flatTruths_nil _).mono ?_
  rintro e w7 ⟨rfl, hb⟩
  have K7 := Lib.hid (tj_step K6.out (But.ofBelow hb (InD (K 6).ds)))
  clear hb hc6 K6
  have hc7 := H.out.at K7.out (show 7 < 20 by decide)
  unfold KL.val at hc7
  go_wp2_with fail
  have hk7 := H.out.kat K7.out H.out.k7
  refine (flatNats_any (K 7).q (K 7).c (K 7).m (K 7).ds _ hk7.len hk7.sl hk7.room hk7.far hk7.most hk7.few).mono ?_
  rintro e w8 ⟨rfl, hb⟩
  have K8 := Lib.hid (tj_step K7.out hb)
  clear hb hk7 hc7 K7
  have hc8 := H.out.none K8.out (show 8 < 20 by decide) (by decide) (by decide)
  go_wp2_with fail
  refine (flatRanges_nil _).mono ?_
  rintro e w9 ⟨rfl, hb⟩
  have K9 := Lib.hid (tj_step K8.out (But.ofBelow hb (InD (K 8).ds)))
  clear hb hc8 K8
  have hc9 := H.out.none K9.out (show 9 < 20 by decide) (by decide) (by decide)
  go_wp2_with fail
  refine (flatFolds_nil _).mono ?_
  rintro e w10 ⟨rfl, hb⟩
  have K10 := Lib.hid (tj_step K9.out (But.ofBelow hb (InD (K 9).ds)))
  clear hb hc9 K9
  have hc10 := H.out.none K10.out (show 10 < 20 by decide) (by decide) (by decide)
  go_wp2_with fail
  refine (flatProps_nil _).mono ?_
  rintro e w11 ⟨rfl, hb⟩
  have K11 := Lib.hid (tj_step K10.out (But.ofBelow hb (InD (K 10).ds)))
  clear hb hc10 K10
  have hc11 := H.out.none K11.out (show 11 < 20 by decide) (by decide) (by decide)
  go_wp2_with fail
  refine (flatTablesRows_nil _).mono ?_
  rintro e w12 ⟨rfl, hb⟩
  have K12 := Lib.hid (tj_step K11.out (But.ofBelow hb (InD (K 11).ds)))
  clear hb hc11 K11
  have hc12 := H.out.none K12.out (show 12 < 20 by decide) (by decide) (by decide)
  go_wp2_with fail
  refine (flatNodes_nil _).mono ?_
  rintro e w13 ⟨rfl, hb⟩
  have K13 := Lib.hid (tj_step K12.out (But.ofBelow hb (InD (K 12).ds)))
  clear hb hc12 K12
  have hc13 := H.out.none K13.out (show 13 < 20 by decide) (by decide) (by decide)
  go_wp2_with fail
  refine (flatTrees_nil _).mono ?_
  rintro e w14 ⟨rfl, hb⟩
  have K14 := Lib.hid (tj_step K13.out (But.ofBelow hb (InD (K 13).ds)))
  clear hb hc13 K13
  have hc14 := H.out.none K14.out (show 14 < 20 by decide) (by decide) (by decide)
  go_wp2_with fail
  refine (flatOps_nil _).mono ?_
  rintro e w15 ⟨rfl, hb⟩
  have K15 := Lib.hid (tj_step K14.out (But.ofBelow hb (InD (K 14).ds)))
  clear hb hc14 K14
  have hc15 := H.out.none K15.out (show 15 < 20 by decide) (by decide) (by decide)
  go_wp2_with fail
  refine (flatPrograms_nil _).mono ?_
  rintro e w16 ⟨rfl, hb⟩
  have K16 := Lib.hid (tj_step K15.out (But.ofBelow hb (InD (K 15).ds)))
  clear hb hc15 K15
  have hc16 := H.out.none K16.out (show 16 < 20 by decide) (by decide) (by decide)
  go_wp2_with fail
  refine (flatArrivals_nil _).mono ?_
  rintro e w17 ⟨rfl, hb⟩
  have K17 := Lib.hid (tj_step K16.out (But.ofBelow hb (InD (K 16).ds)))
  clear hb hc16 K16
  have hc17 := H.out.none K17.out (show 17 < 20 by decide) (by decide) (by decide)
  go_wp2_with fail
  refine (flatPlaces_nil _).mono ?_
  rintro e w18 ⟨rfl, hb⟩
  have K18 := Lib.hid (tj_step K17.out (But.ofBelow hb (InD (K 17).ds)))
  clear hb hc17 K17
  have hc18 := H.out.none K18.out (show 18 < 20 by decide) (by decide) (by decide)
  go_wp2_with fail
  refine (flatRows_nil _).mono ?_
  rintro e w19 ⟨rfl, hb⟩
  have K19 := Lib.hid (tj_step K18.out (But.ofBelow hb (InD (K 18).ds)))
  clear hb hc18 K18
  have hc19 := H.out.none K19.out (show 19 < 20 by decide) (by decide) (by decide)
  go_wp2_with fail
  refine (flatReplays_nil _).mono ?_
  rintro e w20 ⟨rfl, hb⟩
  have K20 := Lib.hid (tj_step K19.out (But.ofBelow hb (InD (K 19).ds)))
  clear hb hc19 K19
  go_wp2
  go_ret
  exact ⟨rfl, K20.out⟩
end Go.Proofs.YtcahnkocfbcchaaGreatDoor


namespace Go.Proofs.YtcahnkocfbcchaaGreatDoor
open Go.RowKit Tnd

theorem row_below {w w' : World} {B n z : Nat} {T : TypeId} {v : Value} {xs : List Value} (h : w.ownsRow B T z v n xs) (hb : Below w.heap.size w w') : w'.ownsRow B T z v n xs := by
  obtain ⟨h1, h2⟩ := h
  refine ⟨h1, ?_⟩
  rcases h2 with h2 | ⟨g, cap, cur, rfl, hg, hh, r⟩
  · exact .inl h2
  · exact .inr ⟨g, cap, cur, rfl, hg, by rw [hb.block g (lt_of_block hh)]; exact hh, r⟩
theorem row_ne {w : World} {B n z : Nat} {T T' : TypeId} {v : Value} {xs : List Value} (h : w.ownsRow B T z v n xs) {nb : Nat} {c : Array Value} {fz : Nat × Nat} (hv : w.heap[nb]? = some (.cells c T' fz)) (hT : T' ≠ T) : v.ownBlock ≠ some nb := by
  intro hg
  rcases h.2 with ⟨rfl, _⟩ | ⟨g, cap, cur, rfl, _, hh, _⟩
  · simp [Value.ownBlock] at hg
  · simp only [Value.ownBlock, Option.some.injEq] at hg
    subst hg
    rw [hh] at hv
    simp only [Option.some.injEq, Obj.cells.injEq] at hv
    exact hT hv.2.1.symm
theorem cells_one_z (w : World) (u : Value) (T : TypeId) : ∀ j x, [u][j]? = some x → (w.alloc (.cells #[u] T)).cell? ((⟨w.heap.size, 0, none⟩ : Addr).add j) = some x := by
  intro j x hx
  match j, hx with
  | 0, hx => show (w.alloc (.cells #[u] T)).cell? ⟨w.heap.size, 0, none⟩ = _; rw [World.cell?_alloc_at _ _ _ _ rfl]; exact hx
  | n + 1, hx => simp at hx
theorem kept_beside {w w' : World} {B B' z n z' n' : Nat} {T T' : TypeId} {v u : Value} {xs us : List Value} (hr : w.ownsRow B T z v n xs) (ho : w.ownsRow B' T' z' u n' us) (hT : T ≠ T') (hg : w.grownBy w' u.ownBlock) : w'.ownsRow B T z v n xs := by
  refine World.ownsRow.kept hr hg ?_
  rcases ho.2 with ⟨e1, _⟩ | ⟨g, cap, cur, e1, _, hh, _⟩
  · rw [e1]
    rcases hv : v.ownBlock with _ | g2
    · exact .inl rfl
    · exact .inr (by simp [Value.ownBlock])
  · rw [e1]; exact .inr (row_ne hr hh (Ne.symm hT))
def tyB : Nat → TypeId
  | 0 => 22
  | 1 => 45
  | 2 => 161
  | 3 => 162
  | 4 => 48
  | 5 => 58
  | 6 => 165
  | 7 => 38
  | 8 => 166
  | 9 => 170
  | 10 => 174
  | 11 => 179
  | 12 => 184
  | 13 => 192
  | 14 => 197
  | 15 => 203
  | 16 => 208
  | 17 => 213
  | 18 => 217
  | 19 => 222
  | _ => 0
theorem tyB_ne {i j : Nat} (hi : i < 20) (hj : j < 20) (h : i ≠ j) : tyB i ≠ tyB j := by
  have k : ((List.range 20).all fun i => (List.range 20).all fun j => i == j || tyB i != tyB j) = true := by decide
  have := (List.all_eq_true.1 ((List.all_eq_true.1 k) i (List.mem_range.2 hi))) j (List.mem_range.2 hj)
  simpa [h] using this
def updV {α : Type} (f : Nat → α) (i : Nat) (u : α) : Nat → α := fun k => if k = i then u else f k
theorem updV_same {α : Type} (f : Nat → α) (i : Nat) (u : α) : updV f i u i = u := if_pos rfl
theorem updV_ne {α : Type} (f : Nat → α) {i k : Nat} (u : α) (h : k ≠ i) : updV f i u k = f k := if_neg h
/-- the bag: twenty rows of the call's own, by kind. -/
structure BagV (w : World) (Bb B : Nat) (s : Nat → Value) (vs : Nat → List Value) : Prop where
  cell : ∀ j, j < 20 → w.cell? ⟨Bb, j, none⟩ = some (s j)
  free : ∀ j, j < 20 → w.frozen? ⟨Bb, j, none⟩ = false
  row : ∀ j, j < 20 → w.ownsRow (Bb + 1) (tyB j) 1 (s j) (vs j).length (vs j)
  base : B ≤ Bb
  nil : ∀ j, j < 20 → vs j = [] → s j = .slice none 0 0
theorem BagV.lt {w : World} {Bb B : Nat} {s : Nat → Value} {vs : Nat → List Value} (h : BagV w Bb B s vs) : Bb < w.heap.size := World.block_lt_of_cell? w _ (h.cell 0 (by decide))
theorem BagV.below {w w' : World} {Bb B : Nat} {s : Nat → Value} {vs : Nat → List Value} (h : BagV w Bb B s vs) (hb : Below w.heap.size w w') : BagV w' Bb B s vs := by
  have hbb := hb.block Bb h.lt
  refine ⟨fun j hj => ?_, fun j hj => ?_, fun j hj => row_below (h.row j hj) hb, h.base, h.nil⟩
  · rw [World.cell?_of_block (w := w) (w' := w') (a := ⟨Bb, j, none⟩) hbb]; exact h.cell j hj
  · rw [World.frozen?_of_block (w := w) (w' := w') (a := ⟨Bb, j, none⟩) hbb]; exact h.free j hj
theorem row_not {w : World} {Bb n : Nat} {T : TypeId} {s : Value} {vs : List Value} (h : w.ownsRow (Bb + 1) T 1 s n vs) : s.ownBlock ≠ some Bb := fun e => by have := (h.lt Bb e).1; omega
theorem BagV.put {w w' : World} {Bb B i : Nat} {s : Nat → Value} {vs : Nat → List Value} {s' x : Value} (h : BagV w Bb B s vs) (hi : i < 20) (hg : w.grownBy w' (s i).ownBlock) (ho : w'.ownsRow (Bb + 1) (tyB i) 1 s' ((vs i).length + 1) (vs i ++ [x])) :
    BagV (w'.setCell ⟨Bb, i, none⟩ s') Bb B (updV s i s') (updV vs i (vs i ++ [x])) := by
  have hbb : w'.heap[Bb]? = w.heap[Bb]? := hg.block Bb h.lt (fun e => row_not (h.row i hi) e.symm)
  refine ⟨fun j hj => ?_, fun j hj => ?_, fun j hj => ?_, h.base, fun j hj hn => by
    by_cases e : j = i
    · subst e; rw [updV_same] at hn; simp at hn
    · rw [updV_ne _ _ e] at hn ⊢; exact h.nil j hj hn⟩
  · by_cases e : j = i
    · subst e
      rw [updV_same]
      exact World.cell?_setCell_same' _ _ _ (by rw [World.cell?_of_block (w := w) (w' := w') (a := ⟨Bb, j, none⟩) hbb, h.cell j hj]; rfl)
    · rw [updV_ne _ _ e, World.cell?_setCell_other (w := w') (a := ⟨Bb, i, none⟩) (b := ⟨Bb, j, none⟩) (v := s') (h := by intro e2; simp only [Addr.mk.injEq, true_and, and_true] at e2; omega), World.cell?_of_block (w := w) (w' := w') (a := ⟨Bb, j, none⟩) hbb]
      exact h.cell j hj
  · rw [World.frozen?_setCell, World.frozen?_of_block (w := w) (w' := w') (a := ⟨Bb, j, none⟩) hbb]; exact h.free j hj
  · by_cases e : j = i
    · subst e
      rw [updV_same, updV_same, List.length_append]
      exact ownsRow_setCell_other (a := ⟨Bb, j, none⟩) ho (row_not ho) _
    · rw [updV_ne _ _ e, updV_ne _ _ e]
      have hk : w'.ownsRow (Bb + 1) (tyB j) 1 (s j) (vs j).length (vs j) := kept_beside (h.row j hj) (h.row i hi) (tyB_ne hj hi e) hg
      exact ownsRow_setCell_other (a := ⟨Bb, i, none⟩) hk (row_not hk) _
/-- boxes of types that no row of the bag has stay as they are. -/
def KeepT (Bb : Nat) (w w' : World) : Prop := ∀ b T cs, b ≠ Bb → (∀ j, j < 20 → T ≠ tyB j) → Bx w b T cs → Bx w' b T cs
theorem KeepT.of {Bb : Nat} {w w' : World} (h : Below w.heap.size w w') : KeepT Bb w w' := fun _ _ _ _ _ k => k.below h
theorem KeepT.trans {Bb : Nat} {w w' w'' : World} (h : KeepT Bb w w') (k : KeepT Bb w' w'') : KeepT Bb w w'' := fun b T cs h1 h2 h3 => k b T cs h1 h2 (h b T cs h1 h2 h3)
/-- what is put where: by kind, in their order. -/
def PutsV (B Bb : Nat) (w : World) (_vs vs' : Nat → List Value) (e : Ending) (w' : World) : Prop := e = .returned (.tuple #[]) ∧ (∃ s', BagV w' Bb B s' vs') ∧ Below B w w' ∧ KeepT Bb w w'
theorem finfoSLimbs : (Tryz.prog.info? 22).map (fun i => (i.zero, i.size, i.bytes)) = some (some (.slice none 0 0), 1, 24) := by kernel_rfl
set_option maxHeartbeats 1600000 in
set_option maxRecDepth 100000 in
theorem putLimbs_v (Bb B : Nat) (s : Nat → Value) (vs : Nat → List Value) (p : Option Addr) (n c : Nat) (w : World) (h : BagV w Bb B s vs) (hl : (vs 0).length ≤ 1000000) :
    Calls Tryz.prog 116 #[.pointer (some ⟨Bb, 0, none⟩), .slice p n c] w (PutsV B Bb w vs (updV vs 0 (vs 0 ++ [.slice p n c]))) := by
  obtain ⟨i0, hinf, hz0, hz1, hz2⟩ := finfo_parts finfoSLimbs
  have HB := Lib.hid h
  have HL := Lib.hid hl
  obtain ⟨si, hsi⟩ : ∃ z, z = s 0 := ⟨_, rfl⟩
  have hc := h.cell 0 (by decide)
  have hf := h.free 0 (by decide)
  rw [← hsi] at hc
  have HBW := Lib.hid h.lt
  have HSI := Lib.hid hsi
  have HBG : Hid (BagV (w.alloc (.cells #[.slice p n c] 22)) Bb B s vs) := h.below ((Below.refl _ _).alloc (Nat.le_refl _) _)
  have HRO := Lib.hid (h.row 0 (by decide))
  have hrow := HBG.out.row 0 (by decide)
  rw [← hsi] at hrow
  have HRW := Lib.hid hrow
  clear h hl hsi hrow
  go_enter Tryz.func116, Tryz.ntmps116
  go_wp2_with (at_builtin; refine wpList_append_own _ rfl _ _ 81 rfl (Bb + 1) 22 i0 (.slice none 0 0) 1 24 Tryz.underlying81 hinf hz0 hz1 hz2 rfl (by decide) si (vs 0).length _ rfl HRW.out ⟨w.heap.size, 0, none⟩ 1 1 [.slice p n c] rfl rfl (cells_one_z _ _ _) (by simp [Value.oneCell']) (by have := HL.out; simp only [maxLen]; omega) (by have := HL.out; omega) (by have := HBW.out; simp; omega) ?_)
  intro v5 w5 hown5 hgrow5 _
  have hput := HBG.out.put (i := 0) (by decide) (by rw [← HSI.out]; exact hgrow5) hown5
  have hbb : w5.heap[Bb]? = w.heap[Bb]? := (hgrow5.block Bb (by have := HBW.out; simp; omega) (fun e => row_not HRW.out e.symm)).trans (Below.heap_alloc _ _ _ HBW.out)
  have hc5 : w5.cell? ⟨Bb, 0, none⟩ = some si := by rw [World.cell?_of_block (w := w) (w' := w5) (a := ⟨Bb, 0, none⟩) hbb]; exact hc
  have hf5 : w5.frozen? ⟨Bb, 0, none⟩ = false := by rw [World.frozen?_of_block (w := w) (w' := w5) (a := ⟨Bb, 0, none⟩) hbb]; exact hf
  have hkt : KeepT Bb w (w5.setCell ⟨Bb, 0, none⟩ v5) := fun b T cs hne hT hb => by
    have h1 : Bx (w.alloc (.cells #[.slice p n c] 22)) b T cs := hb.below ((Below.refl _ _).alloc (Nat.le_refl _) _)
    exact (h1.kept hgrow5 (fun e => row_ne HRW.out h1 (hT 0 (by decide)) e.symm)).other (a := ⟨Bb, 0, none⟩) hne v5
  have hb5 : Below B w (w5.setCell ⟨Bb, 0, none⟩ v5) := by
    refine Below.setCell (((Below.refl B w).alloc (by have := HBW.out; have := HB.out.base; omega) _).grown hgrow5 (by have := HBW.out; have := HB.out.base; simp; omega) (fun k hk => ?_)) HB.out.base v5
    have := (HRO.out.lt k (by rw [← HSI.out]; exact hk)).1
    have := HB.out.base
    omega
  have HPUT := Lib.hid hput
  have HB5 := Lib.hid hb5
  have HKT := Lib.hid hkt
  obtain ⟨q5, n5, c5, rfl⟩ : ∃ q n c, v5 = .slice q n c := by
    rcases hown5.2 with ⟨h, _⟩ | ⟨g, cap, cur, h, _⟩
    · exact ⟨_, _, _, h⟩
    · exact ⟨_, _, _, h⟩
  clear hput hb5 hkt hown5 hgrow5 hbb hc hf
  go_wp2
  go_end0
  exact ⟨rfl, ⟨_, HPUT.out⟩, HB5.out, HKT.out⟩
/-- a Nat's digits, put behind those that are there. -/
def natV (vs : Nat → List Value) (x : D) : Nat → List Value := updV vs 0 (vs 0 ++ [x.val])
def natsV (vs : Nat → List Value) (xs : List D) : Nat → List Value := xs.foldl natV vs
theorem natsV_snoc (vs : Nat → List Value) (xs : List D) (x : D) : natV (natsV vs xs) x = natsV vs (xs ++ [x]) := by unfold natsV; rw [List.foldl_append]; rfl
theorem natsV_at : ∀ (xs : List D) (vs : Nat → List Value), natsV vs xs 0 = vs 0 ++ xs.map D.val ∧ ∀ j, j ≠ 0 → natsV vs xs j = vs j
  | [], vs => by simp [natsV]
  | x :: xs, vs => by
    obtain ⟨a, b⟩ := natsV_at xs (natV vs x)
    have e : natsV vs (x :: xs) = natsV (natV vs x) xs := rfl
    rw [e, a]
    refine ⟨by unfold natV; rw [updV_same]; simp, fun j hj => by rw [b j hj]; unfold natV; rw [updV_ne _ _ hj]⟩
set_option maxHeartbeats 1600000 in
set_option maxRecDepth 100000 in
theorem oneNat_v (Bb B : Nat) (s : Nat → Value) (vs : Nat → List Value) (p : Option Addr) (n c : Nat) (w : World) (hB : B ≤ w.heap.size) (h : BagV w Bb B s vs) (hl : (vs 0).length ≤ 1000000) :
    Calls Tryz.prog 77 #[.pointer (some ⟨Bb, 0, none⟩), .agg #[.slice p n c]] w (PutsV B Bb w vs (updV vs 0 (vs 0 ++ [.slice p n c]))) := by
  obtain ⟨W1, hW1⟩ : ∃ W, W = w.alloc (.cells #[.slice p n c] 24) := ⟨_, rfl⟩
  obtain ⟨b0, hb0⟩ : ∃ b, b = w.heap.size := ⟨_, rfl⟩
  have hb1 : Below w.heap.size w W1 := by rw [hW1]; exact bl_alloc _ _
  have hX : Bx W1 b0 24 #[.slice p n c] := by rw [hW1, hb0]; exact Bx.new _ _ _
  have HP := Lib.hid (putLimbs_v Bb B s vs p n c W1 (h.below hb1) hl)
  have HB1 := Lib.hid (hb1.mono hB)
  have HK1 : Hid (KeepT Bb w W1) := KeepT.of hb1
  have HW1 := Lib.hid (And.intro hb0.symm hW1.symm)
  have c0 := hX.cell (i := 0) rfl
  clear hb1 hX hW1 hb0 h hl
  go_enter Tryz.func77, Tryz.ntmps77
  go_upto_region 1 with fail
  rw [HW1.out.1, HW1.out.2]
  go_wp2_with fail
  refine HP.out.mono ?_
  rintro e w2 ⟨rfl, hbag, hb2, hk2⟩
  have HG := Lib.hid hbag
  have HB2 := Lib.hid (HB1.out.trans hb2)
  have HK2 := Lib.hid (HK1.out.trans hk2)
  clear hbag hb2 hk2 HP
  go_wp2
  go_end0
  exact ⟨rfl, HG.out, HB2.out, HK2.out⟩
theorem finfoSNats : (Tryz.prog.info? 38).map (fun i => (i.zero, i.size, i.bytes)) = some (some (.slice none 0 0), 1, 24) := by kernel_rfl
set_option maxHeartbeats 1600000 in
set_option maxRecDepth 100000 in
theorem putNats_v (Bb : Nat) (s : Nat → Value) (vs : Nat → List Value) (p : Option Addr) (n c : Nat) (xs : List D) (w0 w : World) (hn : n = xs.length) (h : BagV w Bb w0.heap.size s vs) (hx : SlD w0 p xs) (hb0 : Below w0.heap.size w0 w) (hl : (vs 7).length ≤ 1000000) (h0 : (vs 0).length + n ≤ 1000000) :
    Calls Tryz.prog 48 #[.pointer (some ⟨Bb, 0, none⟩), .slice p n c] w (PutsV w0.heap.size Bb w vs (natsV (updV vs 7 (vs 7 ++ [.slice p n c])) xs)) := by
  obtain ⟨i0, hinf, hz0, hz1, hz2⟩ := finfo_parts finfoSNats
  have HB := Lib.hid h
  have HL := Lib.hid hl
  obtain ⟨si, hsi⟩ : ∃ z, z = s 7 := ⟨_, rfl⟩
  have hc := h.cell 7 (by decide)
  have hf := h.free 7 (by decide)
  rw [← hsi] at hc
  have HBW := Lib.hid h.lt
  have HSI := Lib.hid hsi
  have HBG : Hid (BagV (w.alloc (.cells #[.slice p n c] 38)) Bb w0.heap.size s vs) := h.below ((Below.refl _ _).alloc (Nat.le_refl _) _)
  have HRO := Lib.hid (h.row 7 (by decide))
  have hrow := HBG.out.row 7 (by decide)
  rw [← hsi] at hrow
  have HRW := Lib.hid hrow
  have HX := Lib.hid hx
  have HN := Lib.hid hn
  have HB0 := Lib.hid hb0
  have HLL := Lib.hid h0
  have hnI : (n : Int) ≤ 1000000 := by omega
  clear h hl hsi hrow hx hn hb0 h0
  go_enter Tryz.func48, Tryz.ntmps48
  go_wp2_with (at_builtin; refine wpList_append_own _ rfl _ _ 39 rfl (Bb + 1) 38 i0 (.slice none 0 0) 1 24 Tryz.underlying39 hinf hz0 hz1 hz2 rfl (by decide) si (vs 7).length _ rfl HRW.out ⟨w.heap.size, 0, none⟩ 1 1 [.slice p n c] rfl rfl (cells_one_z _ _ _) (by simp [Value.oneCell']) (by have := HL.out; simp only [maxLen]; omega) (by have := HL.out; omega) (by have := HBW.out; simp; omega) ?_)
  intro v5 w5 hown5 hgrow5 _
  have hput := HBG.out.put (i := 7) (by decide) (by rw [← HSI.out]; exact hgrow5) hown5
  have hbb : w5.heap[Bb]? = w.heap[Bb]? := (hgrow5.block Bb (by have := HBW.out; simp; omega) (fun e => row_not HRW.out e.symm)).trans (Below.heap_alloc _ _ _ HBW.out)
  have hc5 : w5.cell? ⟨Bb, 7, none⟩ = some si := by rw [World.cell?_of_block (w := w) (w' := w5) (a := ⟨Bb, 7, none⟩) hbb]; exact hc
  have hf5 : w5.frozen? ⟨Bb, 7, none⟩ = false := by rw [World.frozen?_of_block (w := w) (w' := w5) (a := ⟨Bb, 7, none⟩) hbb]; exact hf
  have hkt : KeepT Bb w (w5.setCell ⟨Bb, 7, none⟩ v5) := fun b T cs hne hT hb => by
    have h1 : Bx (w.alloc (.cells #[.slice p n c] 38)) b T cs := hb.below ((Below.refl _ _).alloc (Nat.le_refl _) _)
    exact (h1.kept hgrow5 (fun e => row_ne HRW.out h1 (hT 7 (by decide)) e.symm)).other (a := ⟨Bb, 7, none⟩) hne v5
  have hb5 : Below w0.heap.size w (w5.setCell ⟨Bb, 7, none⟩ v5) := by
    refine Below.setCell (((Below.refl w0.heap.size w).alloc (by have := HBW.out; have := HB.out.base; omega) _).grown hgrow5 (by have := HBW.out; have := HB.out.base; simp; omega) (fun k hk => ?_)) HB.out.base v5
    have := (HRO.out.lt k (by rw [← HSI.out]; exact hk)).1
    have := HB.out.base
    omega
  have HPUT := Lib.hid hput
  have HB5 := Lib.hid hb5
  have HKT := Lib.hid hkt
  obtain ⟨q5, n5, c5, rfl⟩ : ∃ q n c, v5 = .slice q n c := by
    rcases hown5.2 with ⟨h, _⟩ | ⟨g, cap, cur, h, _⟩
    · exact ⟨_, _, _, h⟩
    · exact ⟨_, _, _, h⟩
  clear hput hb5 hkt hown5 hgrow5 hbb hc hf
  obtain ⟨V, hV⟩ : ∃ V, V = updV vs 7 (vs 7 ++ [.slice p n c]) := ⟨_, rfl⟩
  have HVL : Hid ((V 0).length + n ≤ 1000000) := by rw [hV, updV_ne _ _ (by decide)]; exact HLL.out
  rw [← hV] at HPUT
  have HVE := Lib.hid hV
  clear hV
  go_wp2
  go_loopw [4] (fun iv wr => ∃ (k : Nat), k ≤ n ∧ iv = .int .i64 (k : Nat) ∧ Hid (∃ s' U, BagV wr Bb w0.heap.size s' U ∧ U = natsV V (xs.take k) ∧ (U 0).length + (n - k) ≤ 1000000) ∧ Hid (Below w0.heap.size w wr) ∧ Hid (KeepT Bb w wr)) (fun iv _ => n - (intOf iv).toNat)
  case atStart => exact ⟨0, Nat.zero_le _, rfl, ⟨_, _, HPUT.out, by rw [List.take_zero]; rfl, HVL.out⟩, HB5.out, HKT.out⟩
  case round =>
    obtain ⟨k, hk, rfl, HG, HBR, HKR⟩ := hrel
    rename World => wr
    clear HPUT hc5 hf5
    by_cases hkn : k < n
    · have hkx : k < xs.length := by have := HN.out; omega
      obtain ⟨bp, op, rfl, c0, _, _⟩ := slD_at HX.out hkx
      have hbw := HB0.out.trans HBR.out
      have d0 := hbw.cell (World.block_lt_of_cell? _ _ c0)
      rw [c0] at d0
      have hkI : (k : Int) < n := by omega
      obtain ⟨s', U, hg, hU, e0⟩ := HG.out
      obtain ⟨x, hx⟩ : ∃ x, x = dg xs k := ⟨_, rfl⟩
      rw [← hx] at d0
      have hxt : xs.take (k + 1) = xs.take k ++ [x] := by
        rw [List.take_add_one, List.getElem?_eq_getElem hkx, hx]
        unfold dg
        rw [List.getD_eq_getElem?_getD, List.getElem?_eq_getElem hkx]; rfl
      have HNX : Hid (natV U x = natsV V (xs.take (k + 1)) ∧ (natV U x 0).length + (n - (k + 1)) ≤ 1000000) := by
        refine ⟨by rw [hU, natsV_snoc, ← hxt], ?_⟩
        unfold natV
        rw [updV_same, List.length_append, List.length_singleton]; omega
      obtain ⟨xp, xn, xc⟩ := x
      simp only [D.val] at d0
      have hone := oneNat_v Bb w0.heap.size s' U (D.ad ⟨xp, xn, xc⟩) xn xc wr hbw.size hg (by omega)
      obtain ⟨ad, had⟩ : ∃ a, a = D.ad ⟨xp, xn, xc⟩ := ⟨_, rfl⟩
      rw [← had] at d0 hone
      have HAD := Lib.hid had
      have HONE := Lib.hid hone
      have HKN := Lib.hid hkn
      clear hkx hkn hx hone hg hU e0 hbw c0 hxt had
      go_wp2_with fail
      refine HONE.out.mono ?_
      rintro e w6 ⟨rfl, ⟨s6, hbag⟩, hb6, hk6⟩
      have HBAG : Hid (BagV w6 Bb w0.heap.size s6 (natV U ⟨xp, xn, xc⟩)) := by rw [HAD.out] at hbag; exact hbag
      have HB6 := Lib.hid (HBR.out.trans hb6)
      have HK6 := Lib.hid (HKR.out.trans hk6)
      clear hbag hb6 hk6 HONE d0
      go_wp2
      go_roundw
      case rel => exact ⟨k + 1, by have := HKN.out; omega, by go_num, ⟨s6, _, HBAG.out, HNX.out⟩, HB6.out, HK6.out⟩
      case measure => have := HKN.out; simp [intOf]; omega
    · have hkI : (n : Int) ≤ k := by omega
      obtain rfl : k = n := by omega
      go_wp2
      go_end0
      refine ⟨rfl, ?_, HBR.out, HKR.out⟩
      obtain ⟨s', U, hg, hU, _⟩ := HG.out
      rw [List.take_of_length_le (by rw [← HN.out]; exact Nat.le_refl _), HVE.out] at hU
      rw [hU] at hg
      exact ⟨s', hg⟩
end Go.Proofs.YtcahnkocfbcchaaGreatDoor

