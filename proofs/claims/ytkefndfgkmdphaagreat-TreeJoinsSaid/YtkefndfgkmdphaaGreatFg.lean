import Derived.Test.YtkefndfgkmdphaaGreatFi
import Derived.Test.YtkefndfgkmdphaaGreatFb
import Derived.Test.YtkefndfgkmdphaaGreatFts
import Derived.Test.YtkefndfgkmdphaaGreatJt

namespace Go.Proofs.YtkefndfgkmdphaaGreat
set_option maxHeartbeats 3200000
set_option maxRecDepth 100000
open Go.RowKit Tnr Tnt

def tyB : Nat → TypeId
 | 0 => 169
 | 1 => 171
 | 2 => 24
 | 3 => 173
 | 4 => 32
 | 5 => 162
 | 6 => 175
 | 7 => 176
 | 8 => 23
 | 9 => 181
 | 10 => 185
 | 11 => 190
 | 12 => 31
 | 13 => 29
 | 14 => 195
 | 15 => 201
 | 16 => 206
 | 17 => 211
 | 18 => 215
 | 19 => 220
 | _ => 0
theorem tyB_ne {i j : Nat} (hi : i < 20) (hj : j < 20) (h : i ≠ j) : tyB i ≠ tyB j := by
 have k : ((List.range 20).all fun i => (List.range 20).all fun j => i == j || tyB i != tyB j) = true := by decide
 have := (List.all_eq_true.1 ((List.all_eq_true.1 k) i (List.mem_range.2 hi))) j (List.mem_range.2 hj)
 simpa [h] using this
def updV {α : Type} (f : Nat → α) (i : Nat) (u : α) : Nat → α := fun k => if k = i then u else f k
theorem updV_same {α : Type} (f : Nat → α) (i : Nat) (u : α) : updV f i u i = u := if_pos rfl
theorem updV_ne {α : Type} (f : Nat → α) {i k : Nat} (u : α) (h : k ≠ i) : updV f i u k = f k := if_neg h
structure BagV (w : World) (Bb B : Nat) (s : Nat → Value) (vs : Nat → List Value) : Prop where
 cell : ∀ j, j < 20 → w.cell? ⟨Bb, j, none⟩ = some (s j)
 free : ∀ j, j < 20 → w.frozen? ⟨Bb, j, none⟩ = false
 row : ∀ j, j < 20 → w.ownsRow (Bb + 1) (tyB j) 1 (s j) (vs j).length (vs j)
 base : B ≤ Bb
 nil : ∀ j, j < 20 → vs j = [] → s j = .slice none 0 0
theorem BagV.lt {w : World} {Bb B : Nat} {s : Nat → Value} {vs : Nat → List Value} (h : BagV w Bb B s vs) : Bb < w.heap.size := World.block_lt_of_cell? w _ (h.cell 0 (by decide))
theorem BagV.below {w w' : World} {Bb B : Nat} {s : Nat → Value} {vs : Nat → List Value} (h : BagV w Bb B s vs) (hb : Below w.heap.size w w') : BagV w' Bb B s vs := by
 have hbb := hb.block Bb h.lt
 refine ⟨fun j hj => ?_, fun j hj => ?_, fun j hj => row_below (h.row j hj) hb, h.base, h.nil⟩
 ·rw [World.cell?_of_block (w := w) (w' := w') (a := ⟨Bb, j, none⟩) hbb]; exact h.cell j hj
 ·rw [World.frozen?_of_block (w := w) (w' := w') (a := ⟨Bb, j, none⟩) hbb]; exact h.free j hj
theorem row_not {w : World} {Bb n : Nat} {T : TypeId} {s : Value} {vs : List Value} (h : w.ownsRow (Bb + 1) T 1 s n vs) : s.ownBlock ≠ some Bb := fun e => by have := (h.lt Bb e).1; omega
theorem BagV.put {w w' : World} {Bb B i : Nat} {s : Nat → Value} {vs : Nat → List Value} {s' x : Value} (h : BagV w Bb B s vs) (hi : i < 20) (hg : w.grownBy w' (s i).ownBlock) (ho : w'.ownsRow (Bb + 1) (tyB i) 1 s' ((vs i).length + 1) (vs i ++ [x])) :
  BagV (w'.setCell ⟨Bb, i, none⟩ s') Bb B (updV s i s') (updV vs i (vs i ++ [x])) := by
 have hbb : w'.heap[Bb]? = w.heap[Bb]? := hg.block Bb h.lt (fun e => row_not (h.row i hi) e.symm)
 refine ⟨fun j hj => ?_, fun j hj => ?_, fun j hj => ?_, h.base, fun j hj hn => by
  by_cases e : j = i
  ·subst e; rw [updV_same] at hn; simp at hn
  ·rw [updV_ne _ _ e] at hn ⊢; exact h.nil j hj hn⟩
 ·by_cases e : j = i
  ·subst e
   rw [updV_same]
   exact World.cell?_setCell_same' _ _ _ (by rw [World.cell?_of_block (w := w) (w' := w') (a := ⟨Bb, j, none⟩) hbb, h.cell j hj]; rfl)
  ·rw [updV_ne _ _ e, World.cell?_setCell_other (w := w') (a := ⟨Bb, i, none⟩) (b := ⟨Bb, j, none⟩) (v := s') (h := by intro e2; simp only [Addr.mk.injEq, true_and, and_true] at e2; omega), World.cell?_of_block (w := w) (w' := w') (a := ⟨Bb, j, none⟩) hbb]
   exact h.cell j hj
 ·rw [World.frozen?_setCell, World.frozen?_of_block (w := w) (w' := w') (a := ⟨Bb, j, none⟩) hbb]; exact h.free j hj
 ·by_cases e : j = i
  ·subst e
   rw [updV_same, updV_same, List.length_append]
   exact ownsRow_setCell_other (a := ⟨Bb, j, none⟩) ho (row_not ho) _
  ·rw [updV_ne _ _ e, updV_ne _ _ e]
   have hk : w'.ownsRow (Bb + 1) (tyB j) 1 (s j) (vs j).length (vs j) := kept_beside (h.row j hj) (h.row i hi) (tyB_ne hj hi e) hg
   exact ownsRow_setCell_other (a := ⟨Bb, i, none⟩) hk (row_not hk) _
def KeepT (Bb : Nat) (w w' : World) : Prop := ∀ b T cs, b ≠ Bb → (∀ j, j < 20 → T ≠ tyB j) → Bx w b T cs → Bx w' b T cs
theorem KeepT.of {Bb : Nat} {w w' : World} (h : Below w.heap.size w w') : KeepT Bb w w' := fun _ _ _ _ _ k => k.below h
theorem KeepT.trans {Bb : Nat} {w w' w'' : World} (h : KeepT Bb w w') (k : KeepT Bb w' w'') : KeepT Bb w w'' := fun b T cs h1 h2 h3 => k b T cs h1 h2 (h b T cs h1 h2 h3)
def PutsV (B Bb : Nat) (w : World) (_vs vs' : Nat → List Value) (e : Ending) (w' : World) : Prop := e = .returned (.tuple #[]) ∧ (∃ s', BagV w' Bb B s' vs') ∧ Below B w w' ∧ KeepT Bb w w'
theorem finfoSRanges : (Tryz.prog.info? 23).map (fun i => (i.zero, i.size, i.bytes)) = some (some (.slice none 0 0), 1, 24) := by kernel_rfl
theorem putRanges_v (Bb B : Nat) (s : Nat → Value) (vs : Nat → List Value) (p : Option Addr) (n c : Nat) (w : World) (h : BagV w Bb B s vs) (hl : (vs 8).length ≤ 1000000) :
  Calls Tryz.prog 216 #[.pointer (some ⟨Bb, 0, none⟩), .slice p n c] w (PutsV B Bb w vs (updV vs 8 (vs 8 ++ [.slice p n c]))) := by
 obtain ⟨i0, hinf, hz0, hz1, hz2⟩ := finfo_parts finfoSRanges
 have HB := lh h
 have HL := lh hl
 obtain ⟨si, hsi⟩ : ∃ z, z = s 8 := ⟨_, rfl⟩
 have hc := h.cell 8 (by decide)
 have hf := h.free 8 (by decide)
 rw [← hsi] at hc
 have HBW := lh h.lt
 have HSI := lh hsi
 have HBG : Hid (BagV (w.alloc (.cells #[.slice p n c] 23)) Bb B s vs) := h.below ((Below.refl _ _).alloc (Nat.le_refl _) _)
 have HRO := lh (h.row 8 (by decide))
 have hrow := HBG.out.row 8 (by decide)
 rw [← hsi] at hrow
 have HRW := lh hrow
 clear h hl hsi hrow
 go_enter Tryz.func216, Tryz.ntmps216
 go_wp2_with (at_builtin; refine wpList_append_own _ rfl _ _ 83 rfl (Bb + 1) 23 i0 (.slice none 0 0) 1 24 Tryz.underlying83 hinf hz0 hz1 hz2 rfl (by decide) si (vs 8).length _ rfl HRW.out ⟨w.heap.size, 0, none⟩ 1 1 [.slice p n c] rfl rfl (cells_one_z _ _ _) (by simp [Value.oneCell']) (by have := HL.out; simp only [maxLen]; omega) (by have := HL.out; omega) (by have := HBW.out; simp; omega) ?_)
 intro v5 w5 hown5 hgrow5 _
 have hput := HBG.out.put (i := 8) (by decide) (by rw [← HSI.out]; exact hgrow5) hown5
 have hbb : w5.heap[Bb]? = w.heap[Bb]? := (hgrow5.block Bb (by have := HBW.out; simp; omega) (fun e => row_not HRW.out e.symm)).trans (Below.heap_alloc _ _ _ HBW.out)
 have hc5 : w5.cell? ⟨Bb, 8, none⟩ = some si := by rw [World.cell?_of_block (w := w) (w' := w5) (a := ⟨Bb, 8, none⟩) hbb]; exact hc
 have hf5 : w5.frozen? ⟨Bb, 8, none⟩ = false := by rw [World.frozen?_of_block (w := w) (w' := w5) (a := ⟨Bb, 8, none⟩) hbb]; exact hf
 have hkt : KeepT Bb w (w5.setCell ⟨Bb, 8, none⟩ v5) := fun b T cs hne hT hb => by
  have h1 : Bx (w.alloc (.cells #[.slice p n c] 23)) b T cs := hb.below ((Below.refl _ _).alloc (Nat.le_refl _) _)
  exact (h1.kept hgrow5 (fun e => row_ne HRW.out h1 (hT 8 (by decide)) e.symm)).other (a := ⟨Bb, 8, none⟩) hne v5
 have hb5 : Below B w (w5.setCell ⟨Bb, 8, none⟩ v5) := by
  refine Below.setCell (((Below.refl B w).alloc (by have := HBW.out; have := HB.out.base; omega) _).grown hgrow5 (by have := HBW.out; have := HB.out.base; simp; omega) (fun k hk => ?_)) HB.out.base v5
  have := (HRO.out.lt k (by rw [← HSI.out]; exact hk)).1
  have := HB.out.base
  omega
 have HPUT := lh hput
 have HB5 := lh hb5
 have HKT := lh hkt
 obtain ⟨q5, n5, c5, rfl⟩ : ∃ q n c, v5 = .slice q n c := by
  rcases hown5.2 with ⟨h, _⟩ | ⟨g, cap, cur, h, _⟩
  ·exact ⟨_, _, _, h⟩
  ·exact ⟨_, _, _, h⟩
 clear hput hb5 hkt hown5 hgrow5 hbb hc hf
 go_wp2
 go_end0
 exact ⟨rfl, ⟨_, HPUT.out⟩, HB5.out, HKT.out⟩
theorem finfoSInts : (Tryz.prog.info? 24).map (fun i => (i.zero, i.size, i.bytes)) = some (some (.slice none 0 0), 1, 24) := by kernel_rfl
theorem putInts_v (Bb B : Nat) (s : Nat → Value) (vs : Nat → List Value) (p : Option Addr) (n c : Nat) (w : World) (h : BagV w Bb B s vs) (hl : (vs 2).length ≤ 1000000) :
  Calls Tryz.prog 217 #[.pointer (some ⟨Bb, 0, none⟩), .slice p n c] w (PutsV B Bb w vs (updV vs 2 (vs 2 ++ [.slice p n c]))) := by
 obtain ⟨i0, hinf, hz0, hz1, hz2⟩ := finfo_parts finfoSInts
 have HB := lh h
 have HL := lh hl
 obtain ⟨si, hsi⟩ : ∃ z, z = s 2 := ⟨_, rfl⟩
 have hc := h.cell 2 (by decide)
 have hf := h.free 2 (by decide)
 rw [← hsi] at hc
 have HBW := lh h.lt
 have HSI := lh hsi
 have HBG : Hid (BagV (w.alloc (.cells #[.slice p n c] 24)) Bb B s vs) := h.below ((Below.refl _ _).alloc (Nat.le_refl _) _)
 have HRO := lh (h.row 2 (by decide))
 have hrow := HBG.out.row 2 (by decide)
 rw [← hsi] at hrow
 have HRW := lh hrow
 clear h hl hsi hrow
 go_enter Tryz.func217, Tryz.ntmps217
 go_wp2_with (at_builtin; refine wpList_append_own _ rfl _ _ 77 rfl (Bb + 1) 24 i0 (.slice none 0 0) 1 24 Tryz.underlying77 hinf hz0 hz1 hz2 rfl (by decide) si (vs 2).length _ rfl HRW.out ⟨w.heap.size, 0, none⟩ 1 1 [.slice p n c] rfl rfl (cells_one_z _ _ _) (by simp [Value.oneCell']) (by have := HL.out; simp only [maxLen]; omega) (by have := HL.out; omega) (by have := HBW.out; simp; omega) ?_)
 intro v5 w5 hown5 hgrow5 _
 have hput := HBG.out.put (i := 2) (by decide) (by rw [← HSI.out]; exact hgrow5) hown5
 have hbb : w5.heap[Bb]? = w.heap[Bb]? := (hgrow5.block Bb (by have := HBW.out; simp; omega) (fun e => row_not HRW.out e.symm)).trans (Below.heap_alloc _ _ _ HBW.out)
 have hc5 : w5.cell? ⟨Bb, 2, none⟩ = some si := by rw [World.cell?_of_block (w := w) (w' := w5) (a := ⟨Bb, 2, none⟩) hbb]; exact hc
 have hf5 : w5.frozen? ⟨Bb, 2, none⟩ = false := by rw [World.frozen?_of_block (w := w) (w' := w5) (a := ⟨Bb, 2, none⟩) hbb]; exact hf
 have hkt : KeepT Bb w (w5.setCell ⟨Bb, 2, none⟩ v5) := fun b T cs hne hT hb => by
  have h1 : Bx (w.alloc (.cells #[.slice p n c] 24)) b T cs := hb.below ((Below.refl _ _).alloc (Nat.le_refl _) _)
  exact (h1.kept hgrow5 (fun e => row_ne HRW.out h1 (hT 2 (by decide)) e.symm)).other (a := ⟨Bb, 2, none⟩) hne v5
 have hb5 : Below B w (w5.setCell ⟨Bb, 2, none⟩ v5) := by
  refine Below.setCell (((Below.refl B w).alloc (by have := HBW.out; have := HB.out.base; omega) _).grown hgrow5 (by have := HBW.out; have := HB.out.base; simp; omega) (fun k hk => ?_)) HB.out.base v5
  have := (HRO.out.lt k (by rw [← HSI.out]; exact hk)).1
  have := HB.out.base
  omega
 have HPUT := lh hput
 have HB5 := lh hb5
 have HKT := lh hkt
 obtain ⟨q5, n5, c5, rfl⟩ : ∃ q n c, v5 = .slice q n c := by
  rcases hown5.2 with ⟨h, _⟩ | ⟨g, cap, cur, h, _⟩
  ·exact ⟨_, _, _, h⟩
  ·exact ⟨_, _, _, h⟩
 clear hput hb5 hkt hown5 hgrow5 hbb hc hf
 go_wp2
 go_end0
 exact ⟨rfl, ⟨_, HPUT.out⟩, HB5.out, HKT.out⟩
theorem finfoSTexts : (Tryz.prog.info? 32).map (fun i => (i.zero, i.size, i.bytes)) = some (some (.slice none 0 0), 1, 24) := by kernel_rfl
theorem putTexts_v (Bb B : Nat) (s : Nat → Value) (vs : Nat → List Value) (p : Option Addr) (n c : Nat) (w : World) (h : BagV w Bb B s vs) (hl : (vs 4).length ≤ 1000000) :
  Calls Tryz.prog 128 #[.pointer (some ⟨Bb, 0, none⟩), .slice p n c] w (PutsV B Bb w vs (updV vs 4 (vs 4 ++ [.slice p n c]))) := by
 obtain ⟨i0, hinf, hz0, hz1, hz2⟩ := finfo_parts finfoSTexts
 have HB := lh h
 have HL := lh hl
 obtain ⟨si, hsi⟩ : ∃ z, z = s 4 := ⟨_, rfl⟩
 have hc := h.cell 4 (by decide)
 have hf := h.free 4 (by decide)
 rw [← hsi] at hc
 have HBW := lh h.lt
 have HSI := lh hsi
 have HBG : Hid (BagV (w.alloc (.cells #[.slice p n c] 32)) Bb B s vs) := h.below ((Below.refl _ _).alloc (Nat.le_refl _) _)
 have HRO := lh (h.row 4 (by decide))
 have hrow := HBG.out.row 4 (by decide)
 rw [← hsi] at hrow
 have HRW := lh hrow
 clear h hl hsi hrow
 go_enter Tryz.func128, Tryz.ntmps128
 go_wp2_with (at_builtin; refine wpList_append_own _ rfl _ _ 79 rfl (Bb + 1) 32 i0 (.slice none 0 0) 1 24 Tryz.underlying79 hinf hz0 hz1 hz2 rfl (by decide) si (vs 4).length _ rfl HRW.out ⟨w.heap.size, 0, none⟩ 1 1 [.slice p n c] rfl rfl (cells_one_z _ _ _) (by simp [Value.oneCell']) (by have := HL.out; simp only [maxLen]; omega) (by have := HL.out; omega) (by have := HBW.out; simp; omega) ?_)
 intro v5 w5 hown5 hgrow5 _
 have hput := HBG.out.put (i := 4) (by decide) (by rw [← HSI.out]; exact hgrow5) hown5
 have hbb : w5.heap[Bb]? = w.heap[Bb]? := (hgrow5.block Bb (by have := HBW.out; simp; omega) (fun e => row_not HRW.out e.symm)).trans (Below.heap_alloc _ _ _ HBW.out)
 have hc5 : w5.cell? ⟨Bb, 4, none⟩ = some si := by rw [World.cell?_of_block (w := w) (w' := w5) (a := ⟨Bb, 4, none⟩) hbb]; exact hc
 have hf5 : w5.frozen? ⟨Bb, 4, none⟩ = false := by rw [World.frozen?_of_block (w := w) (w' := w5) (a := ⟨Bb, 4, none⟩) hbb]; exact hf
 have hkt : KeepT Bb w (w5.setCell ⟨Bb, 4, none⟩ v5) := fun b T cs hne hT hb => by
  have h1 : Bx (w.alloc (.cells #[.slice p n c] 32)) b T cs := hb.below ((Below.refl _ _).alloc (Nat.le_refl _) _)
  exact (h1.kept hgrow5 (fun e => row_ne HRW.out h1 (hT 4 (by decide)) e.symm)).other (a := ⟨Bb, 4, none⟩) hne v5
 have hb5 : Below B w (w5.setCell ⟨Bb, 4, none⟩ v5) := by
  refine Below.setCell (((Below.refl B w).alloc (by have := HBW.out; have := HB.out.base; omega) _).grown hgrow5 (by have := HBW.out; have := HB.out.base; simp; omega) (fun k hk => ?_)) HB.out.base v5
  have := (HRO.out.lt k (by rw [← HSI.out]; exact hk)).1
  have := HB.out.base
  omega
 have HPUT := lh hput
 have HB5 := lh hb5
 have HKT := lh hkt
 obtain ⟨q5, n5, c5, rfl⟩ : ∃ q n c, v5 = .slice q n c := by
  rcases hown5.2 with ⟨h, _⟩ | ⟨g, cap, cur, h, _⟩
  ·exact ⟨_, _, _, h⟩
  ·exact ⟨_, _, _, h⟩
 clear hput hb5 hkt hown5 hgrow5 hbb hc hf
 go_wp2
 go_end0
 exact ⟨rfl, ⟨_, HPUT.out⟩, HB5.out, HKT.out⟩
def nodeV (vs : Nat → List Value) (x : NV) : Nat → List Value := updV (updV vs 8 (vs 8 ++ [.slice x.ps x.nd.set.length x.cs])) 2 (vs 2 ++ [.slice x.pk x.nd.kids.length x.ck])
def nodesV (vs : Nat → List Value) (xs : List NV) : Nat → List Value := updV (updV vs 8 (vs 8 ++ xs.map fun x => .slice x.ps x.nd.set.length x.cs)) 2 (vs 2 ++ xs.map fun x => .slice x.pk x.nd.kids.length x.ck)
theorem nodesV_nil (vs : Nat → List Value) : nodesV vs [] = vs := by
 funext k
 unfold nodesV updV
 simp only [List.map_nil, List.append_nil]
 split
 ·rename_i h; rw [h]
 ·split
  ·rename_i h; rw [h]
  ·rfl
theorem nodesV_snoc (vs : Nat → List Value) (xs : List NV) (x : NV) : nodeV (nodesV vs xs) x = nodesV vs (xs ++ [x]) := by
 funext k
 unfold nodeV nodesV updV
 by_cases h2 : k = 2
 ·subst h2; simp
 ·by_cases h8 : k = 8
  ·subst h8; simp
  ·simp [h2, h8]
theorem nodesV_at (vs : Nat → List Value) (xs : List NV) : nodesV vs xs 8 = vs 8 ++ xs.map (fun x => .slice x.ps x.nd.set.length x.cs) ∧ nodesV vs xs 2 = vs 2 ++ xs.map (fun x => .slice x.pk x.nd.kids.length x.ck) ∧ ∀ j, j ≠ 8 → j ≠ 2 → nodesV vs xs j = vs j :=
 ⟨by unfold nodesV; rw [updV_ne _ _ (by decide), updV_same], by unfold nodesV; rw [updV_same], fun j h1 h2 => by unfold nodesV; rw [updV_ne _ _ h2, updV_ne _ _ h1]⟩
theorem oneNode_v (Bb B : Nat) (s : Nat → Value) (vs : Nat → List Value) (x : NV) (w : World) (h : BagV w Bb B s vs) (h8 : (vs 8).length ≤ 1000000) (h2 : (vs 2).length ≤ 1000000) :
  Calls Tryz.prog 178 #[.pointer (some ⟨Bb, 0, none⟩), .agg (encN x).toArray] w (PutsV B Bb w vs (nodeV vs x)) := by
 obtain ⟨W1, hW1⟩ : ∃ W, W = w.alloc (.cells (encN x).toArray 28) := ⟨_, rfl⟩
 obtain ⟨b0, hb0⟩ : ∃ b, b = w.heap.size := ⟨_, rfl⟩
 have hb1 : Below w.heap.size w W1 := by rw [hW1]; exact bl_alloc _ _
 have hX : Bx W1 b0 28 (encN x).toArray := by rw [hW1, hb0]; exact Bx.new _ _ _
 obtain ⟨ls, hls⟩ : ∃ n, n = x.nd.set.length := ⟨_, rfl⟩
 obtain ⟨lk, hlk⟩ : ∃ n, n = x.nd.kids.length := ⟨_, rfl⟩
 have hen : (encN x).toArray = #[.int .u8 x.nd.kind, .slice x.ps ls x.cs, .slice x.pk lk x.ck, .int .i64 x.nd.group, .int .i64 x.nd.mn, .int .i64 x.nd.mx, .int .u8 x.nd.mode, .int .u8 x.nd.spot, .bool x.nd.neg] := by rw [hls, hlk]; rfl
 have HP1 := lh (putRanges_v Bb B s vs x.ps ls x.cs W1 (h.below hb1) h8)
 rw [hen] at hX hW1 ⊢
 have HX := lh hX
 have HL := lh (And.intro hls hlk)
 have HLT := lh (show B ≤ w.heap.size by have := h.base; have := h.lt; omega)
 have HB1 := lh hb1
 have HW1 := lh (And.intro hb0.symm hW1.symm)
 have HH2 := lh h2
 have HBL := lh (show Bb < b0 by rw [hb0]; exact h.lt)
 clear hb1 hX hls hlk hen hW1 hb0 h h8 h2
 go_enter Tryz.func178, Tryz.ntmps178
 go_upto_region 1 with fail
 rw [HW1.out.1, HW1.out.2]
 obtain ⟨c0, c1, c2, _⟩ := nine HX.out
 go_wp2_with fail
 refine HP1.out.mono ?_
 rintro e w2 ⟨rfl, ⟨s', hbag⟩, hb2, hk2⟩
 have hX2 := hk2 b0 _ _ (by have := HBL.out; omega) (by decide) HX.out
 obtain ⟨d0, d1, d2, _⟩ := nine hX2
 have HP2 := lh (putInts_v Bb B s' (updV vs 8 (vs 8 ++ [.slice x.ps ls x.cs])) x.pk lk x.ck w2 hbag (by rw [updV_ne _ _ (by decide)]; exact HH2.out))
 have HB2 := lh hb2
 have HK2 := lh hk2
 clear hX2 hbag hb2 hk2 c0 c1 c2 HP1
 go_wp2_with fail
 refine HP2.out.mono ?_
 rintro e w3 ⟨rfl, hbag, hb3, hk3⟩
 have HBAG := lh hbag
 have HB3 := lh ((HB1.out.mono HLT.out).trans (HB2.out.trans hb3))
 have HK3 := lh (((KeepT.of HB1.out).trans HK2.out).trans hk3)
 clear hbag hb3 hk3 d0 d1 d2 HP2
 go_wp2
 go_end0
 refine ⟨rfl, ?_, HB3.out, HK3.out⟩
 have h := HBAG.out
 rw [updV_ne (k := 2) _ _ (by decide), HL.out.1, HL.out.2] at h
 exact h
theorem finfoSNodes : (Tryz.prog.info? 31).map (fun i => (i.zero, i.size, i.bytes)) = some (some (.slice none 0 0), 1, 24) := by kernel_rfl
theorem putNodes_v (Bb : Nat) (s : Nat → Value) (vs : Nat → List Value) (p : Option Addr) (n c : Nat) (xs : List NV) (w0 w : World) (hn : n = xs.length) (h : BagV w Bb w0.heap.size s vs) (hx : SlN w0 p xs) (hb0 : Below w0.heap.size w0 w) (hl : (vs 12).length ≤ 1000000) (h8 : (vs 8).length + n ≤ 1000000) (h2 : (vs 2).length + n ≤ 1000000) :
  Calls Tryz.prog 127 #[.pointer (some ⟨Bb, 0, none⟩), .slice p n c] w (PutsV w0.heap.size Bb w vs (nodesV (updV vs 12 (vs 12 ++ [.slice p n c])) xs)) := by
 obtain ⟨i0, hinf, hz0, hz1, hz2⟩ := finfo_parts finfoSNodes
 have HB := lh h
 have HL := lh hl
 obtain ⟨si, hsi⟩ : ∃ z, z = s 12 := ⟨_, rfl⟩
 have hc := h.cell 12 (by decide)
 have hf := h.free 12 (by decide)
 rw [← hsi] at hc
 have HBW := lh h.lt
 have HSI := lh hsi
 have HBG : Hid (BagV (w.alloc (.cells #[.slice p n c] 31)) Bb w0.heap.size s vs) := h.below ((Below.refl _ _).alloc (Nat.le_refl _) _)
 have HRO := lh (h.row 12 (by decide))
 have hrow := HBG.out.row 12 (by decide)
 rw [← hsi] at hrow
 have HRW := lh hrow
 have HX := lh hx
 have HN := lh hn
 have HB0 := lh hb0
 have HLL := lh (And.intro h8 h2)
 have hnI : (n : Int) ≤ 1000000 := by omega
 clear h hl hsi hrow hx hn hb0 h8 h2
 go_enter Tryz.func127, Tryz.ntmps127
 go_wp2_with (at_builtin; refine wpList_append_own _ rfl _ _ 87 rfl (Bb + 1) 31 i0 (.slice none 0 0) 1 24 Tryz.underlying87 hinf hz0 hz1 hz2 rfl (by decide) si (vs 12).length _ rfl HRW.out ⟨w.heap.size, 0, none⟩ 1 1 [.slice p n c] rfl rfl (cells_one_z _ _ _) (by simp [Value.oneCell']) (by have := HL.out; simp only [maxLen]; omega) (by have := HL.out; omega) (by have := HBW.out; simp; omega) ?_)
 intro v5 w5 hown5 hgrow5 _
 have hput := HBG.out.put (i := 12) (by decide) (by rw [← HSI.out]; exact hgrow5) hown5
 have hbb : w5.heap[Bb]? = w.heap[Bb]? := (hgrow5.block Bb (by have := HBW.out; simp; omega) (fun e => row_not HRW.out e.symm)).trans (Below.heap_alloc _ _ _ HBW.out)
 have hc5 : w5.cell? ⟨Bb, 12, none⟩ = some si := by rw [World.cell?_of_block (w := w) (w' := w5) (a := ⟨Bb, 12, none⟩) hbb]; exact hc
 have hf5 : w5.frozen? ⟨Bb, 12, none⟩ = false := by rw [World.frozen?_of_block (w := w) (w' := w5) (a := ⟨Bb, 12, none⟩) hbb]; exact hf
 have hkt : KeepT Bb w (w5.setCell ⟨Bb, 12, none⟩ v5) := fun b T cs hne hT hb => by
  have h1 : Bx (w.alloc (.cells #[.slice p n c] 31)) b T cs := hb.below ((Below.refl _ _).alloc (Nat.le_refl _) _)
  exact (h1.kept hgrow5 (fun e => row_ne HRW.out h1 (hT 12 (by decide)) e.symm)).other (a := ⟨Bb, 12, none⟩) hne v5
 have hb5 : Below w0.heap.size w (w5.setCell ⟨Bb, 12, none⟩ v5) := by
  refine Below.setCell (((Below.refl w0.heap.size w).alloc (by have := HBW.out; have := HB.out.base; omega) _).grown hgrow5 (by have := HBW.out; have := HB.out.base; simp; omega) (fun k hk => ?_)) HB.out.base v5
  have := (HRO.out.lt k (by rw [← HSI.out]; exact hk)).1
  have := HB.out.base
  omega
 have HPUT := lh hput
 have HB5 := lh hb5
 have HKT := lh hkt
 obtain ⟨q5, n5, c5, rfl⟩ : ∃ q n c, v5 = .slice q n c := by
  rcases hown5.2 with ⟨h, _⟩ | ⟨g, cap, cur, h, _⟩
  ·exact ⟨_, _, _, h⟩
  ·exact ⟨_, _, _, h⟩
 clear hput hb5 hkt hown5 hgrow5 hbb hc hf
 obtain ⟨V, hV⟩ : ∃ V, V = updV vs 12 (vs 12 ++ [.slice p n c]) := ⟨_, rfl⟩
 have HVL : Hid ((V 8).length + n ≤ 1000000 ∧ (V 2).length + n ≤ 1000000) := by
  rw [hV]
  refine ⟨?_, ?_⟩
  ·rw [updV_ne _ _ (by decide)]; exact HLL.out.1
  ·rw [updV_ne _ _ (by decide)]; exact HLL.out.2
 rw [← hV] at HPUT
 have HVE := lh hV
 clear hV
 go_wp2
 go_loopw [4] (fun iv wr => ∃ (k : Nat), k ≤ n ∧ iv = .int .i64 (k : Nat) ∧ Hid (∃ s', BagV wr Bb w0.heap.size s' (nodesV V (xs.take k))) ∧ Hid (Below w0.heap.size w wr) ∧ Hid (KeepT Bb w wr)) (fun iv _ => n - (intOf iv).toNat)
 case atStart => exact ⟨0, Nat.zero_le _, rfl, ⟨_, by rw [List.take_zero, nodesV_nil]; exact HPUT.out⟩, HB5.out, HKT.out⟩
 case round =>
  obtain ⟨k, hk, rfl, HG, HBR, HKR⟩ := hrel
  rename World => wr
  clear HPUT hc5 hf5
  by_cases hkn : k < n
  ·have hkx : k < xs.length := by have := HN.out; omega
   obtain ⟨bp, op, rfl, hcells, -⟩ := (HX.out.below (HB0.out.trans HBR.out)).at hkx
   have hkI : (k : Int) < n := by omega
   obtain ⟨s', hg⟩ := HG.out
   obtain ⟨e8, e2, _⟩ := nodesV_at V (xs.take k)
   have hlt : (xs.take k).length = k := by rw [List.length_take]; omega
   have hone := oneNode_v Bb w0.heap.size s' _ (gn xs k) wr hg (by rw [e8, List.length_append, List.length_map, hlt]; have := HVL.out.1; omega) (by rw [e2, List.length_append, List.length_map, hlt]; have := HVL.out.2; omega)
   rw [nodesV_snoc, ← take_gn hkx] at hone
   obtain ⟨x, hxe⟩ : ∃ x, x = gn xs k := ⟨_, rfl⟩
   rw [← hxe] at hcells hone
   obtain ⟨ls, lk, hls, hlk, hlit⟩ := node_lit2 x
   unfold NodeLit at hlit
   obtain ⟨c0, c1, c2, c3, c4, c5, c6, c7, c8⟩ := hcells
   rw [← hls] at c1
   rw [← hlk] at c2
   rw [hlit] at hone
   have HONE := lh hone
   have HKN := lh hkn
   clear hkx hkn hxe hls hlk hlit hone e8 e2 hlt hg
   go_wp2_with fail
   refine HONE.out.mono ?_
   rintro e w6 ⟨rfl, hbag, hb6, hk6⟩
   have HBAG := lh hbag
   have HB6 := lh (HBR.out.trans hb6)
   have HK6 := lh (HKR.out.trans hk6)
   clear hbag hb6 hk6 HONE c0 c1 c2 c3 c4 c5 c6 c7 c8
   go_wp2
   go_roundw
   case rel => exact ⟨k + 1, by have := HKN.out; omega, by go_num, HBAG.out, HB6.out, HK6.out⟩
   case measure => have := HKN.out; simp [intOf]; omega
  ·have hkI : (n : Int) ≤ k := by omega
   obtain rfl : k = n := by omega
   go_wp2
   go_end0
   refine ⟨rfl, ?_, HBR.out, HKR.out⟩
   have h := HG.out
   rw [List.take_of_length_le (by rw [← HN.out]; exact Nat.le_refl _), HVE.out] at h
   exact h
end Go.Proofs.YtkefndfgkmdphaaGreat
