import Derived.Test.YtkefndfgkmdphaaGreatFi
import Derived.Test.YtkefndfgkmdphaaGreatMn

namespace Go.Proofs.YtkefndfgkmdphaaGreat
set_option maxHeartbeats 3200000
set_option maxRecDepth 100000
open Go.RowKit Tnr Tnt

def seqNd : Nd := ⟨3, [], [], 0, 0, 0, 0, 0, false⟩
def aT : List Nd := joinT (setNd 97) []
def gT : List Nd := joinT (groupNd 1) [aT]
def bT : List Nd := joinT (setNd 98) []
def exT : List Nd := joinT seqNd [gT, bT]
def smallNds (L : List Nd) : Prop := ∀ d ∈ L, d.kids.length ≤ 1000000 ∧ d.set.length ≤ 1000000
theorem small_a : smallNds aT := by unfold smallNds; decide
theorem small_g : smallNds gT := by unfold smallNds; decide
theorem small_b : smallNds bT := by unfold smallNds; decide
theorem TH.few {w : World} {q : Option Addr} {m cq : Nat} {ys : List NV} {L : List Nd} (h : TH w q m cq ys L) (hL : smallNds L) : Few ys := few_nds h.nds hL
theorem TH.leng {w : World} {q : Option Addr} {m cq : Nat} {ys : List NV} {L : List Nd} (h : TH w q m cq ys L) : m = L.length := by rw [h.len, ← h.nds, nds_length]
theorem ne_box {w : World} {b0 b i : Nat} {T : TypeId} {cs : Array Value} {k : IntKind} {z : Int} (hb : Bx w b0 T cs) (hcs : ∀ v ∈ cs.toList, ∀ k z, v ≠ Value.int k z) (h : w.cell? ⟨b, i, none⟩ = some (.int k z)) : b ≠ b0 := by
 rintro rfl
 have h2 : w.cell? ⟨b, i, none⟩ = cs[i]? := by simp [World.cell?, show w.heap[b]? = _ from hb]
 rw [h2] at h
 obtain ⟨hi, e⟩ := Array.getElem?_eq_some_iff.1 h
 exact hcs _ (by rw [← e]; simp) k z rfl
theorem slN_off {w : World} {b0 i : Nat} {T : TypeId} {cs : Array Value} {q : Option Addr} {ys : List NV} {u : Value} (h : SlN w q ys) (hb : Bx w b0 T cs) (hcs : ∀ v ∈ cs.toList, ∀ k z, v ≠ Value.int k z) : SlN (w.setCell ⟨b0, i, none⟩ u) q ys := by
 have kp : ∀ {b j : Nat} {v : Value}, b ≠ b0 → w.cell? ⟨b, j, none⟩ = some v → (w.setCell ⟨b0, i, none⟩ u).cell? ⟨b, j, none⟩ = some v := fun {b j v} hne h => (World.cell?_of_block (Below.heap_setCell w ⟨b0, i, none⟩ u b hne)).trans h
 refine ⟨fun x hx => ?_, ?_⟩
 ·have hi := h.all x hx
  refine ⟨?_, ?_, hi.sn, hi.kn, hi.sl, hi.kl⟩
  ·rcases hi.set with h0 | ⟨b, off, h1, h2⟩
   ·exact .inl h0
   ·exact .inr ⟨b, off, h1, fun j hj => ⟨kp (ne_box hb hcs (h2 j hj).1) (h2 j hj).1, kp (ne_box hb hcs (h2 j hj).1) (h2 j hj).2⟩⟩
  ·rcases hi.kids with h0 | ⟨b, off, h1, h2⟩
   ·exact .inl h0
   ·exact .inr ⟨b, off, h1, fun j hj => kp (ne_box hb hcs (h2 j hj)) (h2 j hj)⟩
 ·rcases h.cells with h0 | ⟨b, off, h1, h2⟩
  ·exact .inl h0
  ·refine .inr ⟨b, off, h1, fun j hj => ?_⟩
   obtain ⟨a0, a1, a2, a3, a4, a5, a6, a7, a8⟩ := h2 j hj
   have hne := ne_box hb hcs a0
   exact ⟨kp hne a0, kp hne a1, kp hne a2, kp hne a3, kp hne a4, kp hne a5, kp hne a6, kp hne a7, kp hne a8⟩
theorem two_slices (a c : Option Addr) (n m k l : Nat) : ∀ v ∈ (#[Value.slice a n m, Value.slice c k l] : Array Value).toList, ∀ k z, v ≠ Value.int k z := by
 intro v hv k z e
 simp only [List.mem_cons, List.not_mem_nil, or_false] at hv
 rcases hv with rfl | rfl <;> cases e
def ExPost (w : World) (e : Ending) (w' : World) : Prop := ∃ q cq ys g, e = .returned (.agg #[.slice q 4 cq, .slice (some ⟨g, 0, none⟩) 1 1]) ∧ TH w' q 4 cq ys exT ∧ Bx w' g 9 #[.string ⟨#[]⟩] ∧ Below w.heap.size w w'
theorem example_any (w : World) : Calls Tryz.prog 26 #[] w (ExPost w) := by
 obtain ⟨w0, hw0⟩ : ∃ W, W = w.alloc (.cells #[.slice none 0 0, .slice none 0 0] 34) := ⟨_, rfl⟩
 obtain ⟨b0, hb0⟩ : ∃ b, b = w.heap.size := ⟨_, rfl⟩
 have hB0 : Below w.heap.size w w0 := by rw [hw0]; exact bl_alloc _ _
 have hR0 : Bx w0 b0 34 #[.slice none 0 0, .slice none 0 0] := by rw [hw0, hb0]; exact Bx.new w _ _
 have HG := lh (group6_any 1 w0)
 have HW0 := lh (And.intro hw0 hb0)
 have HB0 := lh hB0
 have HR0 := lh hR0
 clear hw0 hb0 hB0 hR0
 go_enter Tryz.func26, Tryz.ntmps26
 go_wp2_with fail
 rw [← HW0.out.2, show w.alloc (.cells #[.slice none 0 0, .slice none 0 0] 34) = w0 from HW0.out.1.symm]
 refine (HG.out).mono ?_
 rintro e w1 ⟨x1, rfl, hx1, hi1, hb1⟩
 have HX1 := lh (And.intro hx1 hi1)
 have HB1 := lh hb1
 have HS1 := lh (set6_any 97 w1)
 clear hx1 hi1 hb1
 go_wp2_with fail
 refine (HS1.out).mono ?_
 rintro e w2 ⟨x2, rfl, hx2, hi2, hb2⟩
 have HB2 := lh hb2
 have HJ2 := lh (join0 x2 (setNd 97) w2 hi2 hx2 (by decide))
 clear hx2 hi2 hb2
 go_wp2_with fail
 refine (HJ2.out).mono ?_
 rintro e w3 ⟨q3, m3, c3, ys3, rfl, ht3, hb3⟩
 obtain ⟨w4, hw4⟩ : ∃ W, W = w3.alloc (.cells #[.slice q3 m3 c3, .slice none 0 0] 34) := ⟨_, rfl⟩
 have hb4 : Below w3.heap.size w3 w4 := by rw [hw4]; exact bl_alloc _ _
 have hX4 : Bx w4 w3.heap.size 34 #[.slice q3 m3 c3, .slice none 0 0] := by rw [hw4]; exact Bx.new w3 _ _
 have hb14 : Below w1.heap.size w1 w4 := HB2.out.trans ((hb3.trans (hb4.mono hb3.size)).mono HB2.out.size)
 have HJ4 := lh (join1 x1 (groupNd 1) w3.heap.size 1 q3 m3 c3 ys3 aT w4 (HX1.out.2.below hb14) HX1.out.1 (by decide) (ht3.below hb4) hX4 (ht3.few small_a) (by rw [ht3.leng]; decide))
 have HB14 := lh hb14
 have HW4 := lh hw4
 clear ht3 hb3 hb4 hX4 hb14 hw4
 go_wp2_with fail
 rw [← HW4.out]
 refine (HJ4.out).mono ?_
 rintro e w5 ⟨q5, m5, c5, ys5, rfl, ht5, hb5⟩
 have HT5 := lh ht5
 have HB5 := lh hb5
 have HS5 := lh (set6_any 98 w5)
 clear ht5 hb5
 go_wp2_with fail
 refine (HS5.out).mono ?_
 rintro e w6 ⟨x3, rfl, hx3, hi3, hb6⟩
 have HB6 := lh hb6
 have HJ6 := lh (join0 x3 (setNd 98) w6 hi3 hx3 (by decide))
 clear hx3 hi3 hb6
 go_wp2_with fail
 refine (HJ6.out).mono ?_
 rintro e w7 ⟨q7, m7, c7, ys7, rfl, ht7, hb7⟩
 obtain ⟨w8, hw8⟩ : ∃ W, W = w7.alloc (.cells #[.slice q5 m5 c5, .slice none 0 0, .slice q7 m7 c7, .slice none 0 0] 34) := ⟨_, rfl⟩
 have hb8 : Below w7.heap.size w7 w8 := by rw [hw8]; exact bl_alloc _ _
 have hX8 : Bx w8 w7.heap.size 34 #[.slice q5 m5 c5, .slice none 0 0, .slice q7 m7 c7, .slice none 0 0] := by rw [hw8]; exact Bx.new w7 _ _
 have hb58 : Below w5.heap.size w5 w8 := HB6.out.trans ((hb7.trans (hb8.mono hb7.size)).mono HB6.out.size)
 have HJ8 := lh (join2 ⟨seqNd, none, 0, none, 0⟩ seqNd w7.heap.size 2 q5 q7 m5 c5 m7 c7 ys5 ys7 gT bT w8 ⟨.inl rfl, .inl rfl, fun _ => rfl, fun _ => rfl, Nat.le_refl _, Nat.le_refl _⟩ rfl (by decide) (HT5.out.below hb58) (ht7.below hb8) hX8 (HT5.out.few small_g) (ht7.few small_b) (by rw [HT5.out.leng, ht7.leng]; decide))
 have hb08 : Below w0.heap.size w0 w8 := HB1.out.trans (((HB14.out.trans (HB5.out.mono HB14.out.size)).trans (hb58.mono (HB14.out.trans (HB5.out.mono HB14.out.size)).size)).mono HB1.out.size)
 have HB08 := lh hb08
 have HW8 := lh hw8
 have hen : (encN ⟨seqNd, none, 0, none, 0⟩).toArray = #[.int .u8 3, .slice none 0 0, .slice none 0 0, .int .i64 0, .int .i64 0, .int .i64 0, .int .u8 0, .int .u8 0, .bool false] := rfl
 rw [hen] at HJ8
 clear ht7 hb7 hb8 hX8 hb58 hw8 hb08 hen
 go_wp2_with fail
 rw [← HW8.out]
 refine (HJ8.out).mono ?_
 rintro e w9 ⟨q9, m9, c9, ys9, rfl, ht9, hb9⟩
 have hm9 : m9 = 4 := by rw [ht9.leng]; rfl
 subst hm9
 have hb09 : Below w.heap.size w w9 := HB0.out.trans ((HB08.out.trans (hb9.mono HB08.out.size)).mono HB0.out.size)
 have hR9 : Bx w9 b0 34 #[.slice none 0 0, .slice none 0 0] := (HR0.out.below HB08.out).below hb9
 have r0 : w9.cell? ⟨b0, 0, none⟩ = some (.slice none 0 0) := hR9.cell rfl
 have r1 : w9.cell? ⟨b0, 1, none⟩ = some (.slice none 0 0) := hR9.cell rfl
 have f0 := hR9.free 0
 have f1 := hR9.free 1
 have hbl : b0 < w9.heap.size := hR9.lt
 have HT9 := lh ht9
 have HB09 := lh hb09
 have HR9 := lh hR9
 clear ht9 hb9 hb09 hR9
 go_wp2
 obtain ⟨wa, hwa⟩ : ∃ W, W = (w9.setCell ⟨b0, 0, none⟩ (.slice q9 4 c9)).setCell ⟨b0, 1, none⟩ (.slice (some ⟨w9.heap.size + 1, 0, none⟩) 1 1) := ⟨_, rfl⟩
 have hRa : Bx wa b0 34 #[.slice q9 4 c9, .slice (some ⟨w9.heap.size + 1, 0, none⟩) 1 1] := by rw [hwa]; exact (HR9.out.set 0 _).set 1 _
 have hsz : wa.heap.size = w9.heap.size := by rw [hwa]; simp
 have hNa : SlN wa q9 ys9 := by rw [hwa]; exact slN_off (slN_off HT9.out.nodes HR9.out (two_slices _ _ _ _ _ _)) (HR9.out.set 0 (.slice q9 4 c9)) (two_slices _ _ _ _ _ _)
 have hBa : Below w.heap.size w wa := by
  rw [hwa]
  have := HW0.out.2
  exact (HB09.out.setCell (p := ⟨b0, 0, none⟩) (by show _ ≤ b0; omega) _).setCell (p := ⟨b0, 1, none⟩) (by show _ ≤ b0; omega) _
 rw [← hwa]
 have hbb : Below wa.heap.size wa ((wa.alloc (.cells #[.slice q9 4 c9, .slice (some ⟨w9.heap.size + 1, 0, none⟩) 1 1] 34)).alloc (.cells #[.string ⟨#[]⟩] 9)) := bl_trans (bl_alloc _ _) (bl_alloc _ _)
 have hRb := hRa.below hbb
 have z0 := hRb.cell (i := 0) (v := .slice q9 4 c9) rfl
 have z1 := hRb.cell (i := 1) (v := .slice (some ⟨w9.heap.size + 1, 0, none⟩) 1 1) rfl
 refine bodyPost_ret (v := .agg #[.slice q9 4 c9, .slice (some ⟨w9.heap.size + 1, 0, none⟩) 1 1]) (by simp [results, Tryz.results26, go_sem, z0, z1]) rfl ?_
 refine ⟨q9, c9, ys9, w9.heap.size + 1, rfl, ⟨HT9.out.len, hNa.below hbb, HT9.out.nil, HT9.out.le, HT9.out.max, HT9.out.nds⟩, ?_, hBa.trans (hbb.mono hBa.size)⟩
 have h := Bx.new (wa.alloc (.cells #[.slice q9 4 c9, .slice (some ⟨w9.heap.size + 1, 0, none⟩) 1 1] 34)) 9 #[.string ⟨#[]⟩]
 rw [World.size_alloc, hsz] at h
 exact h
end Go.Proofs.YtkefndfgkmdphaaGreat


namespace Go.Proofs.YtkefndfgkmdphaaGreat
open Go.RowKit Tnr Tnt

def mkN (d : Nd) : NV := ⟨d, none, 0, none, 0⟩
def kindN (d : Nd) : Bool := kindB (mkN d)
def evN (ks : List Int) : Nat → List Nd → List (Nat × Nd)
 | _, [] => []
 | k, d :: ds => if d.kind ∈ ks then (k, d) :: evN ks (k + 1) ds else evN ks (k + 1) ds
theorem ev_nds (ks : List Int) : ∀ (xs : List NV) (k : Nat), (ev ks k xs).map (fun x => (x.1, x.2.nd)) = evN ks k (nds xs)
 | [], _ => rfl
 | x :: xs, k => by
  have h := ev_nds ks xs (k + 1)
  show (ev ks k (x :: xs)).map _ = evN ks k (x.nd :: nds xs)
  unfold ev evN
  split
  ·rw [List.map_cons, h]
  ·exact h
def kindsN (L : List Nd) : Bool := L.all kindN
theorem kindsB_nds (xs : List NV) : kindsB xs = kindsN (nds xs) := by
 unfold kindsB kindsN nds
 rw [List.all_map]; rfl
def allN (P : Nd → Bool) (L : List Nd) (ks : List Int) : Bool := (evN ks 0 L).all fun x => P x.2
theorem allB_nds (P : Nd → Bool) (xs : List NV) (ks : List Int) : allB P xs ks = allN P (nds xs) ks := by
 unfold allB allN
 rw [← ev_nds, List.all_map]; rfl
def plN (ks : List Int) (L : List Nd) : List Int := (evN ks 0 L).map fun x => ((x.1 : Nat) : Int)
theorem evP_nds (ks : List Int) (xs : List NV) : evP ks xs = plN ks (nds xs) := by
 unfold evP plN
 rw [← ev_nds, List.map_map]; rfl
def nN (L : List Nd) (i : Nat) : Nd := L.getD i nd0
theorem gn_nds (xs : List NV) (i : Nat) : (gn xs i).nd = nN (nds xs) i := by
 unfold gn nN nds
 rw [List.getD_eq_getElem?_getD, List.getD_eq_getElem?_getD, List.getElem?_map]
 cases xs[i]? <;> rfl
def begN (L : List Nd) (fs : List Int) : List Int := begL fs (plN [5] L)
def cntN (L : List Nd) (ps : List Int) : Bool := (List.range ps.length).all fun i => (nN L (gz ps i).toNat).group == (i : Int) + 1
def countN (L : List Nd) (fs : List Int) (nm : Nat) : Bool := cntN L (begN L fs) && (begN L fs).length == nm
theorem countB_nds (xs : List NV) (fs : List Int) (nm : Nat) : countB xs fs nm = countN (nds xs) fs nm := by
 unfold countB countN begG begN countOk cntN
 rw [evP_nds]
 simp only [gn_nds]
def writtenN (L : List Nd) (l : List (Nat × Nat)) (nm : Nat) : Bool := decide ((gf l (L.length - 1)).2 ≤ 60) && (allN neverB L [12, 13] && (countN L (fsZ l) nm && allN (upToB nm) L [8]))
theorem writtenB_nds (xs : List NV) (l : List (Nat × Nat)) (nm : Nat) : writtenB xs l nm = writtenN (nds xs) l nm := by
 unfold writtenB writtenN
 rw [allB_nds, allB_nds, countB_nds, nds_length]
def spreadN (L : List Nd) (nm : Nat) : Bool := allN (upToB nm) L [5, 8] && allN endlessB L [7]
theorem spreadB_nds (xs : List NV) (l : List (Nat × Nat)) (nm : Nat) : spreadB xs l nm = spreadN (nds xs) nm := by
 unfold spreadB spreadN
 rw [allB_nds, allB_nds]
def soundN (L : List Nd) (nm : List ByteArray) : Bool := (ordT L).isSome && (kindsN L && namedB nm)
def rightN (L : List Nd) (nm : List ByteArray) : Bool := soundN L nm && match ordT L with
 | none => false
 | some l => writtenN L l nm.length
def spreadTN (L : List Nd) (nm : List ByteArray) : Bool := soundN L nm && match ordT L with
 | none => false
 | some _ => spreadN L nm.length
theorem rightT_nds (xs : List NV) (nm : List ByteArray) : rightT xs nm = rightN (nds xs) nm := by
 unfold rightT rightN soundB soundN
 rw [kindsB_nds]
 cases ordT (nds xs) with
 | none => rfl
 | some l => simp only [writtenB_nds]
theorem spreadT_nds (xs : List NV) (nm : List ByteArray) : spreadT xs nm = spreadTN (nds xs) nm := by
 unfold spreadT spreadTN soundB soundN
 rw [kindsB_nds]
 cases ordT (nds xs) with
 | none => rfl
 | some l => simp only [spreadB_nds]
def grN (L : List Nd) : List Int := (evN [5] 0 L).map fun x => x.2.group
theorem grL_nds (xs : List NV) : grL xs = grN (nds xs) := by
 unfold grL grN
 rw [← ev_nds, List.map_map]; rfl
def emp : ByteArray := ⟨#[]⟩
theorem named_emp : namedB [emp] = true := by
 unfold namedB
 have h1 : nameOk [emp] 0 = true := by
  unfold nameOk
  have : (gb [emp] 0).toList.isEmpty = true := by
   show (emp.toList).isEmpty = true
   rw [Go.ByteArray.toList_eq]; rfl
  rw [this]; rfl
 have h2 : (List.range [emp].length) = [0] := rfl
 rw [h2]
 simp [h1]
theorem ord_ex : ordT exT = some [(0, 1), (0, 2), (2, 1), (0, 3)] := by decide
theorem kinds_ex : kindsN exT = true := by decide
theorem pl_ex : plN [5] exT = [1] := by decide
theorem beg_ex (fs : List Int) : begN exT fs = [1] := by unfold begN begL; rw [pl_ex]; simp
theorem right_ex : rightN exT [emp] = true := by
 unfold rightN soundN writtenN countN
 rw [ord_ex, kinds_ex, named_emp]
 simp only [beg_ex]
 decide
theorem spread_ex : spreadTN exT [emp] = true := by
 unfold spreadTN soundN
 rw [ord_ex, kinds_ex, named_emp]
 decide
theorem gr_ex : grN exT = [1] := by decide
theorem kids_ex : kidsT exT = [gT, bT] := by
 unfold kidsT
 rw [ord_ex]
 decide
theorem deep_ex : deepT exT = 3 := by
 unfold deepT
 rw [ord_ex]
 decide
theorem last_ex : (nN exT 3).kids = [1, 2] := by decide
end Go.Proofs.YtkefndfgkmdphaaGreat


namespace Go.Proofs.YtkefndfgkmdphaaGreat
set_option maxHeartbeats 6400000
set_option maxRecDepth 100000
open Go.RowKit Tnr Tnt

theorem kinds_small {ys : List NV} {L : List Nd} (h : nds ys = L) (hL : ∀ d ∈ L, 0 ≤ d.kind ∧ d.kind < 256) : KindsIn ys := fun x hx => hL x.nd (h ▸ List.mem_map.2 ⟨x, hx, rfl⟩)
theorem small_e : smallNds exT := by unfold smallNds; decide
theorem range_e : ∀ d ∈ exT, 0 ≤ d.kind ∧ d.kind < 256 := by decide
theorem two_of {ts : List TV} {A B : List Nd} (h : treesN ts = [A, B]) : ∃ t0 t1, ts = [t0, t1] ∧ nds t0.ys = A ∧ nds t1.ys = B := by
 match ts, h with
 | [t0, t1], h =>
  simp only [treesN, List.map_cons, List.map_nil, List.cons.injEq, and_true] at h
  exact ⟨t0, t1, rfl, h.1, h.2⟩
 | [], h => simp [treesN] at h
 | [_], h => simp [treesN] at h
 | _ :: _ :: _ :: _, h => simp [treesN] at h
theorem awake_any (w : World) : Calls Tryz.prog 6 #[] w fun e w' => e = .returned (.bool true) ∧ Below w.heap.size w w' := by
 have HE := lh (example_any w)
 go_enter Tryz.func6, Tryz.ntmps6
 go_wp2_with fail
 refine (HE.out).mono ?_
 rintro e u1 ⟨q, cq, ys, g, rfl, ht1, hg1, hb1⟩
 have hx3 : (3 : Nat) < ys.length := by rw [← ht1.len]; omega
 obtain ⟨bq, oq, rfl, hc3, hn3⟩ := ht1.nodes.at hx3
 have hkl : (gn ys 3).nd.kids = [1, 2] := by rw [gn_nds, ht1.nds]; exact last_ex
 obtain ⟨pk, hpk⟩ : ∃ p, p = (gn ys 3).pk := ⟨_, rfl⟩
 obtain ⟨ck, hck⟩ : ∃ p, p = (gn ys 3).ck := ⟨_, rfl⟩
 have ck3 := hc3.2.2.1
 have hkz := hn3.kids
 rw [← hpk] at ck3 hkz
 rw [← hck, hkl] at ck3
 rw [hkl] at hkz
 obtain ⟨u2, hu2⟩ : ∃ W, W = u1.alloc (.cells #[.slice (some ⟨bq, oq, none⟩) 4 cq, .slice (some ⟨g, 0, none⟩) 1 1] 34) := ⟨_, rfl⟩
 obtain ⟨b1, hb1e⟩ : ∃ b, b = u1.heap.size := ⟨_, rfl⟩
 have hb2 : Below u1.heap.size u1 u2 := by rw [hu2]; exact bl_alloc _ _
 have hX2 : Bx u2 b1 34 #[.slice (some ⟨bq, oq, none⟩) 4 cq, .slice (some ⟨g, 0, none⟩) 1 1] := by rw [hu2, hb1e]; exact Bx.new u1 _ _
 have k0 : u2.cell? ⟨b1, 0, none⟩ = some (.slice (some ⟨bq, oq, none⟩) 4 cq) := hX2.cell rfl
 have k1 : u2.cell? ⟨b1, 1, none⟩ = some (.slice (some ⟨g, 0, none⟩) 1 1) := hX2.cell rfl
 have hfew := ht1.few small_e
 have HKD := lh (kids_any (some ⟨bq, oq, none⟩) 4 cq ys (.slice (some ⟨g, 0, none⟩) 1 1) u2 ht1.len (by omega) ht1.le ht1.max (ht1.nodes.below hb2) hfew)
 have HU2 := lh (And.intro hu2 hb1e)
 have HX2 := lh hX2
 have HT2 := lh (ht1.below hb2)
 have HG2 := lh (hg1.below hb2)
 have HB2 := lh (hb1.trans (hb2.mono hb1.size))
 have HK2 := lh (And.intro (cell_below ck3 hb2) (SlZ.below hkz hb2))
 clear hpk hck hc3 hn3 hkl hx3 hb2 ht1 hg1 hb1 ck3 hkz hu2 hX2 hfew hb1e
 go_wp2_with fail
 rw [← HU2.out.2, show u1.alloc (.cells #[.slice (some ⟨bq, oq, none⟩) 4 cq, .slice (some ⟨g, 0, none⟩) 1 1] 34) = u2 from HU2.out.1.symm]
 refine (HKD.out).mono ?_
 rintro e u3 ⟨qk, mk, cqk, ts, hmk, rfl, hot, htn, hna, hb3⟩
 rw [HT2.out.nds, kids_ex] at htn
 obtain ⟨t0, t1, rfl, hn0, hn1⟩ := two_of htn
 have hmk2 : mk = 2 := hmk
 subst hmk2
 obtain ⟨p', c', e', _, _, _, hst⟩ := hot.form
 obtain ⟨rfl, _, rfl⟩ : qk = p' ∧ True ∧ cqk = c' := by simpa using e'
 obtain ⟨bk, ok, rfl, hk0, hk1, _⟩ := hst.at (k := 0) (by simp)
 obtain ⟨bk', ok', e2, hk2, hk3, _⟩ := hst.at (k := 1) (by simp)
 cases e2
 have hna0 := hna t0 (by simp)
 have hna1 := hna t1 (by simp)
 have th0 : TH u3 t0.q t0.ys.length t0.cq t0.ys gT := th_own rfl (hot.all t0 (by simp)) hn0
 have th1 : TH u3 t1.q t1.ys.length t1.cq t1.ys bT := th_own rfl (hot.all t1 (by simp)) hn1
 obtain ⟨q0, hq0⟩ : ∃ z, z = t0.q := ⟨_, rfl⟩
 obtain ⟨m0, hm0⟩ : ∃ z, z = t0.ys.length := ⟨_, rfl⟩
 obtain ⟨c0, hc0⟩ : ∃ z, z = t0.cq := ⟨_, rfl⟩
 obtain ⟨q1, hq1⟩ : ∃ z, z = t1.q := ⟨_, rfl⟩
 obtain ⟨m1, hm1⟩ : ∃ z, z = t1.ys.length := ⟨_, rfl⟩
 obtain ⟨c1, hc1⟩ : ∃ z, z = t1.cq := ⟨_, rfl⟩
 have j0 : u3.cell? ⟨bk, ok, none⟩ = some (.slice q0 m0 c0) := by rw [hq0, hm0, hc0]; exact hk0
 have j1 : u3.cell? ⟨bk, ok + 1, none⟩ = some (.slice none 0 0) := by have h : u3.cell? ⟨bk, ok + 1, none⟩ = some (.slice t0.na t0.nn t0.nc) := hk1; rw [hna0.1, hna0.2.1, hna0.2.2] at h; exact h
 have j2 : u3.cell? ⟨bk, ok + 2, none⟩ = some (.slice q1 m1 c1) := by rw [hq1, hm1, hc1]; exact hk2
 have j3 : u3.cell? ⟨bk, ok + 3, none⟩ = some (.slice none 0 0) := by have h : u3.cell? ⟨bk, ok + 3, none⟩ = some (.slice t1.na t1.nn t1.nc) := hk3; rw [hna1.1, hna1.2.1, hna1.2.2] at h; exact h
 rw [← hq0, ← hm0, ← hc0] at th0
 rw [← hq1, ← hm1, ← hc1] at th1
 have hX3 := HX2.out.below hb3
 have k0 : u3.cell? ⟨b1, 0, none⟩ = some (.slice (some ⟨bq, oq, none⟩) 4 cq) := hX3.cell rfl
 have k1 : u3.cell? ⟨b1, 1, none⟩ = some (.slice (some ⟨g, 0, none⟩) 1 1) := hX3.cell rfl
 have HGR := lh (groups_any (some ⟨bq, oq, none⟩) 4 cq ys (some ⟨g, 0, none⟩) 1 1 u3 HT2.out.len (by omega) (HT2.out.nodes.below hb3))
 have HJ := lh (And.intro j0 (And.intro j1 (And.intro j2 j3)))
 have HTT := lh (And.intro th0 th1)
 have HX3 := lh hX3
 have HB3 := lh (HB2.out.trans (hb3.mono HB2.out.size))
 have HT3 := lh (HT2.out.below hb3)
 have HG3 := lh (HG2.out.below hb3)
 have HK3 := lh (And.intro (cell_below HK2.out.1 hb3) (SlZ.below HK2.out.2 hb3))
 rw [grL_nds, HT2.out.nds, gr_ex, show mnL [1] = 1 from rfl, show mxL [1] = 1 from rfl] at HGR
 clear HX2 HB2 HT2 HG2 HK2 hot htn hna hb3 hst hk0 hk1 hk2 hk3 hna0 hna1 hn0 hn1 th0 th1 hq0 hm0 hc0 hq1 hm1 hc1 j0 j1 j2 j3 hX3 e' hmk
 go_wp2_with fail
 refine (HGR.out).mono ?_
 rintro e u4 ⟨rfl, hb4⟩
 have hbd : Below u3.heap.size u3 u4.drew := hb4.drew
 obtain ⟨W0, hW0⟩ : ∃ W, W = u4.drew := ⟨_, rfl⟩
 rw [← hW0] at hbd
 have hX4 := HX3.out.below hbd
 have hS : (fun (V : World) => V.cell? ⟨b1, 0, none⟩ = some (.slice (some ⟨bq, oq, none⟩) 4 cq) ∧ V.cell? ⟨b1, 1, none⟩ = some (.slice (some ⟨g, 0, none⟩) 1 1) ∧ V.cell? ⟨bq, oq + 29, none⟩ = some (.slice pk 2 ck) ∧ V.cell? ⟨bk, ok, none⟩ = some (.slice q0 m0 c0) ∧ V.cell? ⟨bk, ok + 1, none⟩ = some (.slice none 0 0) ∧ V.cell? ⟨bk, ok + 2, none⟩ = some (.slice q1 m1 c1) ∧ V.cell? ⟨bk, ok + 3, none⟩ = some (.slice none 0 0)) W0 := ⟨hX4.cell rfl, hX4.cell rfl, cell_below HK3.out.1 hbd, cell_below HJ.out.1 hbd, cell_below HJ.out.2.1 hbd, cell_below HJ.out.2.2.1 hbd, cell_below HJ.out.2.2.2 hbd⟩
 have HBL := lh (HB3.out.trans (hbd.mono HB3.out.size))
 have HBW0 : Hid (Below W0.heap.size W0 W0) := Below.refl _ _
 have hT4 := HT3.out.below hbd
 have hg4 := HG3.out.below hbd
 have hX : SlX W0 (some ⟨g, 0, none⟩) [emp] := .inr ⟨g, 0, rfl, fun i hi => by
  have : i = 0 := by simpa using hi
  subst this
  exact hg4.cell rfl⟩
 have hkz4 := SlZ.below HK3.out.2 hbd
 have hfew := hT4.few small_e
 have HSI : Hid (∀ V b, Below W0.heap.size W0 V → Bx V b 3 #[.int .i64 1, .int .i64 2] → Calls Tryz.prog 28 #[.slice pk 2 ck, .slice (some ⟨b, 0, none⟩) 2 2] V fun e w' => e = .returned (.bool true) ∧ Below V.heap.size V w') := fun V b hV hb =>
  (sameZ_any pk (some ⟨b, 0, none⟩) ck 2 [1, 2] [1, 2] V (hkz4.below hV) (.inr ⟨b, 0, rfl, fun i hi => by
   have : i = 0 ∨ i = 1 := by have : i < 2 := hi; omega
   rcases this with rfl | rfl <;> exact hb.cell rfl⟩) (by decide) (by decide)).mono fun e w' ⟨h1, k, h2⟩ => ⟨h1.trans (by simp), h2 ▸ drewN_below V k⟩
 have HRI : Hid (∀ V, Below W0.heap.size W0 V → Calls Tryz.prog 29 #[.agg #[.slice (some ⟨bq, oq, none⟩) 4 cq, .slice (some ⟨g, 0, none⟩) 1 1]] V fun e w' => e = .returned (.bool true) ∧ Below V.heap.size V w') := fun V hV => by
  have h := rightT_any (some ⟨bq, oq, none⟩) 4 cq ys (some ⟨g, 0, none⟩) 1 1 [emp] V hT4.len (by omega) (hT4.nodes.below hV) hfew (kinds_small hT4.nds range_e) rfl (by omega) (hX.below hV)
  rw [rightT_nds, hT4.nds, right_ex] at h; exact h
 have HSP : Hid (∀ V, Below W0.heap.size W0 V → Calls Tryz.prog 30 #[.agg #[.slice (some ⟨bq, oq, none⟩) 4 cq, .slice (some ⟨g, 0, none⟩) 1 1]] V fun e w' => e = .returned (.bool true) ∧ Below V.heap.size V w') := fun V hV => by
  have h := spreadT_any (some ⟨bq, oq, none⟩) 4 cq ys (some ⟨g, 0, none⟩) 1 1 [emp] V hT4.len (by omega) (hT4.nodes.below hV) hfew (kinds_small hT4.nds range_e) rfl (by omega) (hX.below hV)
  rw [spreadT_nds, hT4.nds, spread_ex] at h; exact h
 have HDP : Hid (∀ V, Below W0.heap.size W0 V → Calls Tryz.prog 31 #[.agg #[.slice (some ⟨bq, oq, none⟩) 4 cq, .slice (some ⟨g, 0, none⟩) 1 1]] V fun e w' => e = .returned (.int .i64 3) ∧ Below V.heap.size V w') := fun V hV => by
  have h := deepT_any (some ⟨bq, oq, none⟩) 4 cq ys (.slice (some ⟨g, 0, none⟩) 1 1) V hT4.len (by omega) (hT4.nodes.below hV) hfew
  rw [hT4.nds, deep_ex] at h; exact h
 have ht0 := HTT.out.1.below hbd
 have ht1 := HTT.out.2.below hbd
 have HSA : Hid (∀ V q' m' c' ys', Below W0.heap.size W0 V → TH V q' m' c' ys' gT → Calls Tryz.prog 11 #[.agg #[.slice q0 m0 c0, .slice none 0 0], .agg #[.slice q' m' c', .slice none 0 0]] V fun e w' => e = .returned (.bool true) ∧ Below V.heap.size V w') := fun V q' m' c' ys' hV hT => by
  have h := same6_any q0 q' none none m0 m' c0 c' 0 0 0 0 t0.ys ys' [] [] V ht0.len hT.len (by rw [ht0.leng]; decide) (ht0.nodes.below hV) hT.nodes (ht0.few small_g) (hT.few small_g) rfl rfl (by omega) (by omega) (.inl rfl) (.inl rfl)
  rw [show sameT t0.ys ys' [] [] = true by unfold sameT; rw [ht0.nds, hT.nds, sameX_self]; simp] at h; exact h
 have HSB : Hid (∀ V q' m' c' ys', Below W0.heap.size W0 V → TH V q' m' c' ys' bT → Calls Tryz.prog 11 #[.agg #[.slice q1 m1 c1, .slice none 0 0], .agg #[.slice q' m' c', .slice none 0 0]] V fun e w' => e = .returned (.bool true) ∧ Below V.heap.size V w') := fun V q' m' c' ys' hV hT => by
  have h := same6_any q1 q' none none m1 m' c1 c' 0 0 0 0 t1.ys ys' [] [] V ht1.len hT.len (by rw [ht1.leng]; decide) (ht1.nodes.below hV) hT.nodes (ht1.few small_b) (hT.few small_b) rfl rfl (by omega) (by omega) (.inl rfl) (.inl rfl)
  rw [show sameT t1.ys ys' [] [] = true by unfold sameT; rw [ht1.nds, hT.nds, sameX_self]; simp] at h; exact h
 have HW0 := lh hW0
 clear hb4 hbd hX4 hT4 hg4 hX hkz4 hfew ht0 ht1 hW0 HKD HGR HE k0 k1
 have hS0 := hS
 clear hS
 go_wp2
 refine wp_region_L (S := fun (V : World) => V.cell? ⟨b1, 0, none⟩ = some (.slice (some ⟨bq, oq, none⟩) 4 cq) ∧ V.cell? ⟨b1, 1, none⟩ = some (.slice (some ⟨g, 0, none⟩) 1 1) ∧ V.cell? ⟨bq, oq + 29, none⟩ = some (.slice pk 2 ck) ∧ V.cell? ⟨bk, ok, none⟩ = some (.slice q0 m0 c0) ∧ V.cell? ⟨bk, ok + 1, none⟩ = some (.slice none 0 0) ∧ V.cell? ⟨bk, ok + 2, none⟩ = some (.slice q1 m1 c1) ∧ V.cell? ⟨bk, ok + 3, none⟩ = some (.slice none 0 0)) (S2 := fun (V : World) => V.cell? ⟨b1, 0, none⟩ = some (.slice (some ⟨bq, oq, none⟩) 4 cq) ∧ V.cell? ⟨b1, 1, none⟩ = some (.slice (some ⟨g, 0, none⟩) 1 1) ∧ V.cell? ⟨bq, oq + 29, none⟩ = some (.slice pk 2 ck) ∧ V.cell? ⟨bk, ok, none⟩ = some (.slice q0 m0 c0) ∧ V.cell? ⟨bk, ok + 1, none⟩ = some (.slice none 0 0) ∧ V.cell? ⟨bk, ok + 2, none⟩ = some (.slice q1 m1 c1) ∧ V.cell? ⟨bk, ok + 3, none⟩ = some (.slice none 0 0)) 58 58 (by kernel_rfl) ?_
 rw [← HW0.out]
 have hS := hS0
 have hS2 := hS0
 clear hS0
 refine tk1 0 ⟨hS, hS2⟩ ?_
 try simp only [Act.put, sb]
 refine tk1 1 ⟨hS, hS2⟩ ?_
 try simp only [Act.put, sb]
 refine tk1 2 ⟨hS, hS2⟩ ?_
 try simp only [Act.put, sb]
 refine tk1 3 ⟨hS, hS2⟩ ?_
 try simp only [Act.put, sb]
 refine tk1 4 ⟨hS, hS2⟩ ?_
 try simp only [Act.put, sb]
 refine tk1 5 ⟨hS, hS2⟩ ?_
 try simp only [Act.put, sb]
 refine tk1 6 ⟨hS, hS2⟩ ?_
 try simp only [Act.put, sb]
 refine tk1 7 ⟨hS, hS2⟩ ?_
 try simp only [Act.put, sb]
 refine tk1 8 ⟨hS, hS2⟩ ?_
 try simp only [Act.put, sb]
 refine tk1 9 ⟨hS, hS2⟩ ?_
 try simp only [Act.put, sb]
 refine aone 10 (fun K hK => ?_)
 go_simp
 obtain ⟨w1, hww1⟩ : ∃ W, W = W0.alloc (.cells #[.int .i64 1, .int .i64 2] 3) := ⟨_, rfl⟩
 rw [← hww1]
 have hbw1 : Below W0.heap.size W0 w1 := by rw [hww1]; exact bl_alloc _ _
 have HXw1 : Hid (Bx w1 W0.heap.size 3 #[.int .i64 1, .int .i64 2]) := by show Bx _ _ _ _; rw [hww1]; exact Bx.new _ _ _
 have HCw1 := lh hbw1
 clear hww1
 have HBw1 := lh (HBW0.out.trans (hbw1.mono HBW0.out.size))
 have hSw1 := ks7 hS hbw1
 refine hK.out _ _ ⟨fun _ => hSw1, fun _ => hSw1⟩ ?_
 clear hK K hS hS2 hbw1
 have hS := hSw1
 have hS2 := hSw1
 clear hSw1
 try simp only [Act.put, sb]
 refine aone 11 (fun K hK => ?_)
 go_simp
 refine (HSI.out w1 _ HBw1.out HXw1.out).mono ?_
 rintro e w2 ⟨rfl, hbw2⟩
 have HBw2 := lh (HBw1.out.trans (hbw2.mono HBw1.out.size))
 have hSw2 := ks7 hS hbw2
 refine hK.out _ _ ⟨fun _ => hSw2, fun _ => hSw2⟩ ?_
 clear hK K hS hS2 hbw2
 have hS := hSw2
 have hS2 := hSw2
 clear hSw2
 try simp only [Act.put, sb]
 refine tk1 12 ⟨hS, hS2⟩ ?_
 try simp only [Act.put, sb]
 refine tk1 13 ⟨hS, hS2⟩ ?_
 try simp only [Act.put, sb]
 refine tk1 14 ⟨hS, hS2⟩ ?_
 try simp only [Act.put, sb]
 refine aone 15 (fun K hK => ?_)
 go_simp
 refine (HRI.out w2 HBw2.out).mono ?_
 rintro e w3 ⟨rfl, hbw3⟩
 have HBw3 := lh (HBw2.out.trans (hbw3.mono HBw2.out.size))
 have hSw3 := ks7 hS hbw3
 refine hK.out _ _ ⟨fun _ => hSw3, fun _ => hSw3⟩ ?_
 clear hK K hS hS2 hbw3
 have hS := hSw3
 have hS2 := hSw3
 clear hSw3
 try simp only [Act.put, sb]
 refine tk1 16 ⟨hS, hS2⟩ ?_
 try simp only [Act.put, sb]
 refine tk1 17 ⟨hS, hS2⟩ ?_
 try simp only [Act.put, sb]
 refine tk1 18 ⟨hS, hS2⟩ ?_
 try simp only [Act.put, sb]
 refine aone 19 (fun K hK => ?_)
 go_simp
 refine (HSP.out w3 HBw3.out).mono ?_
 rintro e w4 ⟨rfl, hbw4⟩
 have HBw4 := lh (HBw3.out.trans (hbw4.mono HBw3.out.size))
 have hSw4 := ks7 hS hbw4
 refine hK.out _ _ ⟨fun _ => hSw4, fun _ => hSw4⟩ ?_
 clear hK K hS hS2 hbw4
 have hS := hSw4
 have hS2 := hSw4
 clear hSw4
 try simp only [Act.put, sb]
 refine tk1 20 ⟨hS, hS2⟩ ?_
 try simp only [Act.put, sb]
 refine tk1 21 ⟨hS, hS2⟩ ?_
 try simp only [Act.put, sb]
 refine tk1 22 ⟨hS, hS2⟩ ?_
 try simp only [Act.put, sb]
 refine aone 23 (fun K hK => ?_)
 go_simp
 refine (HDP.out w4 HBw4.out).mono ?_
 rintro e w5 ⟨rfl, hbw5⟩
 have HBw5 := lh (HBw4.out.trans (hbw5.mono HBw4.out.size))
 have hSw5 := ks7 hS hbw5
 refine hK.out _ _ ⟨fun _ => hSw5, fun _ => hSw5⟩ ?_
 clear hK K hS hS2 hbw5
 have hS := hSw5
 have hS2 := hSw5
 clear hSw5
 try simp only [Act.put, sb]
 refine tk1 24 ⟨hS, hS2⟩ ?_
 try simp only [Act.put, sb]
 refine tk1 25 ⟨hS, hS2⟩ ?_
 try simp only [Act.put, sb]
 refine tk1 26 ⟨hS, hS2⟩ ?_
 try simp only [Act.put, sb]
 refine tk1 27 ⟨hS, hS2⟩ ?_
 try simp only [Act.put, sb]
 refine tk1 28 ⟨hS, hS2⟩ ?_
 try simp only [Act.put, sb]
 refine tk1 29 ⟨hS, hS2⟩ ?_
 try simp only [Act.put, sb]
 refine tk1 30 ⟨hS, hS2⟩ ?_
 try simp only [Act.put, sb]
 refine tk1 31 ⟨hS, hS2⟩ ?_
 try simp only [Act.put, sb]
 refine tk1 32 ⟨hS, hS2⟩ ?_
 try simp only [Act.put, sb]
 refine tk1 33 ⟨hS, hS2⟩ ?_
 try simp only [Act.put, sb]
 refine tk1 34 ⟨hS, hS2⟩ ?_
 try simp only [Act.put, sb]
 refine aone 35 (fun K hK => ?_)
 go_simp
 refine (group6_any 1 w5).mono ?_
 rintro e w6 ⟨x6, rfl, hx6, ix6, hbw6⟩
 have Hx6 := lh (And.intro hx6 ix6)
 clear hx6 ix6
 have HBw6 := lh (HBw5.out.trans (hbw6.mono HBw5.out.size))
 have hSw6 := ks7 hS hbw6
 refine hK.out _ _ ⟨fun _ => hSw6, fun _ => hSw6⟩ ?_
 clear hK K hS hS2 hbw6
 have hS := hSw6
 have hS2 := hSw6
 clear hSw6
 try simp only [Act.put, sb]
 refine aone 36 (fun K hK => ?_)
 go_simp
 refine (set6_any 97 w6).mono ?_
 rintro e w7 ⟨x7, rfl, hx7, ix7, hbw7⟩
 have Hx7 := lh (And.intro hx7 ix7)
 clear hx7 ix7
 have HN67 := lh hbw7
 have HBw7 := lh (HBw6.out.trans (hbw7.mono HBw6.out.size))
 have hSw7 := ks7 hS hbw7
 refine hK.out _ _ ⟨fun _ => hSw7, fun _ => hSw7⟩ ?_
 clear hK K hS hS2 hbw7
 have hS := hSw7
 have hS2 := hSw7
 clear hSw7
 try simp only [Act.put, sb]
 refine aone 37 (fun K hK => ?_)
 go_simp
 refine (join0 x7 (setNd 97) w7 Hx7.out.2 Hx7.out.1 (by decide)).mono ?_
 rintro e w8 ⟨q8, m8, c8, ys8, rfl, th8, hbw8⟩
 have HT8 := lh th8
 clear th8
 have HN68 := lh (HN67.out.trans (hbw8.mono HN67.out.size))
 have HBw8 := lh (HBw7.out.trans (hbw8.mono HBw7.out.size))
 have hSw8 := ks7 hS hbw8
 refine hK.out _ _ ⟨fun _ => hSw8, fun _ => hSw8⟩ ?_
 clear hK K hS hS2 hbw8
 have hS := hSw8
 have hS2 := hSw8
 clear hSw8
 try simp only [Act.put, sb]
 refine aone 38 (fun K hK => ?_)
 go_simp
 obtain ⟨w9, hww9⟩ : ∃ W, W = w8.alloc (.cells #[.slice q8 m8 c8, .slice none 0 0] 34) := ⟨_, rfl⟩
 rw [← hww9]
 have hbw9 : Below w8.heap.size w8 w9 := by rw [hww9]; exact bl_alloc _ _
 have HXw9 : Hid (Bx w9 w8.heap.size 34 #[.slice q8 m8 c8, .slice none 0 0]) := by show Bx _ _ _ _; rw [hww9]; exact Bx.new _ _ _
 have HCw9 := lh hbw9
 clear hww9
 have HN69 := lh (HN68.out.trans (hbw9.mono HN68.out.size))
 have HBw9 := lh (HBw8.out.trans (hbw9.mono HBw8.out.size))
 have hSw9 := ks7 hS hbw9
 refine hK.out _ _ ⟨fun _ => hSw9, fun _ => hSw9⟩ ?_
 clear hK K hS hS2 hbw9
 have hS := hSw9
 have hS2 := hSw9
 clear hSw9
 try simp only [Act.put, sb]
 refine aone 39 (fun K hK => ?_)
 go_simp
 refine (join1 x6 (groupNd 1) w8.heap.size 1 q8 m8 c8 ys8 aT w9 (Hx6.out.2.below HN69.out) Hx6.out.1 (by decide) (HT8.out.below HCw9.out) HXw9.out (HT8.out.few small_a) (by rw [HT8.out.leng]; decide)).mono ?_
 rintro e w10 ⟨q10, m10, c10, ys10, rfl, th10, hbw10⟩
 have HT10 := lh th10
 clear th10
 have HBw10 := lh (HBw9.out.trans (hbw10.mono HBw9.out.size))
 have hSw10 := ks7 hS hbw10
 refine hK.out _ _ ⟨fun _ => hSw10, fun _ => hSw10⟩ ?_
 clear hK K hS hS2 hbw10
 have hS := hSw10
 have hS2 := hSw10
 clear hSw10
 try simp only [Act.put, sb]
 refine aone 40 (fun K hK => ?_)
 go_simp
 refine (HSA.out w10 q10 m10 c10 ys10 HBw10.out HT10.out).mono ?_
 rintro e w11 ⟨rfl, hbw11⟩
 have HBw11 := lh (HBw10.out.trans (hbw11.mono HBw10.out.size))
 have hSw11 := ks7 hS hbw11
 refine hK.out _ _ ⟨fun _ => hSw11, fun _ => hSw11⟩ ?_
 clear hK K hS hS2 hbw11
 have hS := hSw11
 have hS2 := hSw11
 clear hSw11
 try simp only [Act.put, sb]
 refine tk1 41 ⟨hS, hS2⟩ ?_
 try simp only [Act.put, sb]
 refine tk1 42 ⟨hS, hS2⟩ ?_
 try simp only [Act.put, sb]
 refine tk1 43 ⟨hS, hS2⟩ ?_
 try simp only [Act.put, sb]
 refine tk1 44 ⟨hS, hS2⟩ ?_
 try simp only [Act.put, sb]
 refine tk1 45 ⟨hS, hS2⟩ ?_
 try simp only [Act.put, sb]
 refine aone 46 (fun K hK => ?_)
 go_simp
 refine (set6_any 98 w11).mono ?_
 rintro e w12 ⟨x12, rfl, hx12, ix12, hbw12⟩
 have Hx12 := lh (And.intro hx12 ix12)
 clear hx12 ix12
 have HBw12 := lh (HBw11.out.trans (hbw12.mono HBw11.out.size))
 have hSw12 := ks7 hS hbw12
 refine hK.out _ _ ⟨fun _ => hSw12, fun _ => hSw12⟩ ?_
 clear hK K hS hS2 hbw12
 have hS := hSw12
 have hS2 := hSw12
 clear hSw12
 try simp only [Act.put, sb]
 refine aone 47 (fun K hK => ?_)
 go_simp
 refine (join0 x12 (setNd 98) w12 Hx12.out.2 Hx12.out.1 (by decide)).mono ?_
 rintro e w13 ⟨q13, m13, c13, ys13, rfl, th13, hbw13⟩
 have HT13 := lh th13
 clear th13
 have HBw13 := lh (HBw12.out.trans (hbw13.mono HBw12.out.size))
 have hSw13 := ks7 hS hbw13
 refine hK.out _ _ ⟨fun _ => hSw13, fun _ => hSw13⟩ ?_
 clear hK K hS hS2 hbw13
 have hS := hSw13
 have hS2 := hSw13
 clear hSw13
 try simp only [Act.put, sb]
 refine aone 48 (fun K hK => ?_)
 go_simp
 refine (HSB.out w13 q13 m13 c13 ys13 HBw13.out HT13.out).mono ?_
 rintro e w14 ⟨rfl, hbw14⟩
 have HBw14 := lh (HBw13.out.trans (hbw14.mono HBw13.out.size))
 have hSw14 := ks7 hS hbw14
 refine hK.out _ _ ⟨fun _ => hSw14, fun _ => hSw14⟩ ?_
 clear hK K hS hS2 hbw14
 have hS := hSw14
 have hS2 := hSw14
 clear hSw14
 try simp only [Act.put, sb]
 refine tk1 49 ⟨hS, hS2⟩ ?_
 try simp only [Act.put, sb]
 refine tk1 50 ⟨hS, hS2⟩ ?_
 try simp only [Act.put, sb]
 refine tk1 51 ⟨hS, hS2⟩ ?_
 try simp only [Act.put, sb]
 refine tk1 52 ⟨hS, hS2⟩ ?_
 try simp only [Act.put, sb]
 refine tk1 53 ⟨hS, hS2⟩ ?_
 try simp only [Act.put, sb]
 refine tk1 54 ⟨hS, hS2⟩ ?_
 try simp only [Act.put, sb]
 refine tk1 55 ⟨hS, hS2⟩ ?_
 try simp only [Act.put, sb]
 refine tk1 56 ⟨hS, hS2⟩ ?_
 try simp only [Act.put, sb]
 refine tk1 57 ⟨hS, hS2⟩ ?_
 try simp only [Act.put, sb]
 refine aone 58 (fun K hK => ?_)
 go_simp
 refine hK.out _ _ ⟨fun h => absurd h (by decide), fun h => absurd h (by decide)⟩ ?_
 clear hK K hS hS2
 try simp only [Act.put, sb]
 refine anyL_done (by kernel_rfl) (show onlyN _ .normal _ _ from ?_) _
 dsimp only [onlyN]
 go_wp2
 go_ret
 exact ⟨rfl, HBL.out.trans (HBw14.out.mono HBL.out.size)⟩
end Go.Proofs.YtkefndfgkmdphaaGreat

