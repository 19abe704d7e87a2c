/- The walk of example. -/
/- What Right and Spread tell, in words of plain nodes. -/
import Derived.Test.YtjpccmiaimkmbaaGreatMn

namespace Go.Proofs.YtjpccmiaimkmbaaGreat
open Go.RowKit Tnr Tnt

def seqNd : Nd := ⟨3, [], [], 0, 0, 0, 0, 0, false⟩
def aT : List Nd := joinT (setNd 97) []
def gT : List Nd := joinT (groupNd 1) [aT]
def bT : List Nd := joinT (setNd 98) []
def exT : List Nd := joinT seqNd [gT, bT]
def smallNds (L : List Nd) : Prop := ∀ d ∈ L, d.kids.length ≤ 1000000 ∧ d.set.length ≤ 1000000
theorem small_a : smallNds aT := by unfold smallNds; decide
theorem small_g : smallNds gT := by unfold smallNds; decide
theorem small_b : smallNds bT := by unfold smallNds; decide
theorem TH.few {w : World} {q : Option Addr} {m cq : Nat} {ys : List NV} {L : List Nd} (h : TH w q m cq ys L) (hL : smallNds L) : Few ys := few_nds h.nds hL
theorem TH.leng {w : World} {q : Option Addr} {m cq : Nat} {ys : List NV} {L : List Nd} (h : TH w q m cq ys L) : m = L.length := by rw [h.len, ← h.nds, nds_length]
theorem ne_box {w : World} {b0 b i : Nat} {T : TypeId} {cs : Array Value} {k : IntKind} {z : Int} (hb : Bx w b0 T cs) (hcs : ∀ v ∈ cs.toList, ∀ k z, v ≠ Value.int k z) (h : w.cell? ⟨b, i, none⟩ = some (.int k z)) : b ≠ b0 := by
  rintro rfl
  have h2 : w.cell? ⟨b, i, none⟩ = cs[i]? := by simp [World.cell?, show w.heap[b]? = _ from hb]
  rw [h2] at h
  obtain ⟨hi, e⟩ := Array.getElem?_eq_some_iff.1 h
  exact hcs _ (by rw [← e]; simp) k z rfl
theorem slN_off {w : World} {b0 i : Nat} {T : TypeId} {cs : Array Value} {q : Option Addr} {ys : List NV} {u : Value} (h : SlN w q ys) (hb : Bx w b0 T cs) (hcs : ∀ v ∈ cs.toList, ∀ k z, v ≠ Value.int k z) : SlN (w.setCell ⟨b0, i, none⟩ u) q ys := by
  have kp : ∀ {b j : Nat} {v : Value}, b ≠ b0 → w.cell? ⟨b, j, none⟩ = some v → (w.setCell ⟨b0, i, none⟩ u).cell? ⟨b, j, none⟩ = some v := fun {b j v} hne h => (World.cell?_of_block (Below.heap_setCell w ⟨b0, i, none⟩ u b hne)).trans h
  refine ⟨fun x hx => ?_, ?_⟩
  · have hi := h.all x hx
    refine ⟨?_, ?_, hi.sn, hi.kn, hi.sl, hi.kl⟩
    · rcases hi.set with h0 | ⟨b, off, h1, h2⟩
      · exact .inl h0
      · exact .inr ⟨b, off, h1, fun j hj => ⟨kp (ne_box hb hcs (h2 j hj).1) (h2 j hj).1, kp (ne_box hb hcs (h2 j hj).1) (h2 j hj).2⟩⟩
    · rcases hi.kids with h0 | ⟨b, off, h1, h2⟩
      · exact .inl h0
      · exact .inr ⟨b, off, h1, fun j hj => kp (ne_box hb hcs (h2 j hj)) (h2 j hj)⟩
  · rcases h.cells with h0 | ⟨b, off, h1, h2⟩
    · exact .inl h0
    · refine .inr ⟨b, off, h1, fun j hj => ?_⟩
      obtain ⟨a0, a1, a2, a3, a4, a5, a6, a7, a8⟩ := h2 j hj
      have hne := ne_box hb hcs a0
      exact ⟨kp hne a0, kp hne a1, kp hne a2, kp hne a3, kp hne a4, kp hne a5, kp hne a6, kp hne a7, kp hne a8⟩
theorem two_slices (a c : Option Addr) (n m k l : Nat) : ∀ v ∈ (#[Value.slice a n m, Value.slice c k l] : Array Value).toList, ∀ k z, v ≠ Value.int k z := by
  intro v hv k z e
  simp only [List.mem_cons, List.not_mem_nil, or_false] at hv
  rcases hv with rfl | rfl <;> cases e
def ExPost (w : World) (e : Ending) (w' : World) : Prop := ∃ q cq ys g, e = .returned (.agg #[.slice q 4 cq, .slice (some ⟨g, 0, none⟩) 1 1]) ∧ TH w' q 4 cq ys exT ∧ Bx w' g 9 #[.string ⟨#[]⟩] ∧ Below w.heap.size w w'
set_option maxHeartbeats 3200000 in
set_option maxRecDepth 100000 in
theorem example_any (w : World) : Calls Tryz.prog 25 #[] w (ExPost w) := by
  obtain ⟨w0, hw0⟩ : ∃ W, W = w.alloc (.cells #[.slice none 0 0, .slice none 0 0] 34) := ⟨_, rfl⟩
  obtain ⟨b0, hb0⟩ : ∃ b, b = w.heap.size := ⟨_, rfl⟩
  have hB0 : Below w.heap.size w w0 := by rw [hw0]; exact bl_alloc _ _
  have hR0 : Bx w0 b0 34 #[.slice none 0 0, .slice none 0 0] := by rw [hw0, hb0]; exact Bx.new w _ _
  have HG := Lib.hid (group6_any 1 w0)
  have HW0 := Lib.hid (And.intro hw0 hb0)
  have HB0 := Lib.hid hB0
  have HR0 := Lib.hid hR0
  clear hw0 hb0 hB0 hR0
  go_enter Tryz.func25, Tryz.ntmps25
  go_wp2_with fail
  rw [← HW0.out.2, show w.alloc (.cells #[.slice none 0 0, .slice none 0 0] 34) = w0 from HW0.out.1.symm]
  refine (HG.out).mono ?_
  rintro e w1 ⟨x1, rfl, hx1, hi1, hb1⟩
  have HX1 := Lib.hid (And.intro hx1 hi1)
  have HB1 := Lib.hid hb1
  have HS1 := Lib.hid (set6_any 97 w1)
  clear hx1 hi1 hb1
  go_wp2_with fail
  refine (HS1.out).mono ?_
  rintro e w2 ⟨x2, rfl, hx2, hi2, hb2⟩
  have HB2 := Lib.hid hb2
  have HJ2 := Lib.hid (join0 x2 (setNd 97) w2 hi2 hx2 (by decide))
  clear hx2 hi2 hb2
  go_wp2_with fail
  refine (HJ2.out).mono ?_
  rintro e w3 ⟨q3, m3, c3, ys3, rfl, ht3, hb3⟩
  obtain ⟨w4, hw4⟩ : ∃ W, W = w3.alloc (.cells #[.slice q3 m3 c3, .slice none 0 0] 34) := ⟨_, rfl⟩
  have hb4 : Below w3.heap.size w3 w4 := by rw [hw4]; exact bl_alloc _ _
  have hX4 : Bx w4 w3.heap.size 34 #[.slice q3 m3 c3, .slice none 0 0] := by rw [hw4]; exact Bx.new w3 _ _
  have hb14 : Below w1.heap.size w1 w4 := HB2.out.trans ((hb3.trans (hb4.mono hb3.size)).mono HB2.out.size)
  have HJ4 := Lib.hid (join1 x1 (groupNd 1) w3.heap.size 1 q3 m3 c3 ys3 aT w4 (HX1.out.2.below hb14) HX1.out.1 (by decide) (ht3.below hb4) hX4 (ht3.few small_a) (by rw [ht3.leng]; decide))
  have HB14 := Lib.hid hb14
  have HW4 := Lib.hid hw4
  clear ht3 hb3 hb4 hX4 hb14 hw4
  go_wp2_with fail
  rw [← HW4.out]
  refine (HJ4.out).mono ?_
  rintro e w5 ⟨q5, m5, c5, ys5, rfl, ht5, hb5⟩
  have HT5 := Lib.hid ht5
  have HB5 := Lib.hid hb5
  have HS5 := Lib.hid (set6_any 98 w5)
  clear ht5 hb5
  go_wp2_with fail
  refine (HS5.out).mono ?_
  rintro e w6 ⟨x3, rfl, hx3, hi3, hb6⟩
  have HB6 := Lib.hid hb6
  have HJ6 := Lib.hid (join0 x3 (setNd 98) w6 hi3 hx3 (by decide))
  clear hx3 hi3 hb6
  go_wp2_with fail
  refine (HJ6.out).mono ?_
  rintro e w7 ⟨q7, m7, c7, ys7, rfl, ht7, hb7⟩
  obtain ⟨w8, hw8⟩ : ∃ W, W = w7.alloc (.cells #[.slice q5 m5 c5, .slice none 0 0, .slice q7 m7 c7, .slice none 0 0] 34) := ⟨_, rfl⟩
  have hb8 : Below w7.heap.size w7 w8 := by rw [hw8]; exact bl_alloc _ _
  have hX8 : Bx w8 w7.heap.size 34 #[.slice q5 m5 c5, .slice none 0 0, .slice q7 m7 c7, .slice none 0 0] := by rw [hw8]; exact Bx.new w7 _ _
  have hb58 : Below w5.heap.size w5 w8 := HB6.out.trans ((hb7.trans (hb8.mono hb7.size)).mono HB6.out.size)
  have HJ8 := Lib.hid (join2 ⟨seqNd, none, 0, none, 0⟩ seqNd w7.heap.size 2 q5 q7 m5 c5 m7 c7 ys5 ys7 gT bT w8 ⟨.inl rfl, .inl rfl, fun _ => rfl, fun _ => rfl, Nat.le_refl _, Nat.le_refl _⟩ rfl (by decide) (HT5.out.below hb58) (ht7.below hb8) hX8 (HT5.out.few small_g) (ht7.few small_b) (by rw [HT5.out.leng, ht7.leng]; decide))
  have hb08 : Below w0.heap.size w0 w8 := HB1.out.trans (((HB14.out.trans (HB5.out.mono HB14.out.size)).trans (hb58.mono (HB14.out.trans (HB5.out.mono HB14.out.size)).size)).mono HB1.out.size)
  have HB08 := Lib.hid hb08
  have HW8 := Lib.hid hw8
  have hen : (encN ⟨seqNd, none, 0, none, 0⟩).toArray = #[.int .u8 3, .slice none 0 0, .slice none 0 0, .int .i64 0, .int .i64 0, .int .i64 0, .int .u8 0, .int .u8 0, .bool false] := rfl
  rw [hen] at HJ8
  clear ht7 hb7 hb8 hX8 hb58 hw8 hb08 hen
  go_wp2_with fail
  rw [← HW8.out]
  refine (HJ8.out).mono ?_
  rintro e w9 ⟨q9, m9, c9, ys9, rfl, ht9, hb9⟩
  have hm9 : m9 = 4 := by rw [ht9.leng]; rfl
  subst hm9
  have hb09 : Below w.heap.size w w9 := HB0.out.trans ((HB08.out.trans (hb9.mono HB08.out.size)).mono HB0.out.size)
  have hR9 : Bx w9 b0 34 #[.slice none 0 0, .slice none 0 0] := (HR0.out.below HB08.out).below hb9
  have r0 : w9.cell? ⟨b0, 0, none⟩ = some (.slice none 0 0) := hR9.cell rfl
  have r1 : w9.cell? ⟨b0, 1, none⟩ = some (.slice none 0 0) := hR9.cell rfl
  have f0 := hR9.free 0
  have f1 := hR9.free 1
  have hbl : b0 < w9.heap.size := hR9.lt
  have HT9 := Lib.hid ht9
  have HB09 := Lib.hid hb09
  have HR9 := Lib.hid hR9
  clear ht9 hb9 hb09 hR9
  go_wp2
  obtain ⟨wa, hwa⟩ : ∃ W, W = (w9.setCell ⟨b0, 0, none⟩ (.slice q9 4 c9)).setCell ⟨b0, 1, none⟩ (.slice (some ⟨w9.heap.size + 1, 0, none⟩) 1 1) := ⟨_, rfl⟩
  have hRa : Bx wa b0 34 #[.slice q9 4 c9, .slice (some ⟨w9.heap.size + 1, 0, none⟩) 1 1] := by rw [hwa]; exact (HR9.out.set 0 _).set 1 _
  have hsz : wa.heap.size = w9.heap.size := by rw [hwa]; simp
  have hNa : SlN wa q9 ys9 := by rw [hwa]; exact slN_off (slN_off HT9.out.nodes HR9.out (two_slices _ _ _ _ _ _)) (HR9.out.set 0 (.slice q9 4 c9)) (two_slices _ _ _ _ _ _)
  have hBa : Below w.heap.size w wa := by
    rw [hwa]
    have := HW0.out.2
    exact (HB09.out.setCell (p := ⟨b0, 0, none⟩) (by show _ ≤ b0; omega) _).setCell (p := ⟨b0, 1, none⟩) (by show _ ≤ b0; omega) _
  rw [← hwa]
  have hbb : Below wa.heap.size wa ((wa.alloc (.cells #[.slice q9 4 c9, .slice (some ⟨w9.heap.size + 1, 0, none⟩) 1 1] 34)).alloc (.cells #[.string ⟨#[]⟩] 9)) := bl_trans (bl_alloc _ _) (bl_alloc _ _)
  have hRb := hRa.below hbb
  have z0 := hRb.cell (i := 0) (v := .slice q9 4 c9) rfl
  have z1 := hRb.cell (i := 1) (v := .slice (some ⟨w9.heap.size + 1, 0, none⟩) 1 1) rfl
  refine bodyPost_ret (v := .agg #[.slice q9 4 c9, .slice (some ⟨w9.heap.size + 1, 0, none⟩) 1 1]) (by simp [results, Tryz.results25, go_sem, z0, z1]) rfl ?_
  refine ⟨q9, c9, ys9, w9.heap.size + 1, rfl, ⟨HT9.out.len, hNa.below hbb, HT9.out.nil, HT9.out.le, HT9.out.max, HT9.out.nds⟩, ?_, hBa.trans (hbb.mono hBa.size)⟩
  have h := Bx.new (wa.alloc (.cells #[.slice q9 4 c9, .slice (some ⟨w9.heap.size + 1, 0, none⟩) 1 1] 34)) 9 #[.string ⟨#[]⟩]
  rw [World.size_alloc, hsz] at h
  exact h
end Go.Proofs.YtjpccmiaimkmbaaGreat


namespace Go.Proofs.YtjpccmiaimkmbaaGreat
open Go.RowKit Tnr Tnt

def mkN (d : Nd) : NV := ⟨d, none, 0, none, 0⟩
def kindN (d : Nd) : Bool := kindB (mkN d)
def evN (ks : List Int) : Nat → List Nd → List (Nat × Nd)
  | _, [] => []
  | k, d :: ds => if d.kind ∈ ks then (k, d) :: evN ks (k + 1) ds else evN ks (k + 1) ds
theorem ev_nds (ks : List Int) : ∀ (xs : List NV) (k : Nat), (ev ks k xs).map (fun x => (x.1, x.2.nd)) = evN ks k (nds xs)
  | [], _ => rfl
  | x :: xs, k => by
    have h := ev_nds ks xs (k + 1)
    show (ev ks k (x :: xs)).map _ = evN ks k (x.nd :: nds xs)
    unfold ev evN
    split
    · rw [List.map_cons, h]
    · exact h
def kindsN (L : List Nd) : Bool := L.all kindN
theorem kindsB_nds (xs : List NV) : kindsB xs = kindsN (nds xs) := by
  unfold kindsB kindsN nds
  rw [List.all_map]; rfl
def allN (P : Nd → Bool) (L : List Nd) (ks : List Int) : Bool := (evN ks 0 L).all fun x => P x.2
theorem allB_nds (P : Nd → Bool) (xs : List NV) (ks : List Int) : allB P xs ks = allN P (nds xs) ks := by
  unfold allB allN
  rw [← ev_nds, List.all_map]; rfl
def plN (ks : List Int) (L : List Nd) : List Int := (evN ks 0 L).map fun x => ((x.1 : Nat) : Int)
theorem evP_nds (ks : List Int) (xs : List NV) : evP ks xs = plN ks (nds xs) := by
  unfold evP plN
  rw [← ev_nds, List.map_map]; rfl
def nN (L : List Nd) (i : Nat) : Nd := L.getD i nd0
theorem gn_nds (xs : List NV) (i : Nat) : (gn xs i).nd = nN (nds xs) i := by
  unfold gn nN nds
  rw [List.getD_eq_getElem?_getD, List.getD_eq_getElem?_getD, List.getElem?_map]
  cases xs[i]? <;> rfl
def begN (L : List Nd) (fs : List Int) : List Int := begL fs (plN [5] L)
def cntN (L : List Nd) (ps : List Int) : Bool := (List.range ps.length).all fun i => (nN L (gz ps i).toNat).group == (i : Int) + 1
def countN (L : List Nd) (fs : List Int) (nm : Nat) : Bool := cntN L (begN L fs) && (begN L fs).length == nm
theorem countB_nds (xs : List NV) (fs : List Int) (nm : Nat) : countB xs fs nm = countN (nds xs) fs nm := by
  unfold countB countN begG begN countOk cntN
  rw [evP_nds]
  simp only [gn_nds]
def writtenN (L : List Nd) (l : List (Nat × Nat)) (nm : Nat) : Bool := decide ((gf l (L.length - 1)).2 ≤ 60) && (allN neverB L [12, 13] && (countN L (fsZ l) nm && allN (upToB nm) L [8]))
theorem writtenB_nds (xs : List NV) (l : List (Nat × Nat)) (nm : Nat) : writtenB xs l nm = writtenN (nds xs) l nm := by
  unfold writtenB writtenN
  rw [allB_nds, allB_nds, countB_nds, nds_length]
def spreadN (L : List Nd) (nm : Nat) : Bool := allN (upToB nm) L [5, 8] && allN endlessB L [7]
theorem spreadB_nds (xs : List NV) (l : List (Nat × Nat)) (nm : Nat) : spreadB xs l nm = spreadN (nds xs) nm := by
  unfold spreadB spreadN
  rw [allB_nds, allB_nds]
def soundN (L : List Nd) (nm : List ByteArray) : Bool := (ordT L).isSome && (kindsN L && namedB nm)
def rightN (L : List Nd) (nm : List ByteArray) : Bool := soundN L nm && match ordT L with
  | none => false
  | some l => writtenN L l nm.length
def spreadTN (L : List Nd) (nm : List ByteArray) : Bool := soundN L nm && match ordT L with
  | none => false
  | some _ => spreadN L nm.length
theorem rightT_nds (xs : List NV) (nm : List ByteArray) : rightT xs nm = rightN (nds xs) nm := by
  unfold rightT rightN soundB soundN
  rw [kindsB_nds]
  cases ordT (nds xs) with
  | none => rfl
  | some l => simp only [writtenB_nds]
theorem spreadT_nds (xs : List NV) (nm : List ByteArray) : spreadT xs nm = spreadTN (nds xs) nm := by
  unfold spreadT spreadTN soundB soundN
  rw [kindsB_nds]
  cases ordT (nds xs) with
  | none => rfl
  | some l => simp only [spreadB_nds]
def grN (L : List Nd) : List Int := (evN [5] 0 L).map fun x => x.2.group
theorem grL_nds (xs : List NV) : grL xs = grN (nds xs) := by
  unfold grL grN
  rw [← ev_nds, List.map_map]; rfl
def emp : ByteArray := ⟨#[]⟩
theorem named_emp : namedB [emp] = true := by
  unfold namedB
  have h1 : nameOk [emp] 0 = true := by
    unfold nameOk
    have : (gb [emp] 0).toList.isEmpty = true := by
      show (emp.toList).isEmpty = true
      rw [Go.ByteArray.toList_eq]; rfl
    rw [this]; rfl
  have h2 : (List.range [emp].length) = [0] := rfl
  rw [h2]
  simp [h1]
theorem ord_ex : ordT exT = some [(0, 1), (0, 2), (2, 1), (0, 3)] := by decide
theorem kinds_ex : kindsN exT = true := by decide
theorem pl_ex : plN [5] exT = [1] := by decide
theorem beg_ex (fs : List Int) : begN exT fs = [1] := by unfold begN begL; rw [pl_ex]; simp
theorem right_ex : rightN exT [emp] = true := by
  unfold rightN soundN writtenN countN
  rw [ord_ex, kinds_ex, named_emp]
  simp only [beg_ex]
  decide
theorem spread_ex : spreadTN exT [emp] = true := by
  unfold spreadTN soundN
  rw [ord_ex, kinds_ex, named_emp]
  decide
theorem gr_ex : grN exT = [1] := by decide
theorem kids_ex : kidsT exT = [gT, bT] := by
  unfold kidsT
  rw [ord_ex]
  decide
theorem deep_ex : deepT exT = 3 := by
  unfold deepT
  rw [ord_ex]
  decide
theorem last_ex : (nN exT 3).kids = [1, 2] := by decide
end Go.Proofs.YtjpccmiaimkmbaaGreat

