/- The chapter's tables, in memory of the call's own; what stores make of them. -/
import Derived.Test.YtglgfpapackcdaaGreatGsj
import Derived.Test.YtglgfpapackcdaaGreatGrj

namespace Go.Proofs.YtglgfpapackcdaaGreat
open Go.RowKit Tnr

theorem ownF_new {w : World} {B n : Nat} {l : List R} {cs : Array Value} (hB : B ≤ w.heap.size) (hcs : cs = (l.flatMap encR).toArray) (hn : n = l.length) (hl : l.length ≤ 1000000) : OwnF (w.alloc (.cells cs 33)) B (.slice (some ⟨w.heap.size, 0, none⟩) n n) l := by
  subst hn
  refine ⟨encs_length l, .inr ⟨w.heap.size, l.length, cs, rfl, hB, heap_alloc_new w _, Nat.le_refl _, by simp only [maxLen]; omega, ?_, ?_⟩⟩
  · rw [hcs]; simp only [List.size_toArray]; exact encs_length l
  · rw [hcs]; exact List.take_of_length_le (by rw [encs_length]; exact Nat.le_refl _)
theorem ownP_new {w : World} {B n : Nat} {l : List PV} {cs : Array Value} (hB : B ≤ w.heap.size) (hcs : cs = (l.flatMap encP).toArray) (hn : n = l.length) (hl : l.length ≤ 1000000) : OwnP (w.alloc (.cells cs 37)) B (.slice (some ⟨w.heap.size, 0, none⟩) n n) l := by
  subst hn
  refine ⟨encPs_length l, .inr ⟨w.heap.size, l.length, cs, rfl, hB, heap_alloc_new w _, Nat.le_refl _, by simp only [maxLen]; omega, ?_, ?_⟩⟩
  · rw [hcs]; simp only [List.size_toArray]; exact encPs_length l
  · rw [hcs]; exact List.take_of_length_le (by rw [encPs_length]; exact Nat.le_refl _)
structure Some0 (w : World) (B b : Nat) (F : List R) (P : List PV) : Prop where
  lo : B ≤ b
  hi : b + 3 < w.heap.size
  fo : OwnF w B (.slice (some ⟨b, 0, none⟩) 4 4) F
  po : OwnP w B (.slice (some ⟨b + 3, 0, none⟩) 2 2) P
  ps : ∀ x ∈ P, OwnR w B (.slice x.2.1 x.2.2.2.length x.2.2.1) x.2.2.2
theorem Some0.below {w w' : World} {B b : Nat} {F : List R} {P : List PV} (h : Some0 w B b F P) (hb : Below w.heap.size w w') : Some0 w' B b F P :=
  ⟨h.lo, Nat.lt_of_lt_of_le h.hi hb.size, ownF_below h.fo hb, ownP_below h.po hb, fun x hx => ownR_below (h.ps x hx) hb⟩
theorem Some0.fl {w : World} {B b : Nat} {F : List R} {P : List PV} (h : Some0 w B b F P) : F.length = 4 := by
  obtain ⟨p', c', hs, _⟩ := ownF_form h.fo
  simp only [Value.slice.injEq] at hs
  exact hs.2.1.symm
theorem Some0.pl {w : World} {B b : Nat} {F : List R} {P : List PV} (h : Some0 w B b F P) : P.length = 2 := by
  obtain ⟨p', c', hs⟩ := ownP_form h.po
  simp only [Value.slice.injEq] at hs
  exact hs.2.1.symm
theorem ownR_sl {w : World} {B : Nat} {q : Option Addr} {n c : Nat} {l : List R} (h : OwnR w B (.slice q n c) l) : SlR w q l ∧ (q = none → c = 0) := by
  obtain ⟨p', c', hs, _, _, h0, hsl, _⟩ := ownR_form h
  simp only [Value.slice.injEq] at hs
  obtain ⟨rfl, _, rfl⟩ := hs
  exact ⟨hsl, h0⟩
theorem Some0.slf {w : World} {B b : Nat} {F : List R} {P : List PV} (h : Some0 w B b F P) : SlR w (some ⟨b, 0, none⟩) F := by
  obtain ⟨p', c', hs, _, _, _, hsl, _⟩ := ownF_form h.fo
  simp only [Value.slice.injEq] at hs
  rw [hs.1]; exact hsl
theorem Some0.slp {w : World} {B b : Nat} {F : List R} {P : List PV} (h : Some0 w B b F P) : SlP w (some ⟨b + 3, 0, none⟩) P :=
  ⟨fun x hx => (ownR_sl (h.ps x hx)).1, .inr ⟨b + 3, 0, rfl, fun i hi => by
    have := ownP_cellN h.po h.pl.symm i (by have := h.pl; omega)
    rw [Nat.zero_add]; exact this⟩⟩
theorem enc_setL : ∀ (F : List R) (i : Nat) (v : Int), i < F.length → (F.flatMap encR).set (i * 2) (.int .i64 v) = (F.set i (v, (gr F i).2)).flatMap encR ∧ (F.flatMap encR).set (i * 2 + 1) (.int .i64 v) = (F.set i ((gr F i).1, v)).flatMap encR
  | [], i, v, h => by simp at h
  | f :: F, 0, v, _ => ⟨rfl, rfl⟩
  | f :: F, i + 1, v, h => by
    have ih := enc_setL F i v (by simpa using h)
    have e : gr (f :: F) (i + 1) = gr F i := rfl
    rw [e, List.set_cons_succ, List.set_cons_succ, List.flatMap_cons, List.flatMap_cons, List.flatMap_cons, ← ih.1, ← ih.2, show (i + 1) * 2 = i * 2 + 1 + 1 by omega]
    exact ⟨rfl, rfl⟩
theorem encP_setL : ∀ (P : List PV) (i : Nat) (nm : ByteArray) (q : Option Addr) (c : Nat) (l : List R), i < P.length → (P.flatMap encP).set (i * 2) (.string nm) = (P.set i (nm, (gp P i).2)).flatMap encP ∧ (P.flatMap encP).set (i * 2 + 1) (.slice q l.length c) = (P.set i ((gp P i).1, q, c, l)).flatMap encP
  | [], i, _, _, _, _, h => by simp at h
  | f :: P, 0, _, _, _, _, _ => ⟨rfl, rfl⟩
  | f :: P, i + 1, nm, q, c, l, h => by
    have ih := encP_setL P i nm q c l (by simpa using h)
    have e : gp (f :: P) (i + 1) = gp P i := rfl
    rw [e, List.set_cons_succ, List.set_cons_succ, List.flatMap_cons, List.flatMap_cons, List.flatMap_cons, ← ih.1, ← ih.2, show (i + 1) * 2 = i * 2 + 1 + 1 by omega]
    exact ⟨rfl, rfl⟩
theorem ownF_block {w : World} {B b n c : Nat} {F : List R} (h : OwnF w B (.slice (some ⟨b, 0, none⟩) n c) F) : ∃ cur, w.heap[b]? = some (.cells cur 33 (0, 0)) := by
  rcases h.2 with ⟨h', _⟩ | ⟨g', cap', cur, h', hb, hg, _⟩
  · simp at h'
  · simp only [Value.slice.injEq, Option.some.injEq, Addr.mk.injEq, and_true] at h'
    obtain ⟨rfl, _⟩ := h'
    exact ⟨cur, hg⟩
theorem ownP_block {w : World} {B b n c : Nat} {F : List PV} (h : OwnP w B (.slice (some ⟨b, 0, none⟩) n c) F) : ∃ cur, w.heap[b]? = some (.cells cur 37 (0, 0)) := by
  rcases h.2 with ⟨h', _⟩ | ⟨g', cap', cur, h', hb, hg, _⟩
  · simp at h'
  · simp only [Value.slice.injEq, Option.some.injEq, Addr.mk.injEq, and_true] at h'
    obtain ⟨rfl, _⟩ := h'
    exact ⟨cur, hg⟩
theorem Some0.other {w : World} {B b : Nat} {F : List R} {P : List PV} (h : Some0 w B b F P) (a : Addr) (u : Value) (h1 : b ≠ a.block) (h2 : b + 3 ≠ a.block) {cur : Array Value} {T : TypeId} {fz : Nat × Nat} (hb : w.heap[a.block]? = some (.cells cur T fz)) (hT : T ≠ 24) : Some0 (w.setCell a u) B b F P :=
  ⟨h.lo, by rw [World.size_setCell]; exact h.hi, ownsRow_setCell_other (a := a) h.fo (by simpa [Value.ownBlock] using h1) u, ownsRow_setCell_other (a := a) h.po (by simpa [Value.ownBlock] using h2) u, fun x hx => ownsRow_setCell_other (a := a) (h.ps x hx) (ownR_ne (h.ps x hx) hb hT) u⟩
theorem Some0.fold {w : World} {B b : Nat} {F : List R} {P : List PV} (h : Some0 w B b F P) (i : Nat) (hi : i < 4) (v : Int) :
    Some0 (w.setCell ⟨b, i * 2, none⟩ (.int .i64 v)) B b (F.set i (v, (gr F i).2)) P ∧ Some0 (w.setCell ⟨b, i * 2 + 1, none⟩ (.int .i64 v)) B b (F.set i ((gr F i).1, v)) P := by
  obtain ⟨cur, hcur⟩ := ownF_block h.fo
  have hl := h.fl
  have key : ∀ (j : Nat) (F' : List R), F'.length = F.length → (F.flatMap encR).set j (.int .i64 v) = F'.flatMap encR → Some0 (w.setCell ⟨b, j, none⟩ (.int .i64 v)) B b F' P := by
    intro j F' hF' he
    refine ⟨h.lo, by rw [World.size_setCell]; exact h.hi, ?_, ownsRow_setCell_other (a := ⟨b, j, none⟩) h.po (by simp [Value.ownBlock]) _, fun x hx => ownsRow_setCell_other (a := ⟨b, j, none⟩) (h.ps x hx) (ownR_ne (h.ps x hx) hcur (by decide)) _⟩
    have h0 := h.fo
    unfold OwnF at h0 ⊢
    rw [hF', ← he]
    rw [hl] at h0 ⊢
    exact (h0.stored j (.int .i64 v)).1
  exact ⟨key _ _ (by simp) (enc_setL F i v (by omega)).1, key _ _ (by simp) (enc_setL F i v (by omega)).2⟩
theorem mem_set_or {α : Type} {l : List α} {i : Nat} {a x : α} (h : x ∈ l.set i a) : x = a ∨ x ∈ l := by
  rcases List.mem_or_eq_of_mem_set h with h | h
  · exact .inr h
  · exact .inl h
theorem Some0.prop {w : World} {B b : Nat} {F : List R} {P : List PV} (h : Some0 w B b F P) (i : Nat) (hi : i < 2) (nm : ByteArray) (q : Option Addr) (c : Nat) (l : List R) :
    Some0 (w.setCell ⟨b + 3, i * 2, none⟩ (.string nm)) B b F (P.set i (nm, (gp P i).2)) ∧ (OwnR w B (.slice q l.length c) l → Some0 (w.setCell ⟨b + 3, i * 2 + 1, none⟩ (.slice q l.length c)) B b F (P.set i ((gp P i).1, q, c, l))) := by
  obtain ⟨cur, hcur⟩ := ownP_block h.po
  have hl := h.pl
  have key : ∀ (j : Nat) (u : Value) (P' : List PV), P'.length = P.length → (∀ x ∈ P', OwnR w B (.slice x.2.1 x.2.2.2.length x.2.2.1) x.2.2.2) → (P.flatMap encP).set j u = P'.flatMap encP → Some0 (w.setCell ⟨b + 3, j, none⟩ u) B b F P' := by
    intro j u P' hP' hps he
    refine ⟨h.lo, by rw [World.size_setCell]; exact h.hi, ownsRow_setCell_other (a := ⟨b + 3, j, none⟩) h.fo (by simp [Value.ownBlock]) _, ?_, fun x hx => ownsRow_setCell_other (a := ⟨b + 3, j, none⟩) (hps x hx) (ownR_ne (hps x hx) hcur (by decide)) _⟩
    have h0 := h.po
    unfold OwnP at h0 ⊢
    rw [hP', ← he]
    rw [hl] at h0 ⊢
    exact (h0.stored j u).1
  refine ⟨key _ _ _ (by simp) (fun x hx => ?_) (encP_setL P i nm q c l (by omega)).1, fun ho => key _ _ _ (by simp) (fun x hx => ?_) (encP_setL P i nm q c l (by omega)).2⟩
  · rcases mem_set_or hx with rfl | hx
    · have := h.ps (gp P i) (by rw [gp_get (by omega)]; exact List.getElem_mem _)
      exact this
    · exact h.ps x hx
  · rcases mem_set_or hx with rfl | hx
    · exact ho
    · exact h.ps x hx

set_option maxHeartbeats 1600000 in
set_option maxRecDepth 100000 in
theorem some_own (w : World) : Calls Tryz.prog 4 #[] w fun e w' => ∃ b, e = .returned (.agg #[.slice (some ⟨b, 0, none⟩) 4 4, .slice (some ⟨b + 3, 0, none⟩) 2 2]) ∧ Some0 w' w.heap.size b F0 (P0 b) ∧ Below w.heap.size w w' := by
  obtain ⟨b, hb⟩ : ∃ b, b = w.heap.size + 1 := ⟨_, rfl⟩
  obtain ⟨w1, hw1⟩ : ∃ W, W = w.alloc (.cells #[.slice (some ⟨b, 0, none⟩) 4 4, .slice (some ⟨b + 3, 0, none⟩) 2 2] 30) := ⟨_, rfl⟩
  obtain ⟨w2, hw2⟩ : ∃ W, W = w1.alloc (.cells #[.int .i64 65, .int .i64 97, .int .i64 75, .int .i64 107, .int .i64 383, .int .i64 115, .int .i64 8490, .int .i64 107] 33) := ⟨_, rfl⟩
  obtain ⟨w3, hw3⟩ : ∃ W, W = w2.alloc (.cells #[.int .i64 0, .int .i64 1114111] 24) := ⟨_, rfl⟩
  obtain ⟨w4, hw4⟩ : ∃ W, W = w3.alloc (.cells #[.int .i64 65, .int .i64 90] 24) := ⟨_, rfl⟩
  obtain ⟨w5, hw5⟩ : ∃ W, W = w4.alloc (.cells #[.string ⟨#[65, 110, 121]⟩, .slice (some ⟨b + 1, 0, none⟩) 1 1, .string ⟨#[76, 117]⟩, .slice (some ⟨b + 2, 0, none⟩) 1 1] 37) := ⟨_, rfl⟩
  have s1 : w1.heap.size = b := by rw [hw1, hb]; simp
  have s2 : w2.heap.size = b + 1 := by rw [hw2]; simp [s1]
  have s3 : w3.heap.size = b + 2 := by rw [hw3]; simp [s2]
  have s4 : w4.heap.size = b + 3 := by rw [hw4]; simp [s3]
  have b1 : Below w.heap.size w w1 := by rw [hw1]; exact bl_alloc _ _
  have b2 : Below w1.heap.size w1 w2 := by rw [hw2]; exact bl_alloc _ _
  have b3 : Below w2.heap.size w2 w3 := by rw [hw3]; exact bl_alloc _ _
  have b4 : Below w3.heap.size w3 w4 := by rw [hw4]; exact bl_alloc _ _
  have b5 : Below w4.heap.size w4 w5 := by rw [hw5]; exact bl_alloc _ _
  have hres : w1.heap[w.heap.size]? = some (.cells #[.slice (some ⟨b, 0, none⟩) 4 4, .slice (some ⟨b + 3, 0, none⟩) 2 2] 30 (0, 0)) := by rw [hw1]; exact heap_alloc_new w _
  have hres5 : w5.heap[w.heap.size]? = some (.cells #[.slice (some ⟨b, 0, none⟩) 4 4, .slice (some ⟨b + 3, 0, none⟩) 2 2] 30 (0, 0)) := by
    have hbb := bl_trans b2 (bl_trans b3 (bl_trans b4 b5))
    rw [hbb.block _ (lt_of_block hres)]; exact hres
  have hF : OwnF w5 w.heap.size (.slice (some ⟨b, 0, none⟩) 4 4) F0 := by
    have h0 : OwnF w2 w.heap.size (.slice (some ⟨w1.heap.size, 0, none⟩) 4 4) F0 := by rw [hw2]; exact ownF_new b1.size rfl rfl (by decide)
    rw [s1] at h0
    exact ownF_below h0 (bl_trans b3 (bl_trans b4 b5))
  have hA : OwnR w5 w.heap.size (.slice (some ⟨b + 1, 0, none⟩) 1 1) [(0, 1114111)] := by
    have h0 : OwnR w3 w.heap.size (.slice (some ⟨w2.heap.size, 0, none⟩) 1 1) [(0, 1114111)] := by rw [hw3]; exact ownR_new (bl_trans b1 b2).size rfl rfl (by decide)
    rw [s2] at h0
    exact ownR_below h0 (bl_trans b4 b5)
  have hL : OwnR w5 w.heap.size (.slice (some ⟨b + 2, 0, none⟩) 1 1) [(65, 90)] := by
    have h0 : OwnR w4 w.heap.size (.slice (some ⟨w3.heap.size, 0, none⟩) 1 1) [(65, 90)] := by rw [hw4]; exact ownR_new (bl_trans b1 (bl_trans b2 b3)).size rfl rfl (by decide)
    rw [s3] at h0
    exact ownR_below h0 b5
  have hP : OwnP w5 w.heap.size (.slice (some ⟨b + 3, 0, none⟩) 2 2) (P0 b) := by
    have h0 : OwnP w5 w.heap.size (.slice (some ⟨w4.heap.size, 0, none⟩) 2 2) (P0 b) := by rw [hw5]; exact ownP_new (bl_trans b1 (bl_trans b2 (bl_trans b3 b4))).size rfl rfl (by show 2 ≤ _; decide)
    rw [s4] at h0
    exact h0
  have hT := Lib.hid (show Some0 w5 w.heap.size b F0 (P0 b) from ⟨by omega, by rw [hw5]; simp [s4], hF, hP, fun x hx => by
    simp only [P0, List.mem_cons, List.not_mem_nil, or_false] at hx
    rcases hx with rfl | rfl
    · exact hA
    · exact hL⟩)
  have HBB := Lib.hid (bl_trans b1 (bl_trans b2 (bl_trans b3 (bl_trans b4 b5))))
  have HR := Lib.hid hres5
  clear hF hA hL hP hres hres5 b1 b2 b3 b4 b5 s1 s2 s3 s4
  go_enter Tryz.func4, Tryz.ntmps4
  go_wp2
  have e2 : w.heap.size + 1 + 1 = b + 1 := by rw [hb]
  have e3 : w.heap.size + 1 + 1 + 1 = b + 2 := by rw [hb]
  have e4 : w.heap.size + 1 + 1 + 1 + 1 = b + 3 := by rw [hb]
  rw [e4, e3, e2, ← hb, ← hw1, ← hw2, ← hw3, ← hw4, ← hw5]
  refine bodyPost_ret (results_cell_row rfl _ _ w.heap.size 30 _ (0, 0) _ rfl HR.out Tryz.underlying30 rfl (by kernel_rfl)) rfl ?_
  exact ⟨b, rfl, hT.out, HBB.out⟩

theorem tells_some {W : World} {B b : Nat} {F : List R} {P : List PV} (h : Some0 W B b F P) (hz : ∀ x ∈ P, x.1.size ≤ 9223372036854775807 ∧ x.2.2.2.length ≤ 9223372036854775807) (q : Option Addr) (cq k : Nat) (xs : List SV) (c : Int) (z : ByteArray) (hk : k = xs.length) (hx : SlS W q xs) (hkI : k ≤ 100) (hxz : ∀ i, i < k → (gs xs i).2.2.length ≤ 100) (hxn : ∀ i, i < k → (gs xs i).1 = none → (gs xs i).2.1 = 0) (hzs : z.size ≤ 1000) :
    Calls Tryz.prog 5 #[.agg #[.slice (some ⟨b, 0, none⟩) 4 4, .slice (some ⟨b + 3, 0, none⟩) 2 2], .int .i64 c, .string z, .slice q k cq] W fun e w' => e = .returned (.bool true) ∧ Hid (Below W.heap.size W w') :=
  foldTells_true _ _ q 4 2 cq 4 2 k F P xs c z W h.fl.symm h.slf (by decide) (by simp) h.pl.symm h.slp (by decide) hz (fun i hi h0 => (ownR_sl (h.ps (gp P i) (by rw [gp_get (by have := h.pl; omega)]; exact List.getElem_mem _))).2 h0) hk hx (by omega) (fun i hi => by have := hxz i hi; omega) hxn (by omega)
end Go.Proofs.YtglgfpapackcdaaGreat
