/- Rows of props; when they are right. -/
import Derived.Test.YtgcgclmfjlecaaaGreatGj

namespace Go.Proofs.YtgcgclmfjlecaaaGreat
open Go.RowKit Tnr

/-- a prop: its name; its set's slice, and set. -/
abbrev PV := ByteArray × Option Addr × Nat × List R
def gp (xs : List PV) (i : Nat) : PV := xs.getD i (⟨#[]⟩, none, 0, [])
theorem gp_get {l : List PV} {i : Nat} (h : i < l.length) : gp l i = l[i] := by
  unfold gp; rw [List.getD_eq_getElem?_getD, List.getElem?_eq_getElem h]; rfl
/-- a slice of props. -/
def SlP (w : World) (p : Option Addr) (xs : List PV) : Prop :=
  (∀ x ∈ xs, SlR w x.2.1 x.2.2.2) ∧ (xs = [] ∨ ∃ b off, p = some ⟨b, off, none⟩ ∧ ∀ i, i < xs.length → w.cell? ⟨b, off + i * 2, none⟩ = some (.string (gp xs i).1) ∧ w.cell? ⟨b, off + i * 2 + 1, none⟩ = some (.slice (gp xs i).2.1 (gp xs i).2.2.2.length (gp xs i).2.2.1))
theorem SlP.below {w w' : World} {p : Option Addr} {xs : List PV} (h : SlP w p xs) (hb : Below w.heap.size w w') : SlP w' p xs := by
  refine ⟨fun x hx => (h.1 x hx).below hb, ?_⟩
  rcases h.2 with h | ⟨b, off, h1, h2⟩
  · exact .inl h
  · exact .inr ⟨b, off, h1, fun i hi => ⟨by rw [hb.cell (World.block_lt_of_cell? w _ (h2 i hi).1)]; exact (h2 i hi).1, by rw [hb.cell (World.block_lt_of_cell? w _ (h2 i hi).2)]; exact (h2 i hi).2⟩⟩
theorem slp_at {w : World} {p : Option Addr} {xs : List PV} (h : SlP w p xs) {k : Nat} (hk : k < xs.length) :
    ∃ b off, p = some ⟨b, off, none⟩ ∧ w.cell? ⟨b, off + k * 2, none⟩ = some (.string (gp xs k).1) ∧ w.cell? ⟨b, off + k * 2 + 1, none⟩ = some (.slice (gp xs k).2.1 (gp xs k).2.2.2.length (gp xs k).2.2.1) := by
  rcases h.2 with h | ⟨b, off, h1, h2⟩
  · rw [h] at hk; simp at hk
  · exact ⟨b, off, h1, h2 k hk⟩
theorem pS_below {w1 W W' : World} {a b c d : Addr} {v0 v1 v2 v3 : Value} (h : W.cell? a = some v0 ∧ W.cell? b = some v1 ∧ W.cell? c = some v2 ∧ W.cell? d = some v3 ∧ Hid (Below w1.heap.size w1 W)) (hb : Below W.heap.size W W') : W'.cell? a = some v0 ∧ W'.cell? b = some v1 ∧ W'.cell? c = some v2 ∧ W'.cell? d = some v3 ∧ Hid (Below w1.heap.size w1 W') := by
  obtain ⟨h1, h2, h3, h4, h5⟩ := h
  refine ⟨?_, ?_, ?_, ?_, bl_trans h5.out hb⟩
  · rw [hb.cell (World.block_lt_of_cell? _ _ h1)]; exact h1
  · rw [hb.cell (World.block_lt_of_cell? _ _ h2)]; exact h2
  · rw [hb.cell (World.block_lt_of_cell? _ _ h3)]; exact h3
  · rw [hb.cell (World.block_lt_of_cell? _ _ h4)]; exact h4
def leB (a b : ByteArray) : Bool := Op.bytesLess a.toList b.toList || a.toList == b.toList
/-- one prop is right, behind the one ahead. -/
def PR1 (xs : List PV) (i : Nat) : Prop := nameB (gp xs i).1.data.toList = true ∧ (0 < i → leB (gp xs i).1 (gp xs (i - 1)).1 = false) ∧ (gp xs i).2.2.2.length ≤ 2000 ∧ rightB (gp xs i).2.2.2 = true
def PR (xs : List PV) : Prop := ∀ i, i < xs.length → PR1 xs i
/-- what propsRight tells. -/
def PropsOk : Prop := ∀ (pf pp : Option Addr) (cf cp m0 n : Nat) (xs : List PV) (w : World), n = xs.length → SlP w pp xs → n ≤ 10000000000000 → (∀ x ∈ xs, x.2.2.2.length ≤ 10000000000000) →
  Calls Tryz.prog 61 #[.agg #[.slice pf m0 cf, .slice pp n cp]] w fun e w' => ∃ t : Bool, e = .returned (.bool t) ∧ (t = true ↔ PR xs) ∧ Below w.heap.size w w'
/-- tables are right. -/
def TR (F : List R) (xs : List PV) : Prop := FR F ∧ PR xs
/-- tables that came in: folds, props. -/
structure Tab (w : World) (pf : Option Addr) (n : Nat) (pp : Option Addr) (m : Nat) (F : List R) (xs : List PV) : Prop where
  fl : n = F.length
  fs : SlR w pf F
  fb : n ≤ 10000000000000
  pl : m = xs.length
  ps : SlP w pp xs
  pb : m ≤ 10000000000000
  pe : ∀ x ∈ xs, x.2.2.2.length ≤ 10000000000000
theorem Tab.below {w w' : World} {pf pp : Option Addr} {n m : Nat} {F : List R} {xs : List PV} (h : Tab w pf n pp m F xs) (hb : Below w.heap.size w w') : Tab w' pf n pp m F xs := ⟨h.fl, h.fs.below hb, h.fb, h.pl, h.ps.below hb, h.pb, h.pe⟩
set_option maxHeartbeats 1600000 in
set_option maxRecDepth 100000 in
theorem tright_any (HPO : PropsOk) (pf pp : Option Addr) (cf cp n m : Nat) (F : List R) (xs : List PV) (w : World) (h : Tab w pf n pp m F xs) :
    Calls Tryz.prog 30 #[.agg #[.slice pf n cf, .slice pp m cp]] w fun e w' => ∃ t : Bool, e = .returned (.bool t) ∧ (t = true ↔ TR F xs) ∧ Below w.heap.size w w' := by
  have hbx := BoxT.new w pf n cf pp m cp
  have hc0 := hbx.c0
  have hc1 := hbx.c1
  have h1 := h.below (bl_alloc w (.cells #[.slice pf n cf, .slice pp m cp] 75))
  have HBX := Lib.hid hbx
  have H1 := Lib.hid h1
  have HFR := Lib.hid (foldsRight_any pf pp cf cp n m F (w.alloc (.cells #[.slice pf n cf, .slice pp m cp] 75)) h1.fl h1.fs h1.fb)
  have HPH := Lib.hid HPO
  clear h h1 hbx HPO
  go_enter Tryz.func30, Tryz.ntmps30
  go_wp2_with fail
  refine HFR.out.mono ?_
  rintro e w2 ⟨t, rfl, ht, hb2⟩
  have hd0 := (HBX.out.below hb2).c0
  have hd1 := (HBX.out.below hb2).c1
  have HB2 := Lib.hid (bl_trans (bl_alloc w (.cells #[.slice pf n cf, .slice pp m cp] 75)) hb2)
  have HT := Lib.hid ht
  cases t with
  | false =>
    have HV : Hid ((false = true) ↔ TR F xs) := ⟨(fun h => by cases h), fun h => HT.out.2 h.1⟩
    clear ht hb2 hc0 hc1 HFR
    go_wp2
    go_ret
    exact ⟨false, rfl, HV.out, HB2.out⟩
  | true =>
    have h2 := H1.out.below hb2
    have HPC := Lib.hid (HPH.out pf pp cf cp n m xs w2 h2.pl h2.ps h2.pb h2.pe)
    clear ht hb2 hc0 hc1 HFR h2
    go_wp2_with fail
    refine HPC.out.mono ?_
    rintro e w3 ⟨u, rfl, hu, hb3⟩
    have HB3 := Lib.hid (bl_trans HB2.out hb3)
    have HV : Hid (u = true ↔ TR F xs) := ⟨fun h => ⟨HT.out.1 (by trivial), hu.1 h⟩, fun h => hu.2 h.2⟩
    clear hu hb3 hd0 hd1
    go_wp2
    go_ret
    exact ⟨u, rfl, HV.out, HB3.out⟩
theorem two_set0 {w : World} {b : Nat} {u v x : Value} {t : TypeId} (h : w.heap[b]? = some (.cells #[u, v] t (0, 0))) : (w.setCell ⟨b, 0, none⟩ x).heap[b]? = some (.cells #[x, v] t (0, 0)) := by
  have hlt := lt_of_block h
  have h' : w.heap[b] = .cells #[u, v] t (0, 0) := by simpa [Array.getElem?_eq_getElem hlt] using h
  show (w.heap.modify b _)[b]? = _
  rw [Array.getElem?_eq_getElem (by simpa using hlt), Array.getElem_modify_self, h']
  rfl
set_option maxHeartbeats 1600000 in
set_option maxRecDepth 100000 in
theorem taken_any (HPO : PropsOk) (pf pp : Option Addr) (cf cp n m : Nat) (F : List R) (xs : List PV) (w : World) (h : Tab w pf n pp m F xs) :
    Calls Tryz.prog 27 #[.agg #[.slice pf n cf, .slice pp m cp]] w fun e w' => ((TR F xs ∧ e = .returned (.agg #[.slice pf n cf, .slice pp m cp])) ∨ (¬ TR F xs ∧ e = .returned (.agg #[.slice none 0 0, .slice none 0 0]))) ∧ Below w.heap.size w w' := by
  obtain ⟨W0, hW0⟩ : ∃ W, W = ((w.alloc (.cells #[.slice pf n cf, .slice pp m cp] 25)).alloc (.cells #[.slice none 0 0, .slice none 0 0] 75)).alloc (.cells #[.slice pf n cf, .slice pp m cp] 75) := ⟨_, rfl⟩
  have hb0 : Below w.heap.size w W0 := by rw [hW0]; exact bl_trans (bl_alloc w _) (bl_trans (bl_alloc _ _) (bl_alloc _ _))
  have h2 : BoxT W0 (w.heap.size + 1 + 1) pf n cf pp m cp := by
    have q := BoxT.new ((w.alloc (.cells #[.slice pf n cf, .slice pp m cp] 25)).alloc (.cells #[.slice none 0 0, .slice none 0 0] 75)) pf n cf pp m cp
    rw [show ((w.alloc (.cells #[.slice pf n cf, .slice pp m cp] 25)).alloc (.cells #[.slice none 0 0, .slice none 0 0] 75)).heap.size = w.heap.size + 1 + 1 by simp, ← hW0] at q
    exact q
  have h1 : BoxT W0 (w.heap.size + 1) none 0 0 none 0 0 := by
    have q := BoxT.new (w.alloc (.cells #[.slice pf n cf, .slice pp m cp] 25)) none 0 0 none 0 0
    rw [show (w.alloc (.cells #[.slice pf n cf, .slice pp m cp] 25)).heap.size = w.heap.size + 1 by simp] at q
    rw [hW0]
    exact q.below (bl_alloc _ _)
  have HRG := Lib.hid (tright_any HPO pf pp cf cp n m F xs W0 (h.below hb0))
  have HB0 := Lib.hid hb0
  have H1 := Lib.hid h1
  have H2 := Lib.hid h2
  rw [hW0] at HRG
  clear h HPO h1 h2 hb0
  go_enter Tryz.func27, Tryz.ntmps27
  go_wp2_with fail
  refine HRG.out.mono ?_
  rw [← hW0]
  rintro e w2 ⟨t, rfl, ht, hb2⟩
  have h1 := H1.out.below hb2
  have h2 := H2.out.below hb2
  have c10 := h1.c0
  have c11 := h1.c1
  have c20 := h2.c0
  have c21 := h2.c1
  have f10 : w2.frozen? ⟨w.heap.size + 1, 0, none⟩ = false := by simp [World.frozen?, show w2.heap[w.heap.size + 1]? = _ from h1]
  have f11 : w2.frozen? ⟨w.heap.size + 1, 1, none⟩ = false := by simp [World.frozen?, show w2.heap[w.heap.size + 1]? = _ from h1]
  have HB2 := Lib.hid (bl_trans HB0.out hb2)
  have HT := Lib.hid ht
  have hbs : Hid (w.heap.size ≤ w.heap.size + 1) := Nat.le_succ _
  have K1 : Hid (w2.heap[w.heap.size + 1]? = some (.cells #[.slice none 0 0, .slice none 0 0] 75 (0, 0))) := h1
  clear ht hb2 h1 h2 HRG hW0
  cases t with
  | false =>
    have HV : Hid (¬ TR F xs) := fun h => absurd (HT.out.2 h) (by decide)
    generalize hb1 : w.heap.size + 1 = b1 at *
    go_wp2
    have X := two_set1 (x := .slice none 0 0) (two_set0 (x := .slice none 0 0) K1.out)
    refine bodyPost_ret (results_cell_row rfl _ _ b1 75 _ (0, 0) _ rfl X Tryz.underlying75 rfl (by kernel_rfl)) rfl ?_
    exact ⟨.inr ⟨HV.out, rfl⟩, (HB2.out.setCell hbs.out _).setCell hbs.out _⟩
  | true =>
    have HV : Hid (TR F xs) := HT.out.1 (by trivial)
    generalize hb1 : w.heap.size + 1 = b1 at *
    go_wp2
    have X := two_set1 (x := .slice pp m cp) (two_set0 (x := .slice pf n cf) K1.out)
    refine bodyPost_ret (results_cell_row rfl _ _ b1 75 _ (0, 0) _ rfl X Tryz.underlying75 rfl (by kernel_rfl)) rfl ?_
    exact ⟨.inl ⟨HV.out, rfl⟩, (HB2.out.setCell hbs.out _).setCell hbs.out _⟩
end Go.Proofs.YtgcgclmfjlecaaaGreat
