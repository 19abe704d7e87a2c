/- Rows of props; when they are right. -/
/- markText, markProp, and the walk of LentProp: a prop handed in. -/
import Derived.Test.YtglgfpapackcdaaGreatGj
import Derived.Test.YtglgfpapackcdaaGreatRzc
import Derived.OneCell
import Derived.Laws.IdiomStrings

namespace Go.Proofs.YtglgfpapackcdaaGreat
open Go.RowKit Tnr

abbrev PV := ByteArray × Option Addr × Nat × List R
def gp (xs : List PV) (i : Nat) : PV := xs.getD i (⟨#[]⟩, none, 0, [])
theorem gp_get {l : List PV} {i : Nat} (h : i < l.length) : gp l i = l[i] := by
  unfold gp; rw [List.getD_eq_getElem?_getD, List.getElem?_eq_getElem h]; rfl
def SlP (w : World) (p : Option Addr) (xs : List PV) : Prop :=
  (∀ x ∈ xs, SlR w x.2.1 x.2.2.2) ∧ (xs = [] ∨ ∃ b off, p = some ⟨b, off, none⟩ ∧ ∀ i, i < xs.length → w.cell? ⟨b, off + i * 2, none⟩ = some (.string (gp xs i).1) ∧ w.cell? ⟨b, off + i * 2 + 1, none⟩ = some (.slice (gp xs i).2.1 (gp xs i).2.2.2.length (gp xs i).2.2.1))
theorem SlP.below {w w' : World} {p : Option Addr} {xs : List PV} (h : SlP w p xs) (hb : Below w.heap.size w w') : SlP w' p xs := by
  refine ⟨fun x hx => (h.1 x hx).below hb, ?_⟩
  rcases h.2 with h | ⟨b, off, h1, h2⟩
  · exact .inl h
  · exact .inr ⟨b, off, h1, fun i hi => ⟨by rw [hb.cell (World.block_lt_of_cell? w _ (h2 i hi).1)]; exact (h2 i hi).1, by rw [hb.cell (World.block_lt_of_cell? w _ (h2 i hi).2)]; exact (h2 i hi).2⟩⟩
theorem slp_at {w : World} {p : Option Addr} {xs : List PV} (h : SlP w p xs) {k : Nat} (hk : k < xs.length) :
    ∃ b off, p = some ⟨b, off, none⟩ ∧ w.cell? ⟨b, off + k * 2, none⟩ = some (.string (gp xs k).1) ∧ w.cell? ⟨b, off + k * 2 + 1, none⟩ = some (.slice (gp xs k).2.1 (gp xs k).2.2.2.length (gp xs k).2.2.1) := by
  rcases h.2 with h | ⟨b, off, h1, h2⟩
  · rw [h] at hk; simp at hk
  · exact ⟨b, off, h1, h2 k hk⟩
def leB (a b : ByteArray) : Bool := Op.bytesLess a.toList b.toList || a.toList == b.toList
def PR1 (xs : List PV) (i : Nat) : Prop := nameB (gp xs i).1.data.toList = true ∧ (0 < i → leB (gp xs i).1 (gp xs (i - 1)).1 = false) ∧ (gp xs i).2.2.2.length ≤ 2000 ∧ rightB (gp xs i).2.2.2 = true
def PR (xs : List PV) : Prop := ∀ i, i < xs.length → PR1 xs i
def PropsOk : Prop := ∀ (pf pp : Option Addr) (cf cp m0 n : Nat) (xs : List PV) (w : World), n = xs.length → SlP w pp xs → n ≤ 10000000000000 → (∀ x ∈ xs, x.2.2.2.length ≤ 10000000000000) →
  Calls Tryz.prog 69 #[.agg #[.slice pf m0 cf, .slice pp n cp]] w fun e w' => ∃ t : Bool, e = .returned (.bool t) ∧ (t = true ↔ PR xs) ∧ Below w.heap.size w w'
def TR (F : List R) (xs : List PV) : Prop := FR F ∧ PR xs
structure Tab (w : World) (pf : Option Addr) (n : Nat) (pp : Option Addr) (m : Nat) (F : List R) (xs : List PV) : Prop where
  fl : n = F.length
  fs : SlR w pf F
  fb : n ≤ 10000000000000
  pl : m = xs.length
  ps : SlP w pp xs
  pb : m ≤ 10000000000000
  pe : ∀ x ∈ xs, x.2.2.2.length ≤ 10000000000000
theorem Tab.below {w w' : World} {pf pp : Option Addr} {n m : Nat} {F : List R} {xs : List PV} (h : Tab w pf n pp m F xs) (hb : Below w.heap.size w w') : Tab w' pf n pp m F xs := ⟨h.fl, h.fs.below hb, h.fb, h.pl, h.ps.below hb, h.pb, h.pe⟩
set_option maxHeartbeats 1600000 in
set_option maxRecDepth 100000 in
theorem tright_any (HPO : PropsOk) (pf pp : Option Addr) (cf cp n m : Nat) (F : List R) (xs : List PV) (w : World) (h : Tab w pf n pp m F xs) :
    Calls Tryz.prog 31 #[.agg #[.slice pf n cf, .slice pp m cp]] w fun e w' => ∃ t : Bool, e = .returned (.bool t) ∧ (t = true ↔ TR F xs) ∧ Below w.heap.size w w' := by
  have hbx := BoxT.new w pf n cf pp m cp
  have hc0 := hbx.c0
  have hc1 := hbx.c1
  have h1 := h.below (bl_alloc w (.cells #[.slice pf n cf, .slice pp m cp] 69))
  have HBX := Lib.hid hbx
  have H1 := Lib.hid h1
  have HFR := Lib.hid (foldsRight_any pf pp cf cp n m F (w.alloc (.cells #[.slice pf n cf, .slice pp m cp] 69)) h1.fl h1.fs h1.fb)
  have HPH := Lib.hid HPO
  clear h h1 hbx HPO
  go_enter Tryz.func31, Tryz.ntmps31
  go_wp2_with fail
  refine HFR.out.mono ?_
  rintro e w2 ⟨t, rfl, ht, hb2⟩
  have hd0 := (HBX.out.below hb2).c0
  have hd1 := (HBX.out.below hb2).c1
  have HB2 := Lib.hid (bl_trans (bl_alloc w (.cells #[.slice pf n cf, .slice pp m cp] 69)) hb2)
  have HT := Lib.hid ht
  cases t with
  | false =>
    have HV : Hid ((false = true) ↔ TR F xs) := ⟨(fun h => by cases h), fun h => HT.out.2 h.1⟩
    clear ht hb2 hc0 hc1 HFR
    go_wp2
    go_ret
    exact ⟨false, rfl, HV.out, HB2.out⟩
  | true =>
    have h2 := H1.out.below hb2
    have HPC := Lib.hid (HPH.out pf pp cf cp n m xs w2 h2.pl h2.ps h2.pb h2.pe)
    clear ht hb2 hc0 hc1 HFR h2
    go_wp2_with fail
    refine HPC.out.mono ?_
    rintro e w3 ⟨u, rfl, hu, hb3⟩
    have HB3 := Lib.hid (bl_trans HB2.out hb3)
    have HV : Hid (u = true ↔ TR F xs) := ⟨fun h => ⟨HT.out.1 (by trivial), hu.1 h⟩, fun h => hu.2 h.2⟩
    clear hu hb3 hd0 hd1
    go_wp2
    go_ret
    exact ⟨u, rfl, HV.out, HB3.out⟩
theorem two_set0 {w : World} {b : Nat} {u v x : Value} {t : TypeId} (h : w.heap[b]? = some (.cells #[u, v] t (0, 0))) : (w.setCell ⟨b, 0, none⟩ x).heap[b]? = some (.cells #[x, v] t (0, 0)) := by
  have hlt := lt_of_block h
  have h' : w.heap[b] = .cells #[u, v] t (0, 0) := by simpa [Array.getElem?_eq_getElem hlt] using h
  show (w.heap.modify b _)[b]? = _
  rw [Array.getElem?_eq_getElem (by simpa using hlt), Array.getElem_modify_self, h']
  rfl
set_option maxHeartbeats 1600000 in
set_option maxRecDepth 100000 in
theorem taken_any (HPO : PropsOk) (pf pp : Option Addr) (cf cp n m : Nat) (F : List R) (xs : List PV) (w : World) (h : Tab w pf n pp m F xs) :
    Calls Tryz.prog 45 #[.agg #[.slice pf n cf, .slice pp m cp]] w fun e w' => ((TR F xs ∧ e = .returned (.agg #[.slice pf n cf, .slice pp m cp])) ∨ (¬ TR F xs ∧ e = .returned (.agg #[.slice none 0 0, .slice none 0 0]))) ∧ Below w.heap.size w w' := by
  obtain ⟨W0, hW0⟩ : ∃ W, W = ((w.alloc (.cells #[.slice pf n cf, .slice pp m cp] 30)).alloc (.cells #[.slice none 0 0, .slice none 0 0] 69)).alloc (.cells #[.slice pf n cf, .slice pp m cp] 69) := ⟨_, rfl⟩
  have hb0 : Below w.heap.size w W0 := by rw [hW0]; exact bl_trans (bl_alloc w _) (bl_trans (bl_alloc _ _) (bl_alloc _ _))
  have h2 : BoxT W0 (w.heap.size + 1 + 1) pf n cf pp m cp := by
    have q := BoxT.new ((w.alloc (.cells #[.slice pf n cf, .slice pp m cp] 30)).alloc (.cells #[.slice none 0 0, .slice none 0 0] 69)) pf n cf pp m cp
    rw [show ((w.alloc (.cells #[.slice pf n cf, .slice pp m cp] 30)).alloc (.cells #[.slice none 0 0, .slice none 0 0] 69)).heap.size = w.heap.size + 1 + 1 by simp, ← hW0] at q
    exact q
  have h1 : BoxT W0 (w.heap.size + 1) none 0 0 none 0 0 := by
    have q := BoxT.new (w.alloc (.cells #[.slice pf n cf, .slice pp m cp] 30)) none 0 0 none 0 0
    rw [show (w.alloc (.cells #[.slice pf n cf, .slice pp m cp] 30)).heap.size = w.heap.size + 1 by simp] at q
    rw [hW0]
    exact q.below (bl_alloc _ _)
  have HRG := Lib.hid (tright_any HPO pf pp cf cp n m F xs W0 (h.below hb0))
  have HB0 := Lib.hid hb0
  have H1 := Lib.hid h1
  have H2 := Lib.hid h2
  rw [hW0] at HRG
  clear h HPO h1 h2 hb0
  go_enter Tryz.func45, Tryz.ntmps45
  go_wp2_with fail
  refine HRG.out.mono ?_
  rw [← hW0]
  rintro e w2 ⟨t, rfl, ht, hb2⟩
  have h1 := H1.out.below hb2
  have h2 := H2.out.below hb2
  have c10 := h1.c0
  have c11 := h1.c1
  have c20 := h2.c0
  have c21 := h2.c1
  have f10 : w2.frozen? ⟨w.heap.size + 1, 0, none⟩ = false := by simp [World.frozen?, show w2.heap[w.heap.size + 1]? = _ from h1]
  have f11 : w2.frozen? ⟨w.heap.size + 1, 1, none⟩ = false := by simp [World.frozen?, show w2.heap[w.heap.size + 1]? = _ from h1]
  have HB2 := Lib.hid (bl_trans HB0.out hb2)
  have HT := Lib.hid ht
  have hbs : Hid (w.heap.size ≤ w.heap.size + 1) := Nat.le_succ _
  have K1 : Hid (w2.heap[w.heap.size + 1]? = some (.cells #[.slice none 0 0, .slice none 0 0] 69 (0, 0))) := h1
  clear ht hb2 h1 h2 HRG hW0
  cases t with
  | false =>
    have HV : Hid (¬ TR F xs) := fun h => absurd (HT.out.2 h) (by decide)
    generalize hb1 : w.heap.size + 1 = b1 at *
    go_wp2
    have X := two_set1 (x := .slice none 0 0) (two_set0 (x := .slice none 0 0) K1.out)
    refine bodyPost_ret (results_cell_row rfl _ _ b1 69 _ (0, 0) _ rfl X Tryz.underlying69 rfl (by kernel_rfl)) rfl ?_
    exact ⟨.inr ⟨HV.out, rfl⟩, (HB2.out.setCell hbs.out _).setCell hbs.out _⟩
  | true =>
    have HV : Hid (TR F xs) := HT.out.1 (by trivial)
    generalize hb1 : w.heap.size + 1 = b1 at *
    go_wp2
    have X := two_set1 (x := .slice pp m cp) (two_set0 (x := .slice pf n cf) K1.out)
    refine bodyPost_ret (results_cell_row rfl _ _ b1 69 _ (0, 0) _ rfl X Tryz.underlying69 rfl (by kernel_rfl)) rfl ?_
    exact ⟨.inl ⟨HV.out, rfl⟩, (HB2.out.setCell hbs.out _).setCell hbs.out _⟩
end Go.Proofs.YtglgfpapackcdaaGreat


namespace Go.Proofs.YtglgfpapackcdaaGreat
open Go.RowKit Tnr

theorem ptwo_cells {w : World} {b : Nat} {u v : Value} {T : TypeId} (h : w.heap[b]? = some (.cells #[u, v] T (0, 0))) : w.cell? ⟨b, 0, none⟩ = some u ∧ w.cell? ⟨b, 1, none⟩ = some v ∧ w.frozen? ⟨b, 0, none⟩ = false ∧ w.frozen? ⟨b, 1, none⟩ = false := by
  refine ⟨by simp [World.cell?, h], by simp [World.cell?, h], by simp [World.frozen?, h], by simp [World.frozen?, h]⟩
theorem ptwo_set0 {w : World} {b : Nat} {u v : Value} {T : TypeId} (h : w.heap[b]? = some (.cells #[u, v] T (0, 0))) (x : Value) : (w.setCell ⟨b, 0, none⟩ x).heap[b]? = some (.cells #[x, v] T (0, 0)) := by
  simp [World.setCell, h, Array.getElem?_modify]
theorem ptwo_set1 {w : World} {b : Nat} {u v : Value} {T : TypeId} (h : w.heap[b]? = some (.cells #[u, v] T (0, 0))) (y : Value) : (w.setCell ⟨b, 1, none⟩ y).heap[b]? = some (.cells #[u, y] T (0, 0)) := by
  simp [World.setCell, h, Array.getElem?_modify]

def mt (i : Nat) : ByteArray := ⟨#[35, 1, 0, 0, 47, UInt8.ofNat i, 0, 0]⟩
theorem conv_mt (w : World) (i : Nat) (hi : i ≤ 11) :
    (convert 35 9 (.slice (some ⟨w.heap.size, 0, none⟩) 8 8)).run Tryz.prog (w.alloc (.cells #[.int .u8 35, .int .u8 1, .int .u8 0, .int .u8 0, .int .u8 47, .int .u8 (i : Nat), .int .u8 0, .int .u8 0] 5)) = .ok (.string (mt i)) (w.alloc (.cells #[.int .u8 35, .int .u8 1, .int .u8 0, .int .u8 0, .int .u8 47, .int .u8 (i : Nat), .int .u8 0, .int .u8 0] 5)) := by
  have hu : ((UInt8.ofNat i).toNat : Int) = (i : Nat) := by
    rw [UInt8.toNat_ofNat']; omega
  have h := run_convert_bytes_back (P := Tryz.prog) (w.alloc (.cells #[.int .u8 35, .int .u8 1, .int .u8 0, .int .u8 0, .int .u8 47, .int .u8 (i : Nat), .int .u8 0, .int .u8 0] 5)) 35 9 5 ⟨w.heap.size, 0, none⟩ 8 [35, 1, 0, 0, 47, UInt8.ofNat i, 0, 0] Tryz.underlying35 Tryz.underlying5 Tryz.underlying9 (fun j hj => by
    have e2 : (⟨w.heap.size, 0, none⟩ : Addr).add j = ⟨w.heap.size, j, none⟩ := by simp [Addr.add]; exact Eq.symm
    rw [e2, World.cell?_alloc_at _ _ _ _ rfl]
    match j, hj with
    | 0, _ => rfl
    | 1, _ => rfl
    | 2, _ => rfl
    | 3, _ => rfl
    | 4, _ => rfl
    | 5, _ => show some _ = some (Value.int .u8 ((UInt8.ofNat i).toNat : Int)); rw [hu]; rfl
    | 6, _ => rfl
    | 7, _ => rfl)
  exact h
set_option maxHeartbeats 1600000 in
set_option maxRecDepth 100000 in
theorem markText_any (i : Nat) (w : World) (hi : i ≤ 11) : Calls Tryz.prog 118 #[.int .i64 1, .int .i64 (i : Nat)] w fun e w' => e = .returned (.string (mt i)) ∧ Below w.heap.size w w' := by
  have hiI : (i : Int) ≤ 11 := by omega
  have e1 : (i : Int) / 256 = 0 := by omega
  have e2 : (i : Int) / 65536 = 0 := by omega
  have HC := conv_mt w i hi
  go_enter Tryz.func118, Tryz.ntmps118
  go_wp2
  try rw [e1, e2, HC]
  go_wp2
  go_ret
  exact ⟨rfl, bl_alloc _ _⟩
set_option maxHeartbeats 1600000 in
set_option maxRecDepth 100000 in
theorem markProp_any (i : Nat) (w : World) (hi : i ≤ 11) : Calls Tryz.prog 73 #[.int .i64 1, .int .i64 (i : Nat)] w fun e w' => e = .returned (.agg #[.string (mt i), .slice none 0 0]) ∧ Below w.heap.size w w' := by
  have hiI : (i : Int) ≤ 11 := by omega
  obtain ⟨w0, hw0⟩ : ∃ w0, w0 = w.alloc (.cells #[.string ⟨#[]⟩, .slice none 0 0] 37) := ⟨_, rfl⟩
  have HM := Lib.hid (markText_any i w0 hi)
  have hB0 : Below w.heap.size w w0 := by subst hw0; exact bl_alloc _ _
  have hR0 : w0.heap[w.heap.size]? = some (.cells #[.string ⟨#[]⟩, .slice none 0 0] 37 (0, 0)) := by subst hw0; exact heap_alloc_new w _
  have HB0 := Lib.hid hB0
  have HR0 := Lib.hid hR0
  have HS0 : Hid (w.heap.size < w0.heap.size) := by subst hw0; show _ < _; simp
  have HW0 := Lib.hid hw0
  clear hB0 hR0 hw0
  go_enter Tryz.func73, Tryz.ntmps73
  go_wp2_with fail
  rw [← HW0.out]
  refine HM.out.mono ?_
  rintro e w1 ⟨rfl, hb1⟩
  have hR1 : w1.heap[w.heap.size]? = some (.cells #[.string ⟨#[]⟩, .slice none 0 0] 37 (0, 0)) := by rw [hb1.block _ HS0.out]; exact HR0.out
  obtain ⟨hc0, hc1, hf0, hf1⟩ := ptwo_cells hR1
  have hR2 := ptwo_set0 hR1 (.string (mt i))
  obtain ⟨hd0, hd1, hg0, hg1⟩ := ptwo_cells hR2
  have hR3 := ptwo_set1 hR2 (.slice none 0 0)
  obtain ⟨he0, he1, _, _⟩ := ptwo_cells hR3
  have HB1 := Lib.hid (((HB0.out.trans (hb1.mono HB0.out.size)).setCell (p := ⟨w.heap.size, 0, none⟩) (Nat.le_refl _) (.string (mt i))).setCell (p := ⟨w.heap.size, 1, none⟩) (Nat.le_refl _) (.slice none 0 0))
  clear hb1 hR1 hR2 hR3
  go_wp2
  refine bodyPost_ret (v := .agg #[.string (mt i), .slice none 0 0]) (by simp [results, Tryz.results73, go_sem, he0, he1]) rfl ?_
  exact ⟨rfl, HB1.out⟩

def LentPPost (nm : ByteArray) (n : Nat) (l : List R) (w : World) (e : Ending) (w' : World) : Prop :=
  ∃ g cap, e = .returned (.agg #[.string nm, .slice (some ⟨g, 0, none⟩) n cap]) ∧ n + 12 ≤ cap ∧ cap ≤ 9223372036854775807 ∧ OwnR w' w.heap.size (.slice (some ⟨g, 0, none⟩) (n + 12) cap) (l ++ marksR 12) ∧ Below w.heap.size w w'

set_option maxHeartbeats 1600000 in
set_option maxRecDepth 100000 in
theorem lentProp_any (nm : ByteArray) (p : Option Addr) (cp n : Nat) (l : List R) (w : World) (hn : n = l.length) (hp : SlR w p l) (hl : l.length ≤ 3000) (hpn : p = none → cp = 0) :
    Calls Tryz.prog 72 #[.agg #[.string nm, .slice p n cp]] w (LentPPost nm n l w) := by
  obtain ⟨w0, hw0⟩ : ∃ w0, w0 = (w.alloc (.cells #[.string nm, .slice p n cp] 37)).alloc (.cells #[.string ⟨#[]⟩, .slice none 0 0] 37) := ⟨_, rfl⟩
  have hB0 : Below w.heap.size w w0 := by subst hw0; exact ((Below.refl _ _).alloc (Nat.le_refl _) _).alloc (by simp) _
  have hX0 : w0.heap[w.heap.size]? = some (.cells #[.string nm, .slice p n cp] 37 (0, 0)) := by
    subst hw0
    rw [Below.heap_alloc _ _ _ (by simp)]; exact heap_alloc_new w _
  have hR0 : w0.heap[w.heap.size + 1]? = some (.cells #[.string ⟨#[]⟩, .slice none 0 0] 37 (0, 0)) := by
    have h := heap_alloc_new (w.alloc (.cells #[.string nm, .slice p n cp] 37)) (.cells #[.string ⟨#[]⟩, .slice none 0 0] 37)
    subst hw0
    simpa using h
  have hs0 : w0.heap.size = w.heap.size + 2 := by subst hw0; simp
  obtain ⟨hc0, hc1, _, _⟩ := ptwo_cells hX0
  have HLL := Lib.hid (lentR_any p cp n l w0 hn (hp.below hB0) (Nat.le_trans hl (by decide)) hpn)
  have HB0 := Lib.hid hB0
  have HX0 := Lib.hid hX0
  have HR0 := Lib.hid hR0
  have HS0 := Lib.hid hs0
  have HW0 := Lib.hid hw0
  clear hB0 hX0 hR0 hs0 hw0 hp hl hpn hn
  go_enter Tryz.func72, Tryz.ntmps72
  go_wp2_with fail
  rw [← HW0.out]
  refine HLL.out.mono ?_
  rintro e w1 ⟨g, cap, rfl, h1, h2, h3, hb1⟩
  have hX1 : w1.heap[w.heap.size]? = some (.cells #[.string nm, .slice p n cp] 37 (0, 0)) := by rw [hb1.block _ (by rw [HS0.out]; omega)]; exact HX0.out
  have hR1 : w1.heap[w.heap.size + 1]? = some (.cells #[.string ⟨#[]⟩, .slice none 0 0] 37 (0, 0)) := by rw [hb1.block _ (by rw [HS0.out]; omega)]; exact HR0.out
  obtain ⟨ha0, ha1, hf0, hf1⟩ := ptwo_cells hX1
  have hX2 := ptwo_set1 hX1 (.slice (some ⟨g, 0, none⟩) n cap)
  have hR2 : (w1.setCell ⟨w.heap.size, 1, none⟩ (.slice (some ⟨g, 0, none⟩) n cap)).heap[w.heap.size + 1]? = some (.cells #[.string ⟨#[]⟩, .slice none 0 0] 37 (0, 0)) := by
    rw [Below.heap_setCell _ _ _ _ (by simp)]; exact hR1
  obtain ⟨hd0, hd1, hg0, hg1⟩ := ptwo_cells hX2
  obtain ⟨hr0, hr1, hs0, hs1⟩ := ptwo_cells hR2
  have hR3 := ptwo_set0 hR2 (.string nm)
  obtain ⟨ht0, ht1, hu0, hu1⟩ := ptwo_cells hR3
  have hR4 := ptwo_set1 hR3 (.slice (some ⟨g, 0, none⟩) n cap)
  obtain ⟨hv0, hv1, _, _⟩ := ptwo_cells hR4
  have hO2 : OwnR _ w0.heap.size _ _ := ownsRow_setCell_other (a := ⟨w.heap.size, 1, none⟩) h3 (ownR_ne h3 hX1 (by decide)) (.slice (some ⟨g, 0, none⟩) n cap)
  have hO3 : OwnR _ w0.heap.size _ _ := ownsRow_setCell_other (a := ⟨w.heap.size + 1, 0, none⟩) hO2 (ownR_ne hO2 hR2 (by decide)) (.string nm)
  have hO4 : OwnR _ w0.heap.size _ _ := ownsRow_setCell_other (a := ⟨w.heap.size + 1, 1, none⟩) hO3 (ownR_ne hO3 hR3 (by decide)) (.slice (some ⟨g, 0, none⟩) n cap)
  have HO4 := Lib.hid hO4
  have HB4 := Lib.hid ((((HB0.out.trans (hb1.mono HB0.out.size)).setCell (p := ⟨w.heap.size, 1, none⟩) (Nat.le_refl _) (.slice (some ⟨g, 0, none⟩) n cap)).setCell (p := ⟨w.heap.size + 1, 0, none⟩) (Nat.le_succ _) (.string nm)).setCell (p := ⟨w.heap.size + 1, 1, none⟩) (Nat.le_succ _) (.slice (some ⟨g, 0, none⟩) n cap))
  have H1 := Lib.hid h1
  have H2 := Lib.hid h2
  clear hX1 hR1 hX2 hR2 hR3 hR4 hO2 hO3 hO4 h1 h2 h3 hb1 hc0 hc1
  go_wp2
  refine bodyPost_ret (v := .agg #[.string nm, .slice (some ⟨g, 0, none⟩) n cap]) (by simp [results, Tryz.results72, go_sem, hv0, hv1]) rfl ?_
  exact ⟨g, cap, rfl, H1.out, H2.out, ownR_down HO4.out HB0.out.size, HB4.out⟩
end Go.Proofs.YtglgfpapackcdaaGreat

