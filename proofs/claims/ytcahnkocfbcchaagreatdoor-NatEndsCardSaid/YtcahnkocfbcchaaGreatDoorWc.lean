/- The walks of nat's numbers at work: widen, plus, minus, nat, row. What each call does to the number's own memory, and that nothing older changes. -/
import Derived.Test.YtcahnkocfbcchaaGreatDoorWb
import Derived.Test.YtcahnkocfbcchaaGreatDoorApz
import Derived.Shelf.Abstract

namespace Go.Proofs.YtcahnkocfbcchaaGreatDoor
open Go.RowKit Tnd

theorem info_u32 : (Tryz.prog.info? 46).map (fun i => (i.zero, i.size, i.bytes)) = some (some (.int .u32 0), 1, 4) := by kernel_rfl

theorem own_form {w : World} {B : Nat} {e : TypeId} {k : IntKind} {s : Value} {l : List Nat} (h : Own w B e k s l) :
    ∃ p c, s = .slice p l.length c ∧ l.length ≤ c ∧ c ≤ 9223372036854775807 ∧ (p = none → c = 0) ∧ Sl w k p l ∧ (∀ g, s.ownBlock = some g → p = some ⟨g, 0, none⟩ ∧ B ≤ g) := by
  rcases h.2 with ⟨rfl, hn⟩ | ⟨g, cap, cur, rfl, hb, hg, hnc, hcm, hcs, htake⟩
  · have hl : l = [] := List.eq_nil_of_length_eq_zero hn
    subst hl
    exact ⟨none, 0, rfl, by simp, by omega, fun _ => rfl, .inl rfl, fun g hg => by simp [Value.ownBlock] at hg⟩
  · refine ⟨some ⟨g, 0, none⟩, cap, rfl, hnc, by simpa [maxLen] using hcm, by simp, .inr ⟨g, 0, rfl, fun i hi => ?_⟩, fun g' hg' => ?_⟩
    · rw [Nat.zero_add]; exact own_cell h rfl i hi
    · simp only [Value.ownBlock, Option.some.injEq] at hg'
      subst hg'
      exact ⟨rfl, hb⟩
theorem own_ne {w : World} {B : Nat} {e : TypeId} {k : IntKind} {s : Value} {l : List Nat} (h : Own w B e k s l) {nb : Nat} {c : Array Value} {T : TypeId} {fz : Nat × Nat} (hv : w.heap[nb]? = some (.cells c T fz)) (hT : T ≠ e) : s.ownBlock ≠ some nb := by
  intro hg
  rcases h.2 with ⟨rfl, _⟩ | ⟨g, cap, cur, rfl, _, hh, _⟩
  · simp [Value.ownBlock] at hg
  · simp only [Value.ownBlock, Option.some.injEq] at hg
    subst hg
    rw [hh] at hv
    simp only [Option.some.injEq, Obj.cells.injEq] at hv
    exact hT hv.2.1.symm

theorem own_appended {w' : World} {B : Nat} {e : TypeId} {k : IntKind} {v' : Value} {l : List Nat} {n x : Nat} (hn : l.length = n) (h : w'.ownsRow B e 1 v' (n + 1) (l.map (fun d => Value.int k (d : Nat)) ++ [.int k (x : Nat)])) : Own w' B e k v' (l ++ [x]) := by
  unfold Own
  rw [List.length_append, hn, List.map_append]
  exact h

def WidenPost (nb B : Nat) (T : TypeId) (l : List Nat) (sz : Nat) (w : World) (e : Ending) (w' : World) : Prop :=
  e = .returned (.tuple #[]) ∧ Below B w w' ∧ ∃ s', w'.heap[nb]? = some (.cells #[s'] T (0, 0)) ∧ Own w' B 46 .u32 s' (l ++ List.replicate (sz - l.length) 0)

set_option maxRecDepth 100000 in
theorem widen_any (nb B : Nat) (T : TypeId) (s : Value) (l : List Nat) (sz : Nat) (w : World)
    (hv : w.heap[nb]? = some (.cells #[s] T (0, 0))) (hown : Own w B 46 .u32 s l) (hT : T ≠ 46) (hBn : B ≤ nb)
    (hl : l.length ≤ 1000000000000) (hsz : sz ≤ 1000000000000) :
    Calls Tryz.prog 62 #[.pointer (some ⟨nb, 0, none⟩), .int .i64 (sz : Nat)] w (WidenPost nb B T l sz w) := by
  obtain ⟨i0, hi, hz0, hz1, hz2⟩ := info_parts info_u32
  have hnb := lt_of_block hv
  have hc := cell_of_one hv
  obtain ⟨p, c, rfl⟩ : ∃ p c, s = .slice p l.length c := by
    obtain ⟨p, c, hs, _⟩ := own_form hown
    exact ⟨p, c, hs⟩
  have hne := own_ne hown hv hT
  have HV := Lib.hid hv
  have HO := Lib.hid hown
  have HNE := Lib.hid hne
  clear hv hown hne
  by_cases hw : l.length < sz
  · go_enter Tryz.func62, Tryz.ntmps62
    go_wp2_with (at_builtin; refine wpList_append_zeros _ rfl _ _ 52 3 rfl B 46 i0 (.int .u32 0) 4 Tryz.underlying52 Tryz.underlying3 hi hz0 hz1 hz2 rfl rfl (.slice p l.length c) l.length _ rfl HO.out (sz - l.length) ?hx (by omega) (by omega) (by omega) (by omega) ?_)
    case hx => show Value.int .i64 _ = _; congr 1; omega
    intro v' w' hown' hgrow
    have hv' : w'.heap[nb]? = some (.cells #[.slice p l.length c] T (0, 0)) := by
      rw [hgrow.block nb hnb (fun e => HNE.out e.symm)]; exact HV.out
    have hc' := cell_of_one hv'
    have hf' := free_of_one hv'
    have hO2 : Own w' B 46 .u32 v' (l ++ List.replicate (sz - l.length) 0) := by
      unfold Own
      rw [List.length_append, List.length_replicate, List.map_append, List.map_replicate]
      exact hown'
    obtain ⟨p', n', c', hs'⟩ : ∃ p' n' c', v' = .slice p' n' c' := by
      obtain ⟨p', c', hs', _⟩ := own_form hO2
      exact ⟨p', _, c', hs'⟩
    rw [hs'] at hO2 ⊢
    clear hs' hown'
    have hne' := own_ne hO2 hv' hT
    have HV' := Lib.hid hv'
    have HO' := Lib.hid hO2
    have HG' := Lib.hid hgrow
    have HNE' := Lib.hid hne'
    clear hv' hO2 hgrow hi hz0 hz1 hz2 hne'
    go_wp2
    go_end0
    refine ⟨rfl, ?_, _, one_setCell HV'.out, ownsRow_setCell_other HO'.out HNE'.out _⟩
    exact ((Below.refl B w).grown HG'.out (by omega) (fun k hk => (HO.out.lt k hk).1)).setCell (by simpa using hBn) _
  · have hz : sz - l.length = 0 := by omega
    have HZ := Lib.hid hz
    clear hz hi hz0 hz1 hz2
    go_enter Tryz.func62, Tryz.ntmps62
    go_wp2
    go_end0
    refine ⟨rfl, Below.refl _ _, _, HV.out, ?_⟩
    rw [HZ.out]
    simpa using HO.out

theorem calls_empty {K : Nat} {a : Array Value} {w : World} {Q : Ending → World → Prop} (h : Calls Tryz.prog K a w Q) : Calls Tryz.prog K (a ++ #[]) w Q := by
  rw [Array.append_empty]; exact h
theorem add_step : StepOk 64 #[] addF (fun _ => True) 4294967296 (fun c => c ≤ 1) := by
  intro a b c bi w _ ha hb hb2 hc
  subst hb
  refine ⟨by simp only [addF]; omega, calls_empty ?_⟩
  exact (add32_any a b c w ha hb2 (by omega)).mono fun e w' ⟨h1, h2⟩ => ⟨h1, 0, h2.symm⟩
theorem add_enters : ∀ args w, (callFunc 64 args).run Tryz.prog w = .ok (.enter 64 args) w := enters_of Tryz.func64 (by kernel_rfl) rfl
theorem sub_step : StepOk 66 #[] subF (fun _ => True) 4294967296 (fun c => c ≤ 1) := by
  intro a b c bi w _ ha hb hb2 hc
  subst hb
  refine ⟨by simp only [subF]; split <;> omega, calls_empty ?_⟩
  exact (sub_any a b c w ha hb2 hc).mono fun e w' ⟨h1, h2⟩ => ⟨h1, 0, h2.symm⟩
theorem sub_enters : ∀ args w, (callFunc 66 args).run Tryz.prog w = .ok (.enter 66 args) w := enters_of Tryz.func66 (by kernel_rfl) rfl

/-- a number at work: its variable's cell, its digits in memory of the call's own. -/
def Num (w : World) (nb B : Nat) (l : List Nat) : Prop :=
  ∃ s, w.heap[nb]? = some (.cells #[s] 54 (0, 0)) ∧ Own w B 46 .u32 s l ∧ Digs 4294967296 l

/-- a row of digits that is only read, outside the call's own memory. -/
def Old (w : World) (B : Nat) (p : Option Addr) (l : List Nat) : Prop :=
  l = [] ∨ ∃ b off, p = some ⟨b, off, none⟩ ∧ b < B ∧ ∀ i, i < l.length → w.cell? ⟨b, off + i, none⟩ = some (.int .u32 (gd l i : Nat))
theorem Old.below {w w' : World} {B : Nat} {p : Option Addr} {l : List Nat} (h : Old w B p l) (hb : Below B w w') : Old w' B p l := by
  rcases h with h | ⟨b, off, h1, h2, h3⟩
  · exact .inl h
  · exact .inr ⟨b, off, h1, h2, fun i hi => by rw [hb.cell (by simpa using h2)]; exact h3 i hi⟩

theorem own_at {w : World} {B : Nat} {e : TypeId} {k : IntKind} {g n cap : Nat} {N : List Nat} (h : Own w B e k (.slice (some ⟨g, 0, none⟩) n cap) N) : B ≤ g ∧ Own w g e k (.slice (some ⟨g, 0, none⟩) n cap) N := by
  rcases h.2 with ⟨h', _⟩ | ⟨g', cap', cur, h', hb, rest⟩
  · simp at h'
  · simp only [Value.slice.injEq, Option.some.injEq, Addr.mk.injEq, and_true] at h'
    obtain ⟨rfl, rfl, rfl⟩ := h'
    exact ⟨hb, h.1, .inr ⟨g, cap, cur, rfl, Nat.le_refl _, rest⟩⟩
theorem own_down {w : World} {B B' : Nat} {e : TypeId} {k : IntKind} {v : Value} {N : List Nat} (h : Own w B e k v N) (hB : B' ≤ B) : Own w B' e k v N := World.ownsRow.mono h hB

/-- along over the whole of a number's own digits. -/
theorem along_own (K : Nat) (hcall : ∀ args w, (callFunc K args).run Tryz.prog w = .ok (.enter K args) w)
    (f : Nat → Nat → Nat → Nat × Nat) (C : Nat → Prop) (hstep : StepOk K #[] f (fun _ => True) 4294967296 C) (hC : C 0)
    (B : Nat) (p1 : Option Addr) (c1 : Nat) (l1 : List Nat) (y : Option Addr) (ys : List Nat) (cy : Nat) (w : World)
    (hown : Own w B 46 .u32 (.slice p1 l1.length c1) l1) (hN : Digs 4294967296 l1) (hy : Old w B y ys) (hys : Digs 4294967296 ys)
    (hm : l1.length ≤ 1000000000000) (hml : ys.length ≤ 1000000000000) :
    Calls Tryz.prog 63 #[.slice p1 l1.length c1, .slice y ys.length cy, .int .u32 0, .func (.func K) #[] #[]] w fun e w' =>
      ∃ cr : Nat, cr = (alongF f l1 ys 0).2 ∧ e = .returned (.int .u32 (cr : Nat)) ∧ w.grownBy w' (Value.slice p1 l1.length c1).ownBlock ∧ Own w' B 46 .u32 (.slice p1 l1.length c1) (alongF f l1 ys 0).1 := by
  obtain ⟨p, c, hs, hlc, hcm, hnil, hsl, hob⟩ := own_form hown
  simp only [Value.slice.injEq, true_and] at hs
  obtain ⟨rfl, rfl⟩ := hs
  cases p1 with
  | none =>
    have e0 := hnil rfl
    subst e0
    have hl : l1 = [] := List.eq_nil_of_length_eq_zero (by omega)
    subst hl
    refine (along_nil K #[] 0 (.slice y ys.length cy) w).mono ?_
    rintro e w' ⟨rfl, rfl⟩
    exact ⟨0, rfl, rfl, World.grownBy.refl _ _, hown⟩
  | some a =>
    obtain ⟨g, o, m⟩ := a
    have hg : (⟨g, o, m⟩ : Addr) = ⟨g, 0, none⟩ := by
      have := (hob g rfl).1
      simpa using this
    rw [hg] at hown ⊢
    obtain ⟨hBg, hown'⟩ := own_at hown
    have e1 : (l1.drop 0).take l1.length = l1 := by simp
    refine (along_any K #[] hcall f (fun _ => True) 4294967296 C g (fun _ _ _ _ => trivial) hstep 0 l1.length c1 0 y ys l1 c1 cy w hown' (by omega) trivial hC (by rw [e1]; exact hN) (by omega) hys ?_ (by omega) (by omega)).mono ?_
    · rcases hy with h | ⟨b, off, h1, h2, h3⟩
      · exact .inl h
      · exact .inr ⟨b, off, h1, by omega, h3⟩
    · rintro e w' ⟨he, hgr, ho⟩
      rw [e1] at he ho
      refine ⟨_, rfl, he, hgr, ?_⟩
      have e2 : l1.take 0 ++ (alongF f l1 ys 0).1 ++ l1.drop (0 + l1.length) = (alongF f l1 ys 0).1 := by simp
      rw [e2] at ho
      exact own_down ho hBg

def PlusPost (nb B : Nat) (l ys : List Nat) (w : World) (e : Ending) (w' : World) : Prop :=
  e = .returned (.tuple #[]) ∧ Below B w w' ∧ ∃ l', Num w' nb B l' ∧ nv 4294967296 l' = nv 4294967296 l + nv 4294967296 ys ∧ l'.length ≤ max l.length ys.length + 1

set_option maxRecDepth 100000 in
theorem plus_any (nb B : Nat) (l ys : List Nat) (p : Option Addr) (cy : Nat) (w : World)
    (hn : Num w nb B l) (hBn : B ≤ nb) (hy : Old w B p ys) (hys : Digs 4294967296 ys)
    (hl : l.length ≤ 100000000000) (hyl : ys.length ≤ 100000000000) :
    Calls Tryz.prog 30 #[.pointer (some ⟨nb, 0, none⟩), .slice p ys.length cy] w (PlusPost nb B l ys w) := by
  obtain ⟨s, hv, hown, hdig⟩ := hn
  have hwid := widen_any nb B 54 s l ys.length w hv hown (by decide) hBn (by omega) (by omega)
  have HW := Lib.hid hwid
  clear hwid hv hown
  have HY := Lib.hid hy
  have HYS := Lib.hid hys
  have HD := Lib.hid hdig
  clear hy hys hdig
  go_enter Tryz.func30, Tryz.ntmps30
  go_wp2_with fail
  refine HW.out.mono ?_
  rintro e w1 ⟨rfl, hb1, s1, hv1, ho1⟩
  have hc1 := cell_of_one hv1
  obtain ⟨l1, hl1⟩ : ∃ l1, l1 = l ++ List.replicate (ys.length - l.length) 0 := ⟨_, rfl⟩
  rw [← hl1] at ho1
  have HL1 := Lib.hid hl1
  clear hl1
  obtain ⟨p1, c1, hs1⟩ : ∃ p1 c1, s1 = .slice p1 l1.length c1 := by
    obtain ⟨p1, c1, hs1, _⟩ := own_form ho1
    exact ⟨p1, c1, hs1⟩
  subst hs1
  have HV1 := Lib.hid hv1
  have HO1 := Lib.hid ho1
  have HB1 := Lib.hid hb1
  clear hv1 ho1 hb1
  have hlen : ys.length ≤ l1.length := by rw [HL1.out, List.length_append, List.length_replicate]; omega
  have hlen2 : l1.length ≤ max l.length ys.length := by rw [HL1.out, List.length_append, List.length_replicate]; omega
  have hd1 : Digs 4294967296 l1 := by rw [HL1.out, digs_append]; exact ⟨HD.out, digs_zeros _ _ (by omega)⟩
  have hval : nv 4294967296 l1 = nv 4294967296 l := by rw [HL1.out, nv_pad]
  have hal := along_own 64 add_enters addF (fun c => c ≤ 1) add_step (by omega) B p1 c1 l1 p ys cy w1 HO1.out hd1 (HY.out.below HB1.out) HYS.out (by omega) (by omega)
  have hrow := addF_row l1 ys hlen hd1 HYS.out
  have hll := alongF_length addF l1 ys 0
  rw [hval] at hrow
  have HAL := Lib.hid hal
  have HROW := Lib.hid hrow
  have HLL := Lib.hid hll
  have HNE1 := Lib.hid (own_ne HO1.out HV1.out (by decide))
  have HD1 := Lib.hid (addF_sum l1 ys hlen hd1 HYS.out).2.1
  clear hal hrow hll hd1 hval
  go_wp2_with fail
  refine HAL.out.mono ?_
  rintro e w2 ⟨cr, hcr, rfl, hg2, ho2⟩
  have hv2 : w2.heap[nb]? = some (.cells #[.slice p1 l1.length c1] 54 (0, 0)) := by
    rw [hg2.block nb (lt_of_block HV1.out) (fun e => HNE1.out e.symm)]; exact HV1.out
  have hc2 := cell_of_one hv2
  have hf2 := free_of_one hv2
  have HCR := Lib.hid hcr
  have HG2 := Lib.hid hg2
  have HO2 := Lib.hid ho2
  have HV2 := Lib.hid hv2
  clear hcr hg2 ho2 hv2 hc1
  have hBelow : Below B w w2 := HB1.out.trans ⟨HG2.out.os, HG2.out.tape, HG2.out.output, HG2.out.size, fun k hk => HG2.out.block k (by have := lt_of_block HV1.out; omega) (fun e => by have := (HO1.out.lt k e.symm).1; omega)⟩
  have HBelow := Lib.hid hBelow
  clear hBelow
  by_cases h0 : cr = 0
  · subst h0
    go_wp2
    go_end0
    refine ⟨rfl, HBelow.out, (alongF addF l1 ys 0).1, ⟨_, HV2.out, HO2.out, HD1.out⟩, HROW.out.1 HCR.out.symm, by rw [HLL.out]; omega⟩
  · have h1 : 0 < (cr : Int) := by omega
    obtain ⟨i0, hi, hz0, hz1, hz2⟩ := info_parts info_u32
    have ho2 := HO2.out
    unfold Own at ho2
    rw [HLL.out] at ho2
    have HO3 := Lib.hid ho2
    clear ho2
    go_wp2_with (at_builtin; refine wpList_append_own _ rfl _ _ 52 rfl B 46 i0 (.int .u32 0) 1 4 Tryz.underlying52 hi hz0 hz1 hz2 rfl (by decide) (.slice p1 l1.length c1) l1.length _ rfl (HO3.out.alloc _) ⟨w2.heap.size, 0, none⟩ 1 1 [.int .u32 (cr : Nat)] rfl rfl ?c1 ?c2 ?c3 ?c4 ?c5 ?_)
    case c1 => exact cell_one_new _ _ _
    case c2 => simp [Value.oneCell']
    case c3 => simp only [maxLen]; omega
    case c4 => omega
    case c5 => have := HBelow.out.size; have := lt_of_block HV2.out; simp; omega
    intro v' w3 hown3 hgrow3 _
    have hv3 : w3.heap[nb]? = some (.cells #[.slice p1 l1.length c1] 54 (0, 0)) := by
      rw [hgrow3.block nb (by have := lt_of_block HV2.out; simp; omega) (fun e => HNE1.out e.symm), Below.heap_alloc _ _ _ (lt_of_block HV2.out)]; exact HV2.out
    have hO3 := own_appended HLL.out hown3
    obtain ⟨p', n', c', hs'⟩ : ∃ p' n' c', v' = .slice p' n' c' := by
      obtain ⟨p', c', hs', _⟩ := own_form hO3
      exact ⟨p', _, c', hs'⟩
    rw [hs'] at hO3 ⊢
    clear hs' hown3
    have hc3 := cell_of_one hv3
    have hf3 := free_of_one hv3
    have hne3 := own_ne hO3 hv3 (by decide)
    have HV3 := Lib.hid hv3
    have HO4 := Lib.hid hO3
    have HG3 := Lib.hid hgrow3
    have HNE3 := Lib.hid hne3
    clear hv3 hO3 hgrow3 hne3 hc2 hf2 hi hz0 hz1 hz2
    go_wp2
    go_end0
    refine ⟨rfl, ?_, _, ⟨_, one_setCell HV3.out, ownsRow_setCell_other HO4.out HNE3.out _, ?_⟩, ?_, ?_⟩
    · have hsz := HBelow.out.size
      have hnb := lt_of_block HV2.out
      exact (((HBelow.out.alloc (by omega) _).grown HG3.out (by simp; omega) (fun k hk => (HO2.out.lt k hk).1))).setCell (by simpa using hBn) _
    · rw [HCR.out]; exact HROW.out.2.2
    · rw [HCR.out]; exact HROW.out.2.1
    · rw [List.length_append, HLL.out, List.length_singleton]; omega
end Go.Proofs.YtcahnkocfbcchaaGreatDoor
