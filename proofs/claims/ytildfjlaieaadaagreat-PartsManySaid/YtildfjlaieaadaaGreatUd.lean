/- The walk of the document's Of: the classes, cut by cut. -/
import Derived.Test.YtildfjlaieaadaaGreatUc

namespace Go.Proofs.YtildfjlaieaadaaGreat
open Go.RowKit Tnr

theorem RowsIn.kept {w w' : World} {B : Nat} {v : Value} {vs : List Value} {L : List (List R)} {row : Option Nat} (h : RowsIn w B v vs L) (hg : w.grownBy w' row) (hv : v.ownBlock = none ∨ v.ownBlock ≠ row) (hr : ∀ i, i < L.length → (gv vs i).ownBlock = none ∨ (gv vs i).ownBlock ≠ row) : RowsIn w' B v vs L :=
  ⟨World.ownsRow.kept h.out hg hv, h.len, fun i hi => ownR_kept (h.own i hi) hg (hr i hi), h.apart⟩
theorem q_other {w : World} {B B' sz n : Nat} {T : TypeId} {vf v : Value} {F : List Int} {xs : List Value} (hq : OwnQ w B vf F) (h : w.ownsRow B' T sz v n xs) (hT : T ≠ 3) {g : Nat} (hg : vf.ownBlock = some g) (hv : v.ownBlock = some g) : False := by
  rcases h.2 with ⟨rfl, _⟩ | ⟨g', cap, cur, rfl, _, hh, _⟩
  · simp [Value.ownBlock] at hv
  · simp only [Value.ownBlock, Option.some.injEq] at hv
    subst hv
    exact ownQ_int hq hg (ni_of hh hT)
theorem RowsIn.beside {w w2 : World} {o : Obj} {B : Nat} {vf v : Value} {F : List Int} {vs : List Value} {L : List (List R)} (h : RowsIn w B v vs L) (hq : OwnQ w B vf F) (hg : (w.alloc o).grownBy w2 vf.ownBlock) : RowsIn w2 B v vs L :=
  have h1 := h.below (bl_alloc w o)
  have h2 := ownQ_below hq (bl_alloc w o)
  h1.kept hg (not_two fun _ hg hv => q_other h2 h1.out (by decide) hg hv) (fun k hk => not_two fun _ hg hv => q_other h2 (h1.own k hk) (by decide) hg hv)
theorem ownQ_beside {w w2 : World} {o : Obj} {B : Nat} {vf v : Value} {F : List Int} {vs : List Value} {L : List (List R)} (hq : OwnQ w B vf F) (h : RowsIn w B v vs L) (hg : (w.alloc o).grownBy w2 v.ownBlock) : OwnQ w2 B vf F :=
  have h1 := h.below (bl_alloc w o)
  have h2 := ownQ_below hq (bl_alloc w o)
  ownQ_kept h2 hg (not_two fun _ hg hv => q_other h2 h1.out (by decide) hv hg)
/-- one row is put in another's place. -/
theorem RowsIn.swap {w w2 : World} {B g nn co num : Nat} {vs : List Value} {L : List (List R)} {v' : Value} {r : List R} (h : RowsIn w B (.slice (some ⟨g, 0, none⟩) nn co) vs L) (hnum : num < L.length) (hbl : Below w.heap.size w w2) (hv : OwnR w2 w.heap.size v' r) (hnn : nn = L.length) (hB : B ≤ w.heap.size) :
    RowsIn (w2.setCell ⟨g, num, none⟩ v') B (.slice (some ⟨g, 0, none⟩) nn co) (vs.set num v') (L.set num r) ∧ ∀ z, Below B z w → Below B z (w2.setCell ⟨g, num, none⟩ v') := by
  have h1 := h.below hbl
  have hlen := h.len
  have hvl : nn = vs.length := hnn.trans hlen.symm
  have hout := h.out
  rw [← hvl] at hout
  have hout2 : w2.ownsRow B 29 1 (.slice (some ⟨g, 0, none⟩) nn co) nn vs := by
    have q := h1.out
    rw [← hvl] at q
    exact q
  have hgB : B ≤ g := (hout.lt g rfl).1
  have hgl : g < w.heap.size := (hout.lt g rfl).2
  have hnr := row_nr hout2
  have hset : ∀ {B' : Nat} {v : Value} {l : List R}, OwnR w2 B' v l → v.ownBlock ≠ some g → OwnR (w2.setCell ⟨g, num, none⟩ v') B' v l := fun q e => ownsRow_setCell_other (a := ⟨g, num, none⟩) q e _
  have hfar : ∀ b, v'.ownBlock = some b → w.heap.size ≤ b := fun b e => (World.ownsRow.lt hv b e).1
  have hold : ∀ i, i < L.length → ∀ b, (gv vs i).ownBlock = some b → b < w.heap.size := fun i hi b e => (World.ownsRow.lt (h.own i hi) b e).2
  refine ⟨⟨?_, by simp [hlen], fun i hi => ?_, fun i k hi hk hik b hb => ?_⟩, fun z hz => ?_⟩
  · rw [List.length_set, ← hvl]
    exact (hout2.stored num _).1
  · rw [List.length_set] at hi
    rw [gv_set _ (by omega), gl_set _ hnum]
    by_cases e : i = num
    · rw [if_pos e, if_pos e]
      exact hset (ownR_down hv hB) (fun e => by have := hfar g e; omega)
    · rw [if_neg e, if_neg e]
      exact hset (h1.own i hi) (fun e => ownR_cells (h1.own i hi) e hnr)
  · rw [List.length_set] at hi hk
    rw [gv_set _ (by omega)] at hb ⊢
    by_cases e : i = num
    · rw [if_pos e] at hb
      rw [if_neg (by omega)]
      intro q
      have := hfar b hb
      have := hold k hk b q
      omega
    · rw [if_neg e] at hb
      by_cases e2 : k = num
      · rw [if_pos e2]
        intro q
        have := hfar b q
        have := hold i hi b hb
        omega
      · rw [if_neg e2]
        exact h.apart i k hi hk hik b hb
  · exact (hz.trans (hbl.mono hB)).setCell hgB _
theorem row_step {l : List R} {x y : Int} (h0 : 0 ≤ x) (h1 : y ≤ 1114111) : Rt (cn (l ++ [(x, y)])) ∧ (∀ c, Has (cn (l ++ [(x, y)])) c ↔ Has l c ∨ (x ≤ c ∧ c < y + 1)) ∧ (cn (l ++ [(x, y)])).length ≤ l.length + 1 := by
  refine ⟨cn_right _, fun c => ?_, ?_⟩
  · rw [cn_has]
    unfold Has
    rw [cov_append, cov_cons]
    simp only [cov_nil, or_false]
    constructor
    · rintro ⟨h2, h3, h4 | h4⟩
      · exact .inl ⟨h2, h3, h4⟩
      · exact .inr ⟨h4.1, by omega⟩
    · rintro (⟨h2, h3, h4⟩ | ⟨h2, h3⟩)
      · exact ⟨h2, h3, .inl h4⟩
      · exact ⟨by omega, by omega, .inr ⟨h2, by omega⟩⟩
  · refine Nat.le_trans (cn_length _) ?_
    simp
/-- where the next round begins. -/
def bnd (l : List Int) (i : Nat) : Int := if i < l.length then gq l i else 1114112
theorem bnd_next (l : List Int) (i : Nat) : nextCut l i = bnd l (i + 1) := rfl

/-- where the walk stands. -/
structure OI (S : List (List R)) (l : List Int) (w5 wr : World) (vf out : Value) (f : Nat) (F : List Int) (O : List (List R)) (vs : List Value) (i : Nat) : Prop where
  ref : RefAt S F O (bnd l i)
  len : f = F.length
  fs : OwnQ wr w5.heap.size vf F
  rows : RowsIn wr w5.heap.size out vs O
  low : Below w5.heap.size w5 wr
  short : ∀ k, k < O.length → (gl O k).length ≤ i

/-- what the document's Of tells. -/
def ROfPost (xs : List SV) (w : World) (e : Ending) (w' : World) : Prop :=
  Below w.heap.size w w' ∧ ((e = .returned (.tuple #[.slice none 0 0, .int .i64 3]) ∧ More (rowsV xs)) ∨
    ∃ q cq m vs O, e = .returned (.tuple #[.slice q m cq, .int .i64 0]) ∧ m = O.length ∧ m ≤ 60 ∧ Parts (rowsV xs) O ∧ RowsIn w' w.heap.size (.slice q m cq) vs O ∧ (∀ k, k < O.length → (gl O k).length ≤ 3000))

set_option maxHeartbeats 12800000 in
set_option maxRecDepth 100000 in
theorem refOf_any (p : Option Addr) (c n : Nat) (xs : List SV) (w : World) (hn : n = xs.length) (hx : SlS w p xs) (hl : (flat xs).length ≤ 1000) (hnm : n ≤ 1000) :
    Calls Tryz.prog 13 #[.slice p n c] w (ROfPost xs w) := by
  obtain ⟨i0, hinf, hz0, hz1, hz2⟩ := info_parts info_int
  obtain ⟨i1, ginf, gz0, gz1, gz2⟩ := info_parts info_rows
  have HX := Lib.hid hx
  have HN := Lib.hid hn
  have HNN : Hid (n ≤ 100000) := by show n ≤ 100000; omega
  have HXL : Hid (∀ i, i < n → (gs xs i).2.2.length ≤ 100000) := by
    intro i hi
    have := flat_one_le (xs := xs) (k := i) (by omega)
    omega
  have HC := Lib.hid (cuts_any p c n xs w hn hx hl hnm)
  have HLX := Lib.hid hl
  clear hx hn hl hnm
  go_enter Tryz.func13, Tryz.ntmps13
  go_wp2_with (go_at_call 31; refine HC.out.mono ?_; rintro e w5 ⟨ql, dl, l, nc, rfl, hnc, hol, hcu, hb5, hle⟩; have HNL := Lib.hid hnc; have HOL := Lib.hid hol; have HCU := Lib.hid hcu; have HB5 := Lib.hid hb5; have HNC : Hid (nc ≤ 2001) := (by have := HLX.out; show _ ≤ _; omega); clear hnc hol hcu hb5 hle)
  have HLS : Hid (SlQ w5 ql l) := by
    obtain ⟨p', c', e', _, _, hs⟩ := ownQ_form HOL.out
    simp only [Value.slice.injEq] at e'
    rw [e'.1]; exact hs
  go_loopw [5, 6, 7] (fun fv ov iv wr => ∃ (i f : Nat) (qf : Option Addr) (cf : Nat) (qo : Option Addr) (co : Nat) (F : List Int) (O : List (List R)) (vs : List Value), i ≤ nc ∧ fv = .slice qf f cf ∧ ov = .slice qo f co ∧ iv = .int .i64 (i : Nat) ∧ Hid (OI (rowsV xs) l w5 wr (.slice qf f cf) (.slice qo f co) f F O vs i)) (fun _ _ iv _ => nc - (intOf iv).toNat)
  case atStart =>
    refine ⟨0, 0, none, 0, none, 0, [], [], [], Nat.zero_le _, rfl, rfl, rfl, ⟨?_, rfl, ownQ_nil _ _, RowsIn.nil _ _, Below.refl _ _, fun k hk => absurd hk (Nat.not_lt_zero _)⟩⟩
    have e : bnd l 0 = 0 := by unfold bnd; rw [if_pos HCU.out.pos]; exact HCU.out.zero
    rw [e]; exact refAt_nil _
  case round =>
    obtain ⟨i, f, qf, cf, qo, co, F, O, vs, hi, rfl, rfl, rfl, HI⟩ := hrel
    rename World => wr
    by_cases hin : i < nc
    · have hinI : (i : Int) < nc := by omega
      have hnc3 : (nc : Int) ≤ 2001 := by have := HNC.out; omega
      have hil : i < l.length := by have := HNL.out; omega
      have hf60 : f ≤ 60 := by have := HI.out.len; have := HI.out.ref.few; omega
      obtain ⟨bl, ol, rfl, hcl5⟩ := slq_at HLS.out hil
      obtain ⟨x, hx⟩ : ∃ x, x = gq l i := ⟨_, rfl⟩
      obtain ⟨hpx, hnx0, hnx1, hcut⟩ := HCU.out.cut hil
      rw [← hx] at hcl5 hpx hnx0 hcut
      obtain ⟨nx, hnx⟩ : ∃ nx, nx = nextCut l i := ⟨_, rfl⟩
      rw [← hnx] at hnx0 hnx1 hcut
      have HCL := Lib.hid hcl5
      have HPX := Lib.hid hpx
      have HCUT := Lib.hid hcut
      have HXR : Hid (RefAt (rowsV xs) F O x) := by
        have h := HI.out.ref
        have e : bnd l i = x := by unfold bnd; rw [if_pos hil, hx]
        rw [e] at h; exact h
      have HNX : Hid (bnd l (i + 1) = nx) := by show _ = _; rw [← bnd_next, hnx]
      obtain ⟨hx0, hx1⟩ := hpx
      have hcl1 : wr.cell? ⟨bl, ol + i, none⟩ = some (.int .i64 x) := keep_cellK HI.out.low hcl5
      by_cases hlast : i + 1 < nc
      · have hlI : (i : Int) + 1 < nc := by omega
        obtain ⟨b', o', e', hcn⟩ := slq_at HLS.out (show i + 1 < l.length by have := HNL.out; omega)
        simp only [Option.some.injEq, Addr.mk.injEq, and_true] at e'
        obtain ⟨rfl, rfl⟩ := e'
        have hgn : gq l (i + 1) = nx := by rw [hnx]; unfold nextCut; rw [if_pos (by have := HNL.out; omega)]
        rw [hgn] at hcn
        have hcn1 : wr.cell? ⟨bl, ol + (i + 1), none⟩ = some (.int .i64 nx) := keep_cellK HI.out.low hcn
        clear hx hnx hcl5 hcn hgn hcut hil
        go_wp2
        clear hcn1 hcl1
        go_loopw [9] (fun av wz => ∃ (a : Nat), a ≤ f ∧ av = .int .i64 (a : Nat) ∧ Hid (∀ k, k < a → ¬ alike (rowsV xs) (gq F k) x) ∧ Hid (∃ r, wz = wr.drewN r)) (fun av _ => f - (intOf av).toNat)
        case atStart => exact ⟨0, Nat.zero_le _, rfl, (fun k hk => absurd hk (Nat.not_lt_zero _)), 0, rfl⟩
        case round =>
          obtain ⟨num, hnumf, rfl, HNA, HDR⟩ := hrel
          rename World => wz
          have HBZ : Hid (Below wr.heap.size wr wz) := by obtain ⟨r, h⟩ := HDR.out; rw [h]; exact drewN_below wr r
          have HLZ : Hid (Below w5.heap.size w5 wz) := HI.out.low.trans (HBZ.out.mono HI.out.low.size)
          have hcl : wz.cell? ⟨bl, ol + i, none⟩ = some (.int .i64 x) := keep_cellK HLZ.out HCL.out
          by_cases hnf : num < f
          · have hnfI : (num : Int) < f := by omega
            have HFZ := Lib.hid (ownQ_below HI.out.fs HBZ.out)
            obtain ⟨qf', cf', ef, _, _, hslf⟩ := ownQ_form HFZ.out
            simp only [Value.slice.injEq] at ef
            obtain ⟨rfl, -, rfl⟩ := ef
            have hnd : decide (num < f) = true := by rw [decide_eq_true_eq]; exact hnf
            have hndI : decide ((num : Int) < (f : Int)) = true := by rw [decide_eq_true_eq]; exact hnfI
            obtain ⟨bf, of, rfl, hcf⟩ := slq_at hslf (show num < F.length by have := HI.out.len; omega)
            obtain ⟨y, hy⟩ : ∃ y, y = gq F num := ⟨_, rfl⟩
            rw [← hy] at hcf
            have HY := Lib.hid hy
            have HRZ : Hid (∀ r, SlS (wz.drewN r) p xs) := fun r => (HX.out.below (bl_trans HB5.out HLZ.out)).below (drewN_below _ _)
            clear hy hslf
            by_cases hal : alike (rowsV xs) y x
            · have HC : Hid (∀ r, Calls Tryz.prog 32 #[.slice p n c, .int .i64 y, .int .i64 x] (wz.drewN r) fun e w' => e = .returned (.bool true) ∧ ∃ n, w' = wz.drewN n) := fun r => (alike_any p c n xs y x (wz.drewN r) HN.out (HRZ.out r) HXL.out HNN.out).mono fun e w' h => by
                obtain ⟨⟨r', hr'⟩, ⟨_, h⟩ | ⟨h, _⟩⟩ := h
                · exact absurd hal h
                · exact ⟨h, r + r', by rw [hr', World.drewN_drewN]⟩
              have HAL := Lib.hid hal
              clear hal
              go_wp2
              go_quiet ((go_at_call 32; (with_reducible exact (HC.out _).mono fun _ _ h => ⟨h.1, h.2.choose, h.2.choose_spec⟩)))
              obtain ⟨w1, hw1⟩ : ∃ w1, w1 = wz.drewN nq := ⟨_, rfl⟩
              have HB1 : Hid (Below wr.heap.size wr w1) := by show Below _ _ _; rw [hw1]; exact bl_trans HBZ.out (drewN_below _ _)
              rw [← hw1]
              clear hw1 HC
              have HLOW : Hid (Below w5.heap.size w5 w1) := HI.out.low.trans (HB1.out.mono HI.out.low.size)
              obtain ⟨g, co1, hpo⟩ : ∃ g co1, (Value.slice qo f co) = .slice (some ⟨g, 0, none⟩) f co1 := by
                rcases HI.out.rows.out.2 with ⟨_, h⟩ | ⟨g, cap, cur, e, _⟩
                · have := HI.out.rows.len; have := HI.out.ref.len; have := HI.out.len; omega
                · have h1 := HI.out.rows.len
                  have h2 := HI.out.ref.len
                  have h3 := HI.out.len
                  rw [show vs.length = f by omega] at e
                  exact ⟨g, cap, e⟩
              have HR : Hid (RowsIn w1 w5.heap.size (.slice (some ⟨g, 0, none⟩) f co1) vs O) := by
                show RowsIn _ _ _ _ _
                rw [← hpo]; exact HI.out.rows.below HB1.out
              simp only [Value.slice.injEq, true_and] at hpo
              obtain ⟨hpo1, hpo2⟩ := hpo
              subst hpo1
              have hpo3 := hpo2.symm
              clear hpo2
              subst hpo3
              have HFS := Lib.hid (ownQ_below HI.out.fs HB1.out)
              have HREF : Hid (RefAt (rowsV xs) F O x) := HXR.out
              have HLEN := Lib.hid HI.out.len
              have HSH := Lib.hid HI.out.short
              have HNUM : Hid (num < F.length) := by have := HI.out.len; show _ < _; omega
              have hcl : w1.cell? ⟨bl, ol + i, none⟩ = some (.int .i64 x) := keep_cellK HLOW.out HCL.out
              rw [HY.out] at HAL
              have hn60 : (num : Int) < 60 := by omega
              have hnnf : ((num : Int) == (f : Int)) = false := by rw [beq_eq_false_iff_ne]; omega
              have hnn6 : ((num : Int) == 60) = false := by rw [beq_eq_false_iff_ne]; omega
              go_wp2_with fail
              obtain ⟨vi, hvi⟩ : ∃ vi, vi = gv vs num := ⟨_, rfl⟩
              have hnm : num < f := by have := HNUM.out; have := HLEN.out; omega
              have hnl : num < O.length := by have := HREF.out.len; have := HLEN.out; omega
              have hvl : vs.length = f := by have h := HR.out.len; have := HREF.out.len; have := HLEN.out; omega
              have hOUT : w1.ownsRow w5.heap.size 29 1 (.slice (some ⟨g, 0, none⟩) (f) co1) (f) vs := by have h := HR.out.out; rw [hvl] at h; exact h
              have hcg : w1.cell? ⟨g, num, none⟩ = some vi := by rw [hOUT.cellAt num (by omega), List.getElem?_eq_getElem (by omega), hvi, gv_get (by omega)]
              obtain ⟨lr, hlr⟩ : ∃ lr, lr = gl O num := ⟨_, rfl⟩
              obtain ⟨li, hli⟩ : ∃ li, li = lr.length := ⟨_, rfl⟩
              have hov := HR.out.own num hnl
              rw [← hvi, ← hlr] at hov
              obtain ⟨pi, ci, hve, _, _, _, hsr, _⟩ := ownR_form hov
              rw [← hli] at hve
              have hlib : li ≤ 3000 := by have h := HSH.out num hnl; have := HNC.out; rw [← hlr] at h; omega
              obtain ⟨rr, hrr⟩ : ∃ rr, rr = cn (lr ++ [(x, (nx - 1))]) := ⟨_, rfl⟩
              obtain ⟨lq, hlq⟩ : ∃ lq, lq = rr.length := ⟨_, rfl⟩
              have hst := row_step (l := lr) (x := x) (y := (nx - 1)) hx0 (by omega)
              rw [← hrr] at hst
              have HST := Lib.hid hst
              have hBs : w5.heap.size ≤ w1.heap.size := HLOW.out.size
              have HBS := Lib.hid hBs
              have HVL := Lib.hid hvl
              have HNL2 := Lib.hid hnl
              have HGLR := Lib.hid hlr
              have HLIB := Lib.hid hlib
              subst hve
              have HJ : Hid (Calls Tryz.prog 33 #[.slice (some ⟨w1.heap.size + 1, 0, none⟩) 2 2] ((w1.alloc (.cells #[.int .i64 x, .int .i64 (nx - 1)] 28)).alloc (.cells #[.slice pi li ci, .slice (some ⟨w1.heap.size, 0, none⟩) 1 1] 29)).drew fun e w' => ∃ q6 d6, e = .returned (.slice q6 lq d6) ∧ OwnR w' w1.heap.size (.slice q6 lq d6) rr ∧ Below w1.heap.size w1 w') := by
                have e1 : (w1.alloc (.cells #[.int .i64 x, .int .i64 (nx - 1)] 28)).heap.size = w1.heap.size + 1 := by simp
                have hbel : Below w1.heap.size w1 ((w1.alloc (.cells #[.int .i64 x, .int .i64 (nx - 1)] 28)).alloc (.cells #[.slice pi li ci, .slice (some ⟨w1.heap.size, 0, none⟩) 1 1] 29)).drew := (bl_trans (bl_alloc _ _) (bl_alloc _ _)).drew
                have hs2 : SlS ((w1.alloc (.cells #[.int .i64 x, .int .i64 (nx - 1)] 28)).alloc (.cells #[.slice pi li ci, .slice (some ⟨w1.heap.size, 0, none⟩) 1 1] 29)) (some ⟨(w1.alloc (.cells #[.int .i64 x, .int .i64 (nx - 1)] 28)).heap.size, 0, none⟩) [(pi, ci, lr), (some ⟨w1.heap.size, 0, none⟩, 1, [(x, (nx - 1))])] := sls_new (fun y hy => by
                  simp only [List.mem_cons, List.not_mem_nil, or_false] at hy
                  rcases hy with rfl | rfl
                  · exact hsr.below (bl_alloc _ _)
                  · exact slr_new w1 [(x, (nx - 1))] _ _ rfl) (by rw [hli]; rfl)
                rw [e1] at hs2
                have hfl : flat [(pi, ci, lr), (some ⟨w1.heap.size, 0, none⟩, 1, [(x, (nx - 1))])] = lr ++ [(x, (nx - 1))] := by simp [flat]
                refine (rjoin_any (some ⟨w1.heap.size + 1, 0, none⟩) 2 2 _ rr ((w1.alloc (.cells #[.int .i64 x, .int .i64 (nx - 1)] 28)).alloc (.cells #[.slice pi li ci, .slice (some ⟨w1.heap.size, 0, none⟩) 1 1] 29)).drew (by rw [hfl]; exact hrr) rfl (hs2.below (bl_drew _)) (by rw [hfl, List.length_append, ← hli]; simp only [List.length_cons, List.length_nil]; omega) (by omega)).mono ?_
                rintro e w' ⟨q6, d6, rfl, ho, hb⟩
                rw [← hlq] at ho ⊢
                exact ⟨q6, d6, rfl, ownR_mono ho (by show w1.heap.size ≤ _; simp; omega), bl_trans hbel hb⟩
              have qcg := ((bl_alloc w1 (.cells #[.int .i64 x, .int .i64 (nx - 1)] 28)).cell (World.block_lt_of_cell? w1 _ hcg)).trans hcg
              have qcl := ((bl_alloc w1 (.cells #[.int .i64 x, .int .i64 (nx - 1)] 28)).cell (World.block_lt_of_cell? w1 _ hcl)).trans hcl
              have rcg := ((bl_alloc (w1.alloc (.cells #[.int .i64 x, .int .i64 (nx - 1)] 28)) (.cells #[.slice pi li ci, .slice (some ⟨w1.heap.size, 0, none⟩) 1 1] 29)).cell (World.block_lt_of_cell? _ _ qcg)).trans qcg
              have rcl := ((bl_alloc (w1.alloc (.cells #[.int .i64 x, .int .i64 (nx - 1)] 28)) (.cells #[.slice pi li ci, .slice (some ⟨w1.heap.size, 0, none⟩) 1 1] 29)).cell (World.block_lt_of_cell? _ _ qcl)).trans qcl
              have HCG : Hid (∀ W : World, Below w1.heap.size w1 W → W.cell? ⟨g, num, none⟩ = some (.slice pi li ci) ∧ W.cell? ⟨bl, ol + i, none⟩ = some (.int .i64 x)) := fun W hW => ⟨keep_cellK hW hcg, keep_cellK hW hcl⟩
              have hmg : (g : Nat) < w1.heap.size := (hOUT.lt g rfl).2
              have hnumI : (num : Int) < (f : Nat) := by have := HNUM.out; have := HLEN.out; omega
              clear hvi hli hov hOUT hvl hlr hrr hlq hst hsr hnl hlib hBs hnm
              refine wp_region_K (S := fun (W : World) => W.cell? ⟨g, num, none⟩ = some (.slice pi li ci) ∧ W.cell? ⟨bl, ol + i, none⟩ = some (.int .i64 x)) 16 (by kernel_rfl) ?_
              have hHeld : (fun (W : World) => W.cell? ⟨g, num, none⟩ = some (.slice pi li ci) ∧ W.cell? ⟨bl, ol + i, none⟩ = some (.int .i64 x)) w1.drew := ⟨hcg, hcl⟩
              refine anyK_take (i := 0) (oi := { dst := some 64, op := Op.move (Operand.tmp 6), type := 22, pos := "ref.go:70", after := #[], guard := none }) (u := ?_) rfl (by kernel_rfl) (fun _ _ _ h => h) (Or.inl ⟨by kernel_rfl, ?_⟩) hHeld ?_
              rotate_left
              focus (intro w hSw; (try dsimp only at hSw); go_simp; try with_reducible rfl)
              try simp only [Act.put, List.setIfInBounds_toArray, List.set_cons_zero, List.set_cons_succ]
              refine anyK_take (i := 1) (oi := { dst := some 65, op := Op.move (Operand.tmp 9), type := 3, pos := "ref.go:70", after := #[], guard := none }) (u := ?_) rfl (by kernel_rfl) (fun _ _ _ h => h) (Or.inl ⟨by kernel_rfl, ?_⟩) hHeld ?_
              rotate_left
              focus (intro w hSw; (try dsimp only at hSw); go_simp; try with_reducible rfl)
              try simp only [Act.put, List.setIfInBounds_toArray, List.set_cons_zero, List.set_cons_succ]
              refine anyK_take (i := 2) (oi := { dst := some 66, op := Op.move (Operand.tmp 6), type := 22, pos := "ref.go:70", after := #[], guard := none }) (u := ?_) rfl (by kernel_rfl) (fun _ _ _ h => h) (Or.inl ⟨by kernel_rfl, ?_⟩) hHeld ?_
              rotate_left
              focus (intro w hSw; (try dsimp only at hSw); go_simp; try with_reducible rfl)
              try simp only [Act.put, List.setIfInBounds_toArray, List.set_cons_zero, List.set_cons_succ]
              refine anyK_take (i := 3) (oi := { dst := some 67, op := Op.move (Operand.tmp 9), type := 3, pos := "ref.go:70", after := #[], guard := none }) (u := ?_) rfl (by kernel_rfl) (fun _ _ _ h => h) (Or.inl ⟨by kernel_rfl, ?_⟩) hHeld ?_
              rotate_left
              focus (intro w hSw; (try dsimp only at hSw); go_simp; try with_reducible rfl)
              try simp only [Act.put, List.setIfInBounds_toArray, List.set_cons_zero, List.set_cons_succ]
              refine anyK_take (i := 4) (oi := { dst := some 68, op := Op.indexAddr 22 (Operand.tmp 66) (Operand.tmp 67), type := 0, pos := "ref.go:70", after := #[{ on := 2, ground := Ground.data }, { on := 3, ground := Ground.data }], guard := none }) (u := ?_) rfl (by kernel_rfl) (fun _ _ _ h => h) (Or.inl ⟨by kernel_rfl, ?_⟩) hHeld ?_
              rotate_left
              focus (intro w hSw; (try dsimp only at hSw); go_simp; try with_reducible rfl)
              try simp only [Act.put, List.setIfInBounds_toArray, List.set_cons_zero, List.set_cons_succ]
              refine anyK_take (i := 5) (oi := { dst := some 69, op := Op.load 29 (Operand.tmp 68), type := 29, pos := "ref.go:70", after := #[{ on := 4, ground := Ground.data }], guard := none }) (u := ?_) rfl (by kernel_rfl) (fun _ _ _ h => h) (Or.inl ⟨by kernel_rfl, ?_⟩) hHeld ?_
              rotate_left
              focus (intro w hSw; (try dsimp only at hSw); go_simp; try with_reducible rfl)
              try simp only [Act.put, List.setIfInBounds_toArray, List.set_cons_zero, List.set_cons_succ]
              refine anyK_take (i := 6) (oi := { dst := some 70, op := Op.move (Operand.tmp 4), type := 32, pos := "ref.go:70", after := #[], guard := none }) (u := ?_) rfl (by kernel_rfl) (fun _ _ _ h => h) (Or.inl ⟨by kernel_rfl, ?_⟩) hHeld ?_
              rotate_left
              focus (intro w hSw; (try dsimp only at hSw); go_simp; try with_reducible rfl)
              try simp only [Act.put, List.setIfInBounds_toArray, List.set_cons_zero, List.set_cons_succ]
              refine anyK_take (i := 7) (oi := { dst := some 71, op := Op.move (Operand.tmp 7), type := 3, pos := "ref.go:70", after := #[], guard := none }) (u := ?_) rfl (by kernel_rfl) (fun _ _ _ h => h) (Or.inl ⟨by kernel_rfl, ?_⟩) hHeld ?_
              rotate_left
              focus (intro w hSw; (try dsimp only at hSw); go_simp; try with_reducible rfl)
              try simp only [Act.put, List.setIfInBounds_toArray, List.set_cons_zero, List.set_cons_succ]
              refine anyK_take (i := 8) (oi := { dst := some 72, op := Op.indexAddr 32 (Operand.tmp 70) (Operand.tmp 71), type := 0, pos := "ref.go:70", after := #[{ on := 6, ground := Ground.data }, { on := 7, ground := Ground.data }], guard := none }) (u := ?_) rfl (by kernel_rfl) (fun _ _ _ h => h) (Or.inl ⟨by kernel_rfl, ?_⟩) hHeld ?_
              rotate_left
              focus (intro w hSw; (try dsimp only at hSw); go_simp; try with_reducible rfl)
              try simp only [Act.put, List.setIfInBounds_toArray, List.set_cons_zero, List.set_cons_succ]
              refine anyK_take (i := 9) (oi := { dst := some 73, op := Op.load 3 (Operand.tmp 72), type := 3, pos := "ref.go:70", after := #[{ on := 8, ground := Ground.data }], guard := none }) (u := ?_) rfl (by kernel_rfl) (fun _ _ _ h => h) (Or.inl ⟨by kernel_rfl, ?_⟩) hHeld ?_
              rotate_left
              focus (intro w hSw; (try dsimp only at hSw); go_simp; try with_reducible rfl)
              try simp only [Act.put, List.setIfInBounds_toArray, List.set_cons_zero, List.set_cons_succ]
              refine anyK_take (i := 10) (oi := { dst := some 74, op := Op.move (Operand.tmp 8), type := 3, pos := "ref.go:70", after := #[], guard := none }) (u := ?_) rfl (by kernel_rfl) (fun _ _ _ h => h) (Or.inl ⟨by kernel_rfl, ?_⟩) hHeld ?_
              rotate_left
              focus (intro w hSw; (try dsimp only at hSw); go_simp; try with_reducible rfl)
              try simp only [Act.put, List.setIfInBounds_toArray, List.set_cons_zero, List.set_cons_succ]
              refine anyK_take (i := 11) (oi := { dst := some 75, op := Op.build 28 #[(0, Operand.tmp 73), (1, Operand.tmp 74)], type := 28, pos := "ref.go:70", after := #[{ on := 9, ground := Ground.data }, { on := 10, ground := Ground.data }], guard := none }) (u := ?_) rfl (by kernel_rfl) (fun _ _ _ h => h) (Or.inl ⟨by kernel_rfl, ?_⟩) hHeld ?_
              rotate_left
              focus (intro w hSw; (try dsimp only at hSw); go_simp; try with_reducible rfl)
              try simp only [Act.put, List.setIfInBounds_toArray, List.set_cons_zero, List.set_cons_succ]
              refine anyK_one (i := 12) (o := { dst := some 76, op := Op.buildSlice 29 1 #[(0, Operand.tmp 75)], type := 29, pos := "ref.go:70", after := #[{ on := 11, ground := Ground.data }], guard := none }) (by kernel_rfl) rfl (fun K hK => ?_)
              go_simp
              refine hK.out _ _ (fun _ => ⟨qcg, qcl⟩) ?_
              clear hK K hHeld
              have hHeld : (fun (W : World) => W.cell? ⟨g, num, none⟩ = some (.slice pi li ci) ∧ W.cell? ⟨bl, ol + i, none⟩ = some (.int .i64 x)) (w1.alloc (.cells #[.int .i64 x, .int .i64 (nx - 1)] 28)).drew := ⟨qcg, qcl⟩
              try simp only [Act.put, List.setIfInBounds_toArray, List.set_cons_zero, List.set_cons_succ]
              refine anyK_one (i := 13) (o := { dst := some 77, op := Op.buildSlice 22 2 #[(0, Operand.tmp 69), (1, Operand.tmp 76)], type := 22, pos := "ref.go:70", after := #[{ on := 5, ground := Ground.data }, { on := 12, ground := Ground.data }], guard := none }) (by kernel_rfl) rfl (fun K hK => ?_)
              go_simp
              refine hK.out _ _ (fun _ => ⟨rcg, rcl⟩) ?_
              clear hK K hHeld
              have hHeld : (fun (W : World) => W.cell? ⟨g, num, none⟩ = some (.slice pi li ci) ∧ W.cell? ⟨bl, ol + i, none⟩ = some (.int .i64 x)) ((w1.alloc (.cells #[.int .i64 x, .int .i64 (nx - 1)] 28)).alloc (.cells #[.slice pi li ci, .slice (some ⟨w1.heap.size, 0, none⟩) 1 1] 29)).drew := ⟨rcg, rcl⟩
              try simp only [Act.put, List.setIfInBounds_toArray, List.set_cons_zero, List.set_cons_succ]
              refine anyK_one (i := 14) (o := { dst := some 78, op := Op.call { callee := Callee.value (Operand.func 33), args := #[Operand.tmp 77], argTypes := #[22] }, type := 29, pos := "ref.go:70", after := #[{ on := 13, ground := Ground.data }], guard := none }) (by kernel_rfl) rfl (fun K hK => ?_)
              go_simp
              go_at_call 33
              refine HJ.out.mono ?_
              rintro e w6 ⟨q6, d6, rfl, ho6, hb6⟩
              have HO6 := Lib.hid ho6
              have HB6 := Lib.hid hb6
              have hS6 := HCG.out w6 hb6
              clear ho6 hb6
              try go_wp2_with fail
              refine hK.out _ _ (fun _ => hS6) ?_
              clear hK K hHeld qcg qcl rcg rcl
              have hHeld : (fun (W : World) => W.cell? ⟨g, num, none⟩ = some (.slice pi li ci) ∧ W.cell? ⟨bl, ol + i, none⟩ = some (.int .i64 x)) w6 := hS6
              obtain ⟨scg, scl⟩ := hS6
              have sfg : w6.frozen? ⟨g, num, none⟩ = false := by have h := (HR.out.below HB6.out).out; rw [HVL.out] at h; exact h.frozenAt num
              try simp only [Act.put, List.setIfInBounds_toArray, List.set_cons_zero, List.set_cons_succ]
              refine anyK_take (i := 15) (oi := { dst := some 79, op := Op.indexAddr 22 (Operand.tmp 64) (Operand.tmp 65), type := 0, pos := "ref.go:70", after := #[{ on := 0, ground := Ground.data }, { on := 1, ground := Ground.data }, { on := 0, ground := Ground.phase }, { on := 1, ground := Ground.phase }, { on := 2, ground := Ground.phase }, { on := 3, ground := Ground.phase }, { on := 4, ground := Ground.phase }, { on := 5, ground := Ground.phase }, { on := 6, ground := Ground.phase }, { on := 7, ground := Ground.phase }, { on := 8, ground := Ground.phase }, { on := 9, ground := Ground.phase }, { on := 10, ground := Ground.phase }, { on := 11, ground := Ground.phase }, { on := 12, ground := Ground.phase }, { on := 13, ground := Ground.phase }, { on := 14, ground := Ground.phase }], guard := none }) (u := ?_) rfl (by kernel_rfl) (fun _ _ _ h => h) (Or.inl ⟨by kernel_rfl, ?_⟩) hHeld ?_
              rotate_left
              focus (intro w hSw; (try dsimp only at hSw); go_simp; try with_reducible rfl)
              try simp only [Act.put, List.setIfInBounds_toArray, List.set_cons_zero, List.set_cons_succ]
              refine anyK_one (i := 16) (o := { dst := none, op := Op.store 29 (Operand.tmp 79) (Operand.tmp 78), type := 0, pos := "ref.go:70", after := #[{ on := 15, ground := Ground.data }, { on := 14, ground := Ground.data }, { on := 14, ground := Ground.chain }, { on := 0, ground := Ground.phase }, { on := 1, ground := Ground.phase }, { on := 2, ground := Ground.phase }, { on := 3, ground := Ground.phase }, { on := 4, ground := Ground.phase }, { on := 5, ground := Ground.phase }, { on := 6, ground := Ground.phase }, { on := 7, ground := Ground.phase }, { on := 8, ground := Ground.phase }, { on := 9, ground := Ground.phase }, { on := 10, ground := Ground.phase }, { on := 11, ground := Ground.phase }, { on := 12, ground := Ground.phase }, { on := 13, ground := Ground.phase }, { on := 14, ground := Ground.phase }], guard := none }) (by kernel_rfl) rfl (fun K hK => ?_)
              go_simp
              refine hK.out _ _ (fun h => absurd h (by decide)) ?_
              clear hK K hHeld scg scl sfg hcg hcl
              try simp only [Act.put, List.setIfInBounds_toArray, List.set_cons_zero, List.set_cons_succ]
              refine anyK_done (by kernel_rfl) ?_ _
              have HA := Lib.hid (RowsIn.swap HR.out HNL2.out HB6.out HO6.out (by have := HREF.out.len; have := HLEN.out; omega) HBS.out)
              have HFN : Hid (OwnQ (w6.setCell ⟨g, num, none⟩ (.slice q6 lq d6)) w5.heap.size (.slice (some ⟨bf, of, none⟩) (f) cf) F) := by
                have h1 := (HR.out.below HB6.out).out
                refine ownQ_set (ownQ_below HFS.out HB6.out) ?_ num _
                rcases h1.2 with ⟨h', _⟩ | ⟨g', cap, cur, e, _, hh, _⟩
                · simp at h'
                · simp only [Value.slice.injEq, Option.some.injEq, Addr.mk.injEq, and_true] at e
                  rw [e.1]
                  exact ni_of hh (by decide)
              obtain ⟨W3, hW3⟩ : ∃ W3, W3 = w6.setCell ⟨g, num, none⟩ (.slice q6 lq d6) := ⟨_, rfl⟩
              rw [← hW3] at HA HFN ⊢
              clear hW3
              go_wp2
              go_roundw
              case rel =>
                refine ⟨i + 1, f, (some ⟨bf, of, none⟩), cf, some ⟨g, 0, none⟩, co1, F, O.set num rr, vs.set num (.slice q6 lq d6), by omega, rfl, rfl, by go_num, ⟨?_, HLEN.out, HFN.out, HA.out.1, HA.out.2 w5 HLOW.out, ?_⟩⟩
                · have h := HST.out
                  rw [HGLR.out] at h
                  rw [HNX.out]
                  refine HREF.out.old HNUM.out HAL.out hx0 (by omega) HCUT.out h.1 fun c => (h.2.1 c).trans ?_
                  constructor
                  · rintro (h | ⟨h1, h2⟩)
                    · exact .inl h
                    · exact .inr ⟨h1, by omega⟩
                  · rintro (h | ⟨h1, h2⟩)
                    · exact .inl h
                    · exact .inr ⟨h1, by omega⟩
                · intro k hk
                  rw [List.length_set] at hk
                  rw [gl_setU hk]
                  split
                  · have := HST.out.2.2
                    have h := HSH.out num HNL2.out
                    rw [HGLR.out] at this; omega
                  · have := HSH.out k hk; omega
              case measure => simp [intOf]; omega
            · have HC : Hid (∀ r, Calls Tryz.prog 32 #[.slice p n c, .int .i64 y, .int .i64 x] (wz.drewN r) fun e w' => e = .returned (.bool false) ∧ ∃ n, w' = wz.drewN n) := fun r => (alike_any p c n xs y x (wz.drewN r) HN.out (HRZ.out r) HXL.out HNN.out).mono fun e w' h => by
                obtain ⟨⟨r', hr'⟩, ⟨h, _⟩ | ⟨_, h⟩⟩ := h
                · exact ⟨h, r + r', by rw [hr', World.drewN_drewN]⟩
                · exact absurd h hal
              have HAL := Lib.hid hal
              clear hal
              go_wp2
              go_quiet ((go_at_call 32; (with_reducible exact (HC.out _).mono fun _ _ h => ⟨h.1, h.2.choose, h.2.choose_spec⟩)))
              have HDN : Hid (∃ r, wz.drewN nq = wr.drewN r) := by obtain ⟨r, h⟩ := HDR.out; exact ⟨r + nq, by rw [h, World.drewN_drewN]⟩
              have HNN2 : Hid (∀ k, k < num + 1 → ¬ alike (rowsV xs) (gq F k) x) := by
                intro k hk
                rcases Nat.lt_or_ge k num with h | h
                · exact HNA.out k h
                · have e : k = num := by omega
                  rw [e, ← HY.out]; exact HAL.out
              go_wp2
              go_roundw
              case rel => exact ⟨num + 1, by omega, by go_num, HNN2.out, HDN.out⟩
              case measure => simp [intOf]; omega
          · have hnfe : num = f := by omega
            have hnfI : (f : Int) ≤ num := by omega
            have hnd : decide (num < f) = false := by rw [decide_eq_false_iff_not]; exact hnf
            have hndI : decide ((num : Int) < (f : Int)) = false := by rw [decide_eq_false_iff_not]; omega
            go_wp2
            go_quiet (fail)
            obtain ⟨w1, hw1⟩ : ∃ w1, w1 = wz.drewN nq := ⟨_, rfl⟩
            have HB1 : Hid (Below wr.heap.size wr w1) := by show Below _ _ _; rw [hw1]; exact bl_trans HBZ.out (drewN_below _ _)
            rw [← hw1]
            clear hw1
            have HFN : Hid (num = f) := hnfe
            clear hnf hnd hndI hnfI
            subst hnfe
            have HLOW0 : Hid (Below w5.heap.size w5 w1) := HI.out.low.trans (HB1.out.mono HI.out.low.size)
            by_cases h60 : num = 60
            · have HMO : Hid (More (rowsV xs)) := HXR.out.over HPX.out (by have := HI.out.len; omega) (by have := HI.out.len; rw [← this]; exact HNA.out)
              subst h60
              go_wp2
              refine bodyPost_ret (v := .tuple #[.slice none 0 0, .int .i64 3]) (by simp [results, Tryz.f13, go_sem]) rfl ⟨bl_trans HB5.out HLOW0.out, .inl ⟨rfl, HMO.out⟩⟩
            · have hn60 : (num : Int) < 60 := by omega
              have hnn6 : ((num : Int) == 60) = false := by rw [beq_eq_false_iff_ne]; omega
              have hnnf : ((num : Int) == (num : Int)) = true := by simp
              have hcl0 : w1.cell? ⟨bl, ol + i, none⟩ = some (.int .i64 x) := keep_cellK HLOW0.out HCL.out
              have HFZ := Lib.hid (ownQ_below HI.out.fs HB1.out)
              have HRZ := Lib.hid (HI.out.rows.below HB1.out)
              have HLN := Lib.hid HI.out.len
              have hrow := ownQ_row HFZ.out HLN.out
              have HRO := Lib.hid hrow
              have hsz0 : w5.heap.size ≤ w1.heap.size := HLOW0.out.size
              have HSZ := Lib.hid hsz0
              clear hrow hsz0
              go_wp2_with (at_builtin; refine wpList_append_lies _ rfl _ _ 32 rfl w5.heap.size 3 i0 (.int .i64 0) 1 8 Tryz.underlying32 hinf hz0 hz1 hz2 rfl (by decide) (.slice qf num cf) num _ rfl (HRO.out.alloc _) ⟨w1.heap.size, 0, none⟩ 1 1 [.int .i64 x] rfl rfl (cells_one_q _ _ _) (by simp [Value.oneCell']) (by omega) (by simp only [maxLen]; omega) (by omega) (by have := HSZ.out; simp; omega) (w1.heap.size + 1) (by simp) ?_)
              intro g7 c7 w7 hown7 hgrow7 hat7 hlt7
              have HOW7 := Lib.hid hown7
              have HGR7 := Lib.hid hgrow7
              have HLOW7 := Lib.hid ((HLOW0.out.alloc HSZ.out _).grown hgrow7 (by have := HSZ.out; simp; omega) (fun k hk => (HRO.out.lt k hk).1))
              have hcl7 : w7.cell? ⟨bl, ol + i, none⟩ = some (.int .i64 x) := keep_cellK HLOW7.out HCL.out
              clear hown7 hgrow7 hat7 hlt7 hcl0
              have HO7 := Lib.hid (ownQ_appended HLN.out HOW7.out)
              have HR7 : Hid (RowsIn w7 w5.heap.size (.slice qo num co) vs O) := HRZ.out.beside HFZ.out HGR7.out
              have HRL : Hid (vs.length = num) := by have := HR7.out.len; have := HI.out.ref.len; have := HI.out.len; show _ = _; omega
              have hout7 : w7.ownsRow w5.heap.size 29 1 (.slice qo num co) num vs := by have h := HR7.out.out; rw [HRL.out] at h; exact h
              have HOU7 := Lib.hid hout7
              have hsz7 : w5.heap.size ≤ w7.heap.size := HLOW7.out.size
              have HSZ7 := Lib.hid hsz7
              clear hout7 hsz7
              go_wp2_with (at_builtin; refine wpList_append_lies _ rfl _ _ 22 rfl w5.heap.size 29 i1 (.slice none 0 0) 1 24 Tryz.underlying22 ginf gz0 gz1 gz2 rfl (by decide) (.slice qo num co) num _ rfl (HOU7.out.alloc _) ⟨w7.heap.size, 0, none⟩ 1 1 [.slice none 0 0] rfl rfl (cells_one_q _ _ _) (by simp [Value.oneCell']) (by omega) (by simp only [maxLen]; omega) (by omega) (by have := HSZ7.out; simp; omega) (w7.heap.size + 1) (by simp) ?_; intro g co1 w8 hown8 hgrow8 hat8 hlt8; have HOW8 := Lib.hid hown8; have HGR8 := Lib.hid hgrow8; clear hown8 hgrow8 hat8 hlt8 hcl7)
              have hM := HR7.out.more (show num = O.length by have := HI.out.ref.len; have := HI.out.len; omega) HOW8.out HGR8.out HSZ7.out
              have HFS : Hid (OwnQ w8 w5.heap.size (.slice (some ⟨g7, 0, none⟩) (num + 1) c7) (F ++ [x])) := ownQ_beside HO7.out HR7.out HGR8.out
              have HREF : Hid (RefAt (rowsV xs) (F ++ [x]) (O ++ [[]]) x) := HXR.out.new HPX.out (by have := HI.out.len; omega) (by have := HI.out.len; rw [← this]; exact HNA.out)
              have HLEN : Hid (num + 1 = (F ++ [x]).length) := by have := HI.out.len; show _ = _; simp; omega
              have HLOW : Hid (Below w5.heap.size w5 w8) := hM.2.2 w5 HLOW7.out
              have HR := Lib.hid hM.1
              have HNUM : Hid (num < (F ++ [x]).length) := by have := HLEN.out; show _ < _; omega
              have HAL : Hid (alike (rowsV xs) (gq (F ++ [x]) num) x) := by
                show alike _ _ _
                have e : num = F.length := HI.out.len
                rw [e, gq_snocU_eq]; exact alike.refl _ _
              have HSH : Hid (∀ k, k < (O ++ [[]]).length → (gl (O ++ [[]]) k).length ≤ i) := by
                intro k hk
                rw [List.length_append] at hk
                simp only [List.length_cons, List.length_nil] at hk
                rcases Nat.lt_or_ge k O.length with h | h
                · rw [gl_snocU_lt h]; exact HI.out.short k h
                · have e : k = O.length := by omega
                  rw [e, gl_snocU_eq]; exact Nat.zero_le _
              have hcl : w8.cell? ⟨bl, ol + i, none⟩ = some (.int .i64 x) := keep_cellK HLOW.out HCL.out
              clear hM HOW8 HGR8
              obtain ⟨m, hm⟩ : ∃ m, m = num + 1 := ⟨_, rfl⟩
              rw [← hm] at HR HFS HLEN ⊢
              have hm61 : m ≤ 61 := by omega
              clear hm
              obtain ⟨vi, hvi⟩ : ∃ vi, vi = gv (vs ++ [Value.slice none 0 0]) num := ⟨_, rfl⟩
              have hnm : num < m := by have := HNUM.out; have := HLEN.out; omega
              have hnl : num < (O ++ [[]]).length := by have := HREF.out.len; have := HLEN.out; omega
              have hvl : (vs ++ [Value.slice none 0 0]).length = m := by have h := HR.out.len; have := HREF.out.len; have := HLEN.out; omega
              have hOUT : w8.ownsRow w5.heap.size 29 1 (.slice (some ⟨g, 0, none⟩) (m) co1) (m) (vs ++ [Value.slice none 0 0]) := by have h := HR.out.out; rw [hvl] at h; exact h
              have hcg : w8.cell? ⟨g, num, none⟩ = some vi := by rw [hOUT.cellAt num (by omega), List.getElem?_eq_getElem (by omega), hvi, gv_get (by omega)]
              obtain ⟨lr, hlr⟩ : ∃ lr, lr = gl (O ++ [[]]) num := ⟨_, rfl⟩
              obtain ⟨li, hli⟩ : ∃ li, li = lr.length := ⟨_, rfl⟩
              have hov := HR.out.own num hnl
              rw [← hvi, ← hlr] at hov
              obtain ⟨pi, ci, hve, _, _, _, hsr, _⟩ := ownR_form hov
              rw [← hli] at hve
              have hlib : li ≤ 3000 := by have h := HSH.out num hnl; have := HNC.out; rw [← hlr] at h; omega
              obtain ⟨rr, hrr⟩ : ∃ rr, rr = cn (lr ++ [(x, (nx - 1))]) := ⟨_, rfl⟩
              obtain ⟨lq, hlq⟩ : ∃ lq, lq = rr.length := ⟨_, rfl⟩
              have hst := row_step (l := lr) (x := x) (y := (nx - 1)) hx0 (by omega)
              rw [← hrr] at hst
              have HST := Lib.hid hst
              have hBs : w5.heap.size ≤ w8.heap.size := HLOW.out.size
              have HBS := Lib.hid hBs
              have HVL := Lib.hid hvl
              have HNL2 := Lib.hid hnl
              have HGLR := Lib.hid hlr
              have HLIB := Lib.hid hlib
              subst hve
              have HJ : Hid (Calls Tryz.prog 33 #[.slice (some ⟨w8.heap.size + 1, 0, none⟩) 2 2] ((w8.alloc (.cells #[.int .i64 x, .int .i64 (nx - 1)] 28)).alloc (.cells #[.slice pi li ci, .slice (some ⟨w8.heap.size, 0, none⟩) 1 1] 29)).drew fun e w' => ∃ q6 d6, e = .returned (.slice q6 lq d6) ∧ OwnR w' w8.heap.size (.slice q6 lq d6) rr ∧ Below w8.heap.size w8 w') := by
                have e1 : (w8.alloc (.cells #[.int .i64 x, .int .i64 (nx - 1)] 28)).heap.size = w8.heap.size + 1 := by simp
                have hbel : Below w8.heap.size w8 ((w8.alloc (.cells #[.int .i64 x, .int .i64 (nx - 1)] 28)).alloc (.cells #[.slice pi li ci, .slice (some ⟨w8.heap.size, 0, none⟩) 1 1] 29)).drew := (bl_trans (bl_alloc _ _) (bl_alloc _ _)).drew
                have hs2 : SlS ((w8.alloc (.cells #[.int .i64 x, .int .i64 (nx - 1)] 28)).alloc (.cells #[.slice pi li ci, .slice (some ⟨w8.heap.size, 0, none⟩) 1 1] 29)) (some ⟨(w8.alloc (.cells #[.int .i64 x, .int .i64 (nx - 1)] 28)).heap.size, 0, none⟩) [(pi, ci, lr), (some ⟨w8.heap.size, 0, none⟩, 1, [(x, (nx - 1))])] := sls_new (fun y hy => by
                  simp only [List.mem_cons, List.not_mem_nil, or_false] at hy
                  rcases hy with rfl | rfl
                  · exact hsr.below (bl_alloc _ _)
                  · exact slr_new w8 [(x, (nx - 1))] _ _ rfl) (by rw [hli]; rfl)
                rw [e1] at hs2
                have hfl : flat [(pi, ci, lr), (some ⟨w8.heap.size, 0, none⟩, 1, [(x, (nx - 1))])] = lr ++ [(x, (nx - 1))] := by simp [flat]
                refine (rjoin_any (some ⟨w8.heap.size + 1, 0, none⟩) 2 2 _ rr ((w8.alloc (.cells #[.int .i64 x, .int .i64 (nx - 1)] 28)).alloc (.cells #[.slice pi li ci, .slice (some ⟨w8.heap.size, 0, none⟩) 1 1] 29)).drew (by rw [hfl]; exact hrr) rfl (hs2.below (bl_drew _)) (by rw [hfl, List.length_append, ← hli]; simp only [List.length_cons, List.length_nil]; omega) (by omega)).mono ?_
                rintro e w' ⟨q6, d6, rfl, ho, hb⟩
                rw [← hlq] at ho ⊢
                exact ⟨q6, d6, rfl, ownR_mono ho (by show w8.heap.size ≤ _; simp; omega), bl_trans hbel hb⟩
              have qcg := ((bl_alloc w8 (.cells #[.int .i64 x, .int .i64 (nx - 1)] 28)).cell (World.block_lt_of_cell? w8 _ hcg)).trans hcg
              have qcl := ((bl_alloc w8 (.cells #[.int .i64 x, .int .i64 (nx - 1)] 28)).cell (World.block_lt_of_cell? w8 _ hcl)).trans hcl
              have rcg := ((bl_alloc (w8.alloc (.cells #[.int .i64 x, .int .i64 (nx - 1)] 28)) (.cells #[.slice pi li ci, .slice (some ⟨w8.heap.size, 0, none⟩) 1 1] 29)).cell (World.block_lt_of_cell? _ _ qcg)).trans qcg
              have rcl := ((bl_alloc (w8.alloc (.cells #[.int .i64 x, .int .i64 (nx - 1)] 28)) (.cells #[.slice pi li ci, .slice (some ⟨w8.heap.size, 0, none⟩) 1 1] 29)).cell (World.block_lt_of_cell? _ _ qcl)).trans qcl
              have HCG : Hid (∀ W : World, Below w8.heap.size w8 W → W.cell? ⟨g, num, none⟩ = some (.slice pi li ci) ∧ W.cell? ⟨bl, ol + i, none⟩ = some (.int .i64 x)) := fun W hW => ⟨keep_cellK hW hcg, keep_cellK hW hcl⟩
              have hmg : (g : Nat) < w8.heap.size := (hOUT.lt g rfl).2
              have hnumI : (num : Int) < (m : Nat) := by have := HNUM.out; have := HLEN.out; omega
              clear hvi hli hov hOUT hvl hlr hrr hlq hst hsr hnl hlib hBs hnm
              refine wp_region_K (S := fun (W : World) => W.cell? ⟨g, num, none⟩ = some (.slice pi li ci) ∧ W.cell? ⟨bl, ol + i, none⟩ = some (.int .i64 x)) 16 (by kernel_rfl) ?_
              have hHeld : (fun (W : World) => W.cell? ⟨g, num, none⟩ = some (.slice pi li ci) ∧ W.cell? ⟨bl, ol + i, none⟩ = some (.int .i64 x)) w8.drew := ⟨hcg, hcl⟩
              refine anyK_take (i := 0) (oi := { dst := some 64, op := Op.move (Operand.tmp 6), type := 22, pos := "ref.go:70", after := #[], guard := none }) (u := ?_) rfl (by kernel_rfl) (fun _ _ _ h => h) (Or.inl ⟨by kernel_rfl, ?_⟩) hHeld ?_
              rotate_left
              focus (intro w hSw; (try dsimp only at hSw); go_simp; try with_reducible rfl)
              try simp only [Act.put, List.setIfInBounds_toArray, List.set_cons_zero, List.set_cons_succ]
              refine anyK_take (i := 1) (oi := { dst := some 65, op := Op.move (Operand.tmp 9), type := 3, pos := "ref.go:70", after := #[], guard := none }) (u := ?_) rfl (by kernel_rfl) (fun _ _ _ h => h) (Or.inl ⟨by kernel_rfl, ?_⟩) hHeld ?_
              rotate_left
              focus (intro w hSw; (try dsimp only at hSw); go_simp; try with_reducible rfl)
              try simp only [Act.put, List.setIfInBounds_toArray, List.set_cons_zero, List.set_cons_succ]
              refine anyK_take (i := 2) (oi := { dst := some 66, op := Op.move (Operand.tmp 6), type := 22, pos := "ref.go:70", after := #[], guard := none }) (u := ?_) rfl (by kernel_rfl) (fun _ _ _ h => h) (Or.inl ⟨by kernel_rfl, ?_⟩) hHeld ?_
              rotate_left
              focus (intro w hSw; (try dsimp only at hSw); go_simp; try with_reducible rfl)
              try simp only [Act.put, List.setIfInBounds_toArray, List.set_cons_zero, List.set_cons_succ]
              refine anyK_take (i := 3) (oi := { dst := some 67, op := Op.move (Operand.tmp 9), type := 3, pos := "ref.go:70", after := #[], guard := none }) (u := ?_) rfl (by kernel_rfl) (fun _ _ _ h => h) (Or.inl ⟨by kernel_rfl, ?_⟩) hHeld ?_
              rotate_left
              focus (intro w hSw; (try dsimp only at hSw); go_simp; try with_reducible rfl)
              try simp only [Act.put, List.setIfInBounds_toArray, List.set_cons_zero, List.set_cons_succ]
              refine anyK_take (i := 4) (oi := { dst := some 68, op := Op.indexAddr 22 (Operand.tmp 66) (Operand.tmp 67), type := 0, pos := "ref.go:70", after := #[{ on := 2, ground := Ground.data }, { on := 3, ground := Ground.data }], guard := none }) (u := ?_) rfl (by kernel_rfl) (fun _ _ _ h => h) (Or.inl ⟨by kernel_rfl, ?_⟩) hHeld ?_
              rotate_left
              focus (intro w hSw; (try dsimp only at hSw); go_simp; try with_reducible rfl)
              try simp only [Act.put, List.setIfInBounds_toArray, List.set_cons_zero, List.set_cons_succ]
              refine anyK_take (i := 5) (oi := { dst := some 69, op := Op.load 29 (Operand.tmp 68), type := 29, pos := "ref.go:70", after := #[{ on := 4, ground := Ground.data }], guard := none }) (u := ?_) rfl (by kernel_rfl) (fun _ _ _ h => h) (Or.inl ⟨by kernel_rfl, ?_⟩) hHeld ?_
              rotate_left
              focus (intro w hSw; (try dsimp only at hSw); go_simp; try with_reducible rfl)
              try simp only [Act.put, List.setIfInBounds_toArray, List.set_cons_zero, List.set_cons_succ]
              refine anyK_take (i := 6) (oi := { dst := some 70, op := Op.move (Operand.tmp 4), type := 32, pos := "ref.go:70", after := #[], guard := none }) (u := ?_) rfl (by kernel_rfl) (fun _ _ _ h => h) (Or.inl ⟨by kernel_rfl, ?_⟩) hHeld ?_
              rotate_left
              focus (intro w hSw; (try dsimp only at hSw); go_simp; try with_reducible rfl)
              try simp only [Act.put, List.setIfInBounds_toArray, List.set_cons_zero, List.set_cons_succ]
              refine anyK_take (i := 7) (oi := { dst := some 71, op := Op.move (Operand.tmp 7), type := 3, pos := "ref.go:70", after := #[], guard := none }) (u := ?_) rfl (by kernel_rfl) (fun _ _ _ h => h) (Or.inl ⟨by kernel_rfl, ?_⟩) hHeld ?_
              rotate_left
              focus (intro w hSw; (try dsimp only at hSw); go_simp; try with_reducible rfl)
              try simp only [Act.put, List.setIfInBounds_toArray, List.set_cons_zero, List.set_cons_succ]
              refine anyK_take (i := 8) (oi := { dst := some 72, op := Op.indexAddr 32 (Operand.tmp 70) (Operand.tmp 71), type := 0, pos := "ref.go:70", after := #[{ on := 6, ground := Ground.data }, { on := 7, ground := Ground.data }], guard := none }) (u := ?_) rfl (by kernel_rfl) (fun _ _ _ h => h) (Or.inl ⟨by kernel_rfl, ?_⟩) hHeld ?_
              rotate_left
              focus (intro w hSw; (try dsimp only at hSw); go_simp; try with_reducible rfl)
              try simp only [Act.put, List.setIfInBounds_toArray, List.set_cons_zero, List.set_cons_succ]
              refine anyK_take (i := 9) (oi := { dst := some 73, op := Op.load 3 (Operand.tmp 72), type := 3, pos := "ref.go:70", after := #[{ on := 8, ground := Ground.data }], guard := none }) (u := ?_) rfl (by kernel_rfl) (fun _ _ _ h => h) (Or.inl ⟨by kernel_rfl, ?_⟩) hHeld ?_
              rotate_left
              focus (intro w hSw; (try dsimp only at hSw); go_simp; try with_reducible rfl)
              try simp only [Act.put, List.setIfInBounds_toArray, List.set_cons_zero, List.set_cons_succ]
              refine anyK_take (i := 10) (oi := { dst := some 74, op := Op.move (Operand.tmp 8), type := 3, pos := "ref.go:70", after := #[], guard := none }) (u := ?_) rfl (by kernel_rfl) (fun _ _ _ h => h) (Or.inl ⟨by kernel_rfl, ?_⟩) hHeld ?_
              rotate_left
              focus (intro w hSw; (try dsimp only at hSw); go_simp; try with_reducible rfl)
              try simp only [Act.put, List.setIfInBounds_toArray, List.set_cons_zero, List.set_cons_succ]
              refine anyK_take (i := 11) (oi := { dst := some 75, op := Op.build 28 #[(0, Operand.tmp 73), (1, Operand.tmp 74)], type := 28, pos := "ref.go:70", after := #[{ on := 9, ground := Ground.data }, { on := 10, ground := Ground.data }], guard := none }) (u := ?_) rfl (by kernel_rfl) (fun _ _ _ h => h) (Or.inl ⟨by kernel_rfl, ?_⟩) hHeld ?_
              rotate_left
              focus (intro w hSw; (try dsimp only at hSw); go_simp; try with_reducible rfl)
              try simp only [Act.put, List.setIfInBounds_toArray, List.set_cons_zero, List.set_cons_succ]
              refine anyK_one (i := 12) (o := { dst := some 76, op := Op.buildSlice 29 1 #[(0, Operand.tmp 75)], type := 29, pos := "ref.go:70", after := #[{ on := 11, ground := Ground.data }], guard := none }) (by kernel_rfl) rfl (fun K hK => ?_)
              go_simp
              refine hK.out _ _ (fun _ => ⟨qcg, qcl⟩) ?_
              clear hK K hHeld
              have hHeld : (fun (W : World) => W.cell? ⟨g, num, none⟩ = some (.slice pi li ci) ∧ W.cell? ⟨bl, ol + i, none⟩ = some (.int .i64 x)) (w8.alloc (.cells #[.int .i64 x, .int .i64 (nx - 1)] 28)).drew := ⟨qcg, qcl⟩
              try simp only [Act.put, List.setIfInBounds_toArray, List.set_cons_zero, List.set_cons_succ]
              refine anyK_one (i := 13) (o := { dst := some 77, op := Op.buildSlice 22 2 #[(0, Operand.tmp 69), (1, Operand.tmp 76)], type := 22, pos := "ref.go:70", after := #[{ on := 5, ground := Ground.data }, { on := 12, ground := Ground.data }], guard := none }) (by kernel_rfl) rfl (fun K hK => ?_)
              go_simp
              refine hK.out _ _ (fun _ => ⟨rcg, rcl⟩) ?_
              clear hK K hHeld
              have hHeld : (fun (W : World) => W.cell? ⟨g, num, none⟩ = some (.slice pi li ci) ∧ W.cell? ⟨bl, ol + i, none⟩ = some (.int .i64 x)) ((w8.alloc (.cells #[.int .i64 x, .int .i64 (nx - 1)] 28)).alloc (.cells #[.slice pi li ci, .slice (some ⟨w8.heap.size, 0, none⟩) 1 1] 29)).drew := ⟨rcg, rcl⟩
              try simp only [Act.put, List.setIfInBounds_toArray, List.set_cons_zero, List.set_cons_succ]
              refine anyK_one (i := 14) (o := { dst := some 78, op := Op.call { callee := Callee.value (Operand.func 33), args := #[Operand.tmp 77], argTypes := #[22] }, type := 29, pos := "ref.go:70", after := #[{ on := 13, ground := Ground.data }], guard := none }) (by kernel_rfl) rfl (fun K hK => ?_)
              go_simp
              go_at_call 33
              refine HJ.out.mono ?_
              rintro e w6 ⟨q6, d6, rfl, ho6, hb6⟩
              have HO6 := Lib.hid ho6
              have HB6 := Lib.hid hb6
              have hS6 := HCG.out w6 hb6
              clear ho6 hb6
              try go_wp2_with fail
              refine hK.out _ _ (fun _ => hS6) ?_
              clear hK K hHeld qcg qcl rcg rcl
              have hHeld : (fun (W : World) => W.cell? ⟨g, num, none⟩ = some (.slice pi li ci) ∧ W.cell? ⟨bl, ol + i, none⟩ = some (.int .i64 x)) w6 := hS6
              obtain ⟨scg, scl⟩ := hS6
              have sfg : w6.frozen? ⟨g, num, none⟩ = false := by have h := (HR.out.below HB6.out).out; rw [HVL.out] at h; exact h.frozenAt num
              try simp only [Act.put, List.setIfInBounds_toArray, List.set_cons_zero, List.set_cons_succ]
              refine anyK_take (i := 15) (oi := { dst := some 79, op := Op.indexAddr 22 (Operand.tmp 64) (Operand.tmp 65), type := 0, pos := "ref.go:70", after := #[{ on := 0, ground := Ground.data }, { on := 1, ground := Ground.data }, { on := 0, ground := Ground.phase }, { on := 1, ground := Ground.phase }, { on := 2, ground := Ground.phase }, { on := 3, ground := Ground.phase }, { on := 4, ground := Ground.phase }, { on := 5, ground := Ground.phase }, { on := 6, ground := Ground.phase }, { on := 7, ground := Ground.phase }, { on := 8, ground := Ground.phase }, { on := 9, ground := Ground.phase }, { on := 10, ground := Ground.phase }, { on := 11, ground := Ground.phase }, { on := 12, ground := Ground.phase }, { on := 13, ground := Ground.phase }, { on := 14, ground := Ground.phase }], guard := none }) (u := ?_) rfl (by kernel_rfl) (fun _ _ _ h => h) (Or.inl ⟨by kernel_rfl, ?_⟩) hHeld ?_
              rotate_left
              focus (intro w hSw; (try dsimp only at hSw); go_simp; try with_reducible rfl)
              try simp only [Act.put, List.setIfInBounds_toArray, List.set_cons_zero, List.set_cons_succ]
              refine anyK_one (i := 16) (o := { dst := none, op := Op.store 29 (Operand.tmp 79) (Operand.tmp 78), type := 0, pos := "ref.go:70", after := #[{ on := 15, ground := Ground.data }, { on := 14, ground := Ground.data }, { on := 14, ground := Ground.chain }, { on := 0, ground := Ground.phase }, { on := 1, ground := Ground.phase }, { on := 2, ground := Ground.phase }, { on := 3, ground := Ground.phase }, { on := 4, ground := Ground.phase }, { on := 5, ground := Ground.phase }, { on := 6, ground := Ground.phase }, { on := 7, ground := Ground.phase }, { on := 8, ground := Ground.phase }, { on := 9, ground := Ground.phase }, { on := 10, ground := Ground.phase }, { on := 11, ground := Ground.phase }, { on := 12, ground := Ground.phase }, { on := 13, ground := Ground.phase }, { on := 14, ground := Ground.phase }], guard := none }) (by kernel_rfl) rfl (fun K hK => ?_)
              go_simp
              refine hK.out _ _ (fun h => absurd h (by decide)) ?_
              clear hK K hHeld scg scl sfg hcg hcl
              try simp only [Act.put, List.setIfInBounds_toArray, List.set_cons_zero, List.set_cons_succ]
              refine anyK_done (by kernel_rfl) ?_ _
              have HA := Lib.hid (RowsIn.swap HR.out HNL2.out HB6.out HO6.out (by have := HREF.out.len; have := HLEN.out; omega) HBS.out)
              have HFN : Hid (OwnQ (w6.setCell ⟨g, num, none⟩ (.slice q6 lq d6)) w5.heap.size (.slice (some ⟨g7, 0, none⟩) (m) c7) (F ++ [x])) := by
                have h1 := (HR.out.below HB6.out).out
                refine ownQ_set (ownQ_below HFS.out HB6.out) ?_ num _
                rcases h1.2 with ⟨h', _⟩ | ⟨g', cap, cur, e, _, hh, _⟩
                · simp at h'
                · simp only [Value.slice.injEq, Option.some.injEq, Addr.mk.injEq, and_true] at e
                  rw [e.1]
                  exact ni_of hh (by decide)
              obtain ⟨W3, hW3⟩ : ∃ W3, W3 = w6.setCell ⟨g, num, none⟩ (.slice q6 lq d6) := ⟨_, rfl⟩
              rw [← hW3] at HA HFN ⊢
              clear hW3
              go_wp2
              go_roundw
              case rel =>
                refine ⟨i + 1, m, (some ⟨g7, 0, none⟩), c7, some ⟨g, 0, none⟩, co1, (F ++ [x]), (O ++ [[]]).set num rr, (vs ++ [Value.slice none 0 0]).set num (.slice q6 lq d6), by omega, rfl, rfl, by go_num, ⟨?_, HLEN.out, HFN.out, HA.out.1, HA.out.2 w5 HLOW.out, ?_⟩⟩
                · have h := HST.out
                  rw [HGLR.out] at h
                  rw [HNX.out]
                  refine HREF.out.old HNUM.out HAL.out hx0 (by omega) HCUT.out h.1 fun c => (h.2.1 c).trans ?_
                  constructor
                  · rintro (h | ⟨h1, h2⟩)
                    · exact .inl h
                    · exact .inr ⟨h1, by omega⟩
                  · rintro (h | ⟨h1, h2⟩)
                    · exact .inl h
                    · exact .inr ⟨h1, by omega⟩
                · intro k hk
                  rw [List.length_set] at hk
                  rw [gl_setU hk]
                  split
                  · have := HST.out.2.2
                    have h := HSH.out num HNL2.out
                    rw [HGLR.out] at this; omega
                  · have := HSH.out k hk; omega
              case measure => simp [intOf]; omega
      · have hlI : (nc : Int) ≤ i + 1 := by omega
        have hgn : nx = 1114112 := by rw [hnx]; unfold nextCut; rw [if_neg (by have := HNL.out; omega)]
        subst hgn
        clear hx hnx hcl5 hcut hil
        go_wp2
        clear hcl1
        go_loopw [9] (fun av wz => ∃ (a : Nat), a ≤ f ∧ av = .int .i64 (a : Nat) ∧ Hid (∀ k, k < a → ¬ alike (rowsV xs) (gq F k) x) ∧ Hid (∃ r, wz = wr.drewN r)) (fun av _ => f - (intOf av).toNat)
        case atStart => exact ⟨0, Nat.zero_le _, rfl, (fun k hk => absurd hk (Nat.not_lt_zero _)), 0, rfl⟩
        case round =>
          obtain ⟨num, hnumf, rfl, HNA, HDR⟩ := hrel
          rename World => wz
          have HBZ : Hid (Below wr.heap.size wr wz) := by obtain ⟨r, h⟩ := HDR.out; rw [h]; exact drewN_below wr r
          have HLZ : Hid (Below w5.heap.size w5 wz) := HI.out.low.trans (HBZ.out.mono HI.out.low.size)
          have hcl : wz.cell? ⟨bl, ol + i, none⟩ = some (.int .i64 x) := keep_cellK HLZ.out HCL.out
          by_cases hnf : num < f
          · have hnfI : (num : Int) < f := by omega
            have HFZ := Lib.hid (ownQ_below HI.out.fs HBZ.out)
            obtain ⟨qf', cf', ef, _, _, hslf⟩ := ownQ_form HFZ.out
            simp only [Value.slice.injEq] at ef
            obtain ⟨rfl, -, rfl⟩ := ef
            have hnd : decide (num < f) = true := by rw [decide_eq_true_eq]; exact hnf
            have hndI : decide ((num : Int) < (f : Int)) = true := by rw [decide_eq_true_eq]; exact hnfI
            obtain ⟨bf, of, rfl, hcf⟩ := slq_at hslf (show num < F.length by have := HI.out.len; omega)
            obtain ⟨y, hy⟩ : ∃ y, y = gq F num := ⟨_, rfl⟩
            rw [← hy] at hcf
            have HY := Lib.hid hy
            have HRZ : Hid (∀ r, SlS (wz.drewN r) p xs) := fun r => (HX.out.below (bl_trans HB5.out HLZ.out)).below (drewN_below _ _)
            clear hy hslf
            by_cases hal : alike (rowsV xs) y x
            · have HC : Hid (∀ r, Calls Tryz.prog 32 #[.slice p n c, .int .i64 y, .int .i64 x] (wz.drewN r) fun e w' => e = .returned (.bool true) ∧ ∃ n, w' = wz.drewN n) := fun r => (alike_any p c n xs y x (wz.drewN r) HN.out (HRZ.out r) HXL.out HNN.out).mono fun e w' h => by
                obtain ⟨⟨r', hr'⟩, ⟨_, h⟩ | ⟨h, _⟩⟩ := h
                · exact absurd hal h
                · exact ⟨h, r + r', by rw [hr', World.drewN_drewN]⟩
              have HAL := Lib.hid hal
              clear hal
              go_wp2
              go_quiet ((go_at_call 32; (with_reducible exact (HC.out _).mono fun _ _ h => ⟨h.1, h.2.choose, h.2.choose_spec⟩)))
              obtain ⟨w1, hw1⟩ : ∃ w1, w1 = wz.drewN nq := ⟨_, rfl⟩
              have HB1 : Hid (Below wr.heap.size wr w1) := by show Below _ _ _; rw [hw1]; exact bl_trans HBZ.out (drewN_below _ _)
              rw [← hw1]
              clear hw1 HC
              have HLOW : Hid (Below w5.heap.size w5 w1) := HI.out.low.trans (HB1.out.mono HI.out.low.size)
              obtain ⟨g, co1, hpo⟩ : ∃ g co1, (Value.slice qo f co) = .slice (some ⟨g, 0, none⟩) f co1 := by
                rcases HI.out.rows.out.2 with ⟨_, h⟩ | ⟨g, cap, cur, e, _⟩
                · have := HI.out.rows.len; have := HI.out.ref.len; have := HI.out.len; omega
                · have h1 := HI.out.rows.len
                  have h2 := HI.out.ref.len
                  have h3 := HI.out.len
                  rw [show vs.length = f by omega] at e
                  exact ⟨g, cap, e⟩
              have HR : Hid (RowsIn w1 w5.heap.size (.slice (some ⟨g, 0, none⟩) f co1) vs O) := by
                show RowsIn _ _ _ _ _
                rw [← hpo]; exact HI.out.rows.below HB1.out
              simp only [Value.slice.injEq, true_and] at hpo
              obtain ⟨hpo1, hpo2⟩ := hpo
              subst hpo1
              have hpo3 := hpo2.symm
              clear hpo2
              subst hpo3
              have HFS := Lib.hid (ownQ_below HI.out.fs HB1.out)
              have HREF : Hid (RefAt (rowsV xs) F O x) := HXR.out
              have HLEN := Lib.hid HI.out.len
              have HSH := Lib.hid HI.out.short
              have HNUM : Hid (num < F.length) := by have := HI.out.len; show _ < _; omega
              have hcl : w1.cell? ⟨bl, ol + i, none⟩ = some (.int .i64 x) := keep_cellK HLOW.out HCL.out
              rw [HY.out] at HAL
              have hn60 : (num : Int) < 60 := by omega
              have hnnf : ((num : Int) == (f : Int)) = false := by rw [beq_eq_false_iff_ne]; omega
              have hnn6 : ((num : Int) == 60) = false := by rw [beq_eq_false_iff_ne]; omega
              go_wp2_with fail
              obtain ⟨vi, hvi⟩ : ∃ vi, vi = gv vs num := ⟨_, rfl⟩
              have hnm : num < f := by have := HNUM.out; have := HLEN.out; omega
              have hnl : num < O.length := by have := HREF.out.len; have := HLEN.out; omega
              have hvl : vs.length = f := by have h := HR.out.len; have := HREF.out.len; have := HLEN.out; omega
              have hOUT : w1.ownsRow w5.heap.size 29 1 (.slice (some ⟨g, 0, none⟩) (f) co1) (f) vs := by have h := HR.out.out; rw [hvl] at h; exact h
              have hcg : w1.cell? ⟨g, num, none⟩ = some vi := by rw [hOUT.cellAt num (by omega), List.getElem?_eq_getElem (by omega), hvi, gv_get (by omega)]
              obtain ⟨lr, hlr⟩ : ∃ lr, lr = gl O num := ⟨_, rfl⟩
              obtain ⟨li, hli⟩ : ∃ li, li = lr.length := ⟨_, rfl⟩
              have hov := HR.out.own num hnl
              rw [← hvi, ← hlr] at hov
              obtain ⟨pi, ci, hve, _, _, _, hsr, _⟩ := ownR_form hov
              rw [← hli] at hve
              have hlib : li ≤ 3000 := by have h := HSH.out num hnl; have := HNC.out; rw [← hlr] at h; omega
              obtain ⟨rr, hrr⟩ : ∃ rr, rr = cn (lr ++ [(x, 1114111)]) := ⟨_, rfl⟩
              obtain ⟨lq, hlq⟩ : ∃ lq, lq = rr.length := ⟨_, rfl⟩
              have hst := row_step (l := lr) (x := x) (y := 1114111) hx0 (by omega)
              rw [← hrr] at hst
              have HST := Lib.hid hst
              have hBs : w5.heap.size ≤ w1.heap.size := HLOW.out.size
              have HBS := Lib.hid hBs
              have HVL := Lib.hid hvl
              have HNL2 := Lib.hid hnl
              have HGLR := Lib.hid hlr
              have HLIB := Lib.hid hlib
              subst hve
              have HJ : Hid (Calls Tryz.prog 33 #[.slice (some ⟨w1.heap.size + 1, 0, none⟩) 2 2] ((w1.alloc (.cells #[.int .i64 x, .int .i64 1114111] 28)).alloc (.cells #[.slice pi li ci, .slice (some ⟨w1.heap.size, 0, none⟩) 1 1] 29)).drew fun e w' => ∃ q6 d6, e = .returned (.slice q6 lq d6) ∧ OwnR w' w1.heap.size (.slice q6 lq d6) rr ∧ Below w1.heap.size w1 w') := by
                have e1 : (w1.alloc (.cells #[.int .i64 x, .int .i64 1114111] 28)).heap.size = w1.heap.size + 1 := by simp
                have hbel : Below w1.heap.size w1 ((w1.alloc (.cells #[.int .i64 x, .int .i64 1114111] 28)).alloc (.cells #[.slice pi li ci, .slice (some ⟨w1.heap.size, 0, none⟩) 1 1] 29)).drew := (bl_trans (bl_alloc _ _) (bl_alloc _ _)).drew
                have hs2 : SlS ((w1.alloc (.cells #[.int .i64 x, .int .i64 1114111] 28)).alloc (.cells #[.slice pi li ci, .slice (some ⟨w1.heap.size, 0, none⟩) 1 1] 29)) (some ⟨(w1.alloc (.cells #[.int .i64 x, .int .i64 1114111] 28)).heap.size, 0, none⟩) [(pi, ci, lr), (some ⟨w1.heap.size, 0, none⟩, 1, [(x, 1114111)])] := sls_new (fun y hy => by
                  simp only [List.mem_cons, List.not_mem_nil, or_false] at hy
                  rcases hy with rfl | rfl
                  · exact hsr.below (bl_alloc _ _)
                  · exact slr_new w1 [(x, 1114111)] _ _ rfl) (by rw [hli]; rfl)
                rw [e1] at hs2
                have hfl : flat [(pi, ci, lr), (some ⟨w1.heap.size, 0, none⟩, 1, [(x, 1114111)])] = lr ++ [(x, 1114111)] := by simp [flat]
                refine (rjoin_any (some ⟨w1.heap.size + 1, 0, none⟩) 2 2 _ rr ((w1.alloc (.cells #[.int .i64 x, .int .i64 1114111] 28)).alloc (.cells #[.slice pi li ci, .slice (some ⟨w1.heap.size, 0, none⟩) 1 1] 29)).drew (by rw [hfl]; exact hrr) rfl (hs2.below (bl_drew _)) (by rw [hfl, List.length_append, ← hli]; simp only [List.length_cons, List.length_nil]; omega) (by omega)).mono ?_
                rintro e w' ⟨q6, d6, rfl, ho, hb⟩
                rw [← hlq] at ho ⊢
                exact ⟨q6, d6, rfl, ownR_mono ho (by show w1.heap.size ≤ _; simp; omega), bl_trans hbel hb⟩
              have qcg := ((bl_alloc w1 (.cells #[.int .i64 x, .int .i64 1114111] 28)).cell (World.block_lt_of_cell? w1 _ hcg)).trans hcg
              have qcl := ((bl_alloc w1 (.cells #[.int .i64 x, .int .i64 1114111] 28)).cell (World.block_lt_of_cell? w1 _ hcl)).trans hcl
              have rcg := ((bl_alloc (w1.alloc (.cells #[.int .i64 x, .int .i64 1114111] 28)) (.cells #[.slice pi li ci, .slice (some ⟨w1.heap.size, 0, none⟩) 1 1] 29)).cell (World.block_lt_of_cell? _ _ qcg)).trans qcg
              have rcl := ((bl_alloc (w1.alloc (.cells #[.int .i64 x, .int .i64 1114111] 28)) (.cells #[.slice pi li ci, .slice (some ⟨w1.heap.size, 0, none⟩) 1 1] 29)).cell (World.block_lt_of_cell? _ _ qcl)).trans qcl
              have HCG : Hid (∀ W : World, Below w1.heap.size w1 W → W.cell? ⟨g, num, none⟩ = some (.slice pi li ci) ∧ W.cell? ⟨bl, ol + i, none⟩ = some (.int .i64 x)) := fun W hW => ⟨keep_cellK hW hcg, keep_cellK hW hcl⟩
              have hmg : (g : Nat) < w1.heap.size := (hOUT.lt g rfl).2
              have hnumI : (num : Int) < (f : Nat) := by have := HNUM.out; have := HLEN.out; omega
              clear hvi hli hov hOUT hvl hlr hrr hlq hst hsr hnl hlib hBs hnm
              refine wp_region_K (S := fun (W : World) => W.cell? ⟨g, num, none⟩ = some (.slice pi li ci) ∧ W.cell? ⟨bl, ol + i, none⟩ = some (.int .i64 x)) 16 (by kernel_rfl) ?_
              have hHeld : (fun (W : World) => W.cell? ⟨g, num, none⟩ = some (.slice pi li ci) ∧ W.cell? ⟨bl, ol + i, none⟩ = some (.int .i64 x)) w1.drew := ⟨hcg, hcl⟩
              refine anyK_take (i := 0) (oi := { dst := some 64, op := Op.move (Operand.tmp 6), type := 22, pos := "ref.go:70", after := #[], guard := none }) (u := ?_) rfl (by kernel_rfl) (fun _ _ _ h => h) (Or.inl ⟨by kernel_rfl, ?_⟩) hHeld ?_
              rotate_left
              focus (intro w hSw; (try dsimp only at hSw); go_simp; try with_reducible rfl)
              try simp only [Act.put, List.setIfInBounds_toArray, List.set_cons_zero, List.set_cons_succ]
              refine anyK_take (i := 1) (oi := { dst := some 65, op := Op.move (Operand.tmp 9), type := 3, pos := "ref.go:70", after := #[], guard := none }) (u := ?_) rfl (by kernel_rfl) (fun _ _ _ h => h) (Or.inl ⟨by kernel_rfl, ?_⟩) hHeld ?_
              rotate_left
              focus (intro w hSw; (try dsimp only at hSw); go_simp; try with_reducible rfl)
              try simp only [Act.put, List.setIfInBounds_toArray, List.set_cons_zero, List.set_cons_succ]
              refine anyK_take (i := 2) (oi := { dst := some 66, op := Op.move (Operand.tmp 6), type := 22, pos := "ref.go:70", after := #[], guard := none }) (u := ?_) rfl (by kernel_rfl) (fun _ _ _ h => h) (Or.inl ⟨by kernel_rfl, ?_⟩) hHeld ?_
              rotate_left
              focus (intro w hSw; (try dsimp only at hSw); go_simp; try with_reducible rfl)
              try simp only [Act.put, List.setIfInBounds_toArray, List.set_cons_zero, List.set_cons_succ]
              refine anyK_take (i := 3) (oi := { dst := some 67, op := Op.move (Operand.tmp 9), type := 3, pos := "ref.go:70", after := #[], guard := none }) (u := ?_) rfl (by kernel_rfl) (fun _ _ _ h => h) (Or.inl ⟨by kernel_rfl, ?_⟩) hHeld ?_
              rotate_left
              focus (intro w hSw; (try dsimp only at hSw); go_simp; try with_reducible rfl)
              try simp only [Act.put, List.setIfInBounds_toArray, List.set_cons_zero, List.set_cons_succ]
              refine anyK_take (i := 4) (oi := { dst := some 68, op := Op.indexAddr 22 (Operand.tmp 66) (Operand.tmp 67), type := 0, pos := "ref.go:70", after := #[{ on := 2, ground := Ground.data }, { on := 3, ground := Ground.data }], guard := none }) (u := ?_) rfl (by kernel_rfl) (fun _ _ _ h => h) (Or.inl ⟨by kernel_rfl, ?_⟩) hHeld ?_
              rotate_left
              focus (intro w hSw; (try dsimp only at hSw); go_simp; try with_reducible rfl)
              try simp only [Act.put, List.setIfInBounds_toArray, List.set_cons_zero, List.set_cons_succ]
              refine anyK_take (i := 5) (oi := { dst := some 69, op := Op.load 29 (Operand.tmp 68), type := 29, pos := "ref.go:70", after := #[{ on := 4, ground := Ground.data }], guard := none }) (u := ?_) rfl (by kernel_rfl) (fun _ _ _ h => h) (Or.inl ⟨by kernel_rfl, ?_⟩) hHeld ?_
              rotate_left
              focus (intro w hSw; (try dsimp only at hSw); go_simp; try with_reducible rfl)
              try simp only [Act.put, List.setIfInBounds_toArray, List.set_cons_zero, List.set_cons_succ]
              refine anyK_take (i := 6) (oi := { dst := some 70, op := Op.move (Operand.tmp 4), type := 32, pos := "ref.go:70", after := #[], guard := none }) (u := ?_) rfl (by kernel_rfl) (fun _ _ _ h => h) (Or.inl ⟨by kernel_rfl, ?_⟩) hHeld ?_
              rotate_left
              focus (intro w hSw; (try dsimp only at hSw); go_simp; try with_reducible rfl)
              try simp only [Act.put, List.setIfInBounds_toArray, List.set_cons_zero, List.set_cons_succ]
              refine anyK_take (i := 7) (oi := { dst := some 71, op := Op.move (Operand.tmp 7), type := 3, pos := "ref.go:70", after := #[], guard := none }) (u := ?_) rfl (by kernel_rfl) (fun _ _ _ h => h) (Or.inl ⟨by kernel_rfl, ?_⟩) hHeld ?_
              rotate_left
              focus (intro w hSw; (try dsimp only at hSw); go_simp; try with_reducible rfl)
              try simp only [Act.put, List.setIfInBounds_toArray, List.set_cons_zero, List.set_cons_succ]
              refine anyK_take (i := 8) (oi := { dst := some 72, op := Op.indexAddr 32 (Operand.tmp 70) (Operand.tmp 71), type := 0, pos := "ref.go:70", after := #[{ on := 6, ground := Ground.data }, { on := 7, ground := Ground.data }], guard := none }) (u := ?_) rfl (by kernel_rfl) (fun _ _ _ h => h) (Or.inl ⟨by kernel_rfl, ?_⟩) hHeld ?_
              rotate_left
              focus (intro w hSw; (try dsimp only at hSw); go_simp; try with_reducible rfl)
              try simp only [Act.put, List.setIfInBounds_toArray, List.set_cons_zero, List.set_cons_succ]
              refine anyK_take (i := 9) (oi := { dst := some 73, op := Op.load 3 (Operand.tmp 72), type := 3, pos := "ref.go:70", after := #[{ on := 8, ground := Ground.data }], guard := none }) (u := ?_) rfl (by kernel_rfl) (fun _ _ _ h => h) (Or.inl ⟨by kernel_rfl, ?_⟩) hHeld ?_
              rotate_left
              focus (intro w hSw; (try dsimp only at hSw); go_simp; try with_reducible rfl)
              try simp only [Act.put, List.setIfInBounds_toArray, List.set_cons_zero, List.set_cons_succ]
              refine anyK_take (i := 10) (oi := { dst := some 74, op := Op.move (Operand.tmp 8), type := 3, pos := "ref.go:70", after := #[], guard := none }) (u := ?_) rfl (by kernel_rfl) (fun _ _ _ h => h) (Or.inl ⟨by kernel_rfl, ?_⟩) hHeld ?_
              rotate_left
              focus (intro w hSw; (try dsimp only at hSw); go_simp; try with_reducible rfl)
              try simp only [Act.put, List.setIfInBounds_toArray, List.set_cons_zero, List.set_cons_succ]
              refine anyK_take (i := 11) (oi := { dst := some 75, op := Op.build 28 #[(0, Operand.tmp 73), (1, Operand.tmp 74)], type := 28, pos := "ref.go:70", after := #[{ on := 9, ground := Ground.data }, { on := 10, ground := Ground.data }], guard := none }) (u := ?_) rfl (by kernel_rfl) (fun _ _ _ h => h) (Or.inl ⟨by kernel_rfl, ?_⟩) hHeld ?_
              rotate_left
              focus (intro w hSw; (try dsimp only at hSw); go_simp; try with_reducible rfl)
              try simp only [Act.put, List.setIfInBounds_toArray, List.set_cons_zero, List.set_cons_succ]
              refine anyK_one (i := 12) (o := { dst := some 76, op := Op.buildSlice 29 1 #[(0, Operand.tmp 75)], type := 29, pos := "ref.go:70", after := #[{ on := 11, ground := Ground.data }], guard := none }) (by kernel_rfl) rfl (fun K hK => ?_)
              go_simp
              refine hK.out _ _ (fun _ => ⟨qcg, qcl⟩) ?_
              clear hK K hHeld
              have hHeld : (fun (W : World) => W.cell? ⟨g, num, none⟩ = some (.slice pi li ci) ∧ W.cell? ⟨bl, ol + i, none⟩ = some (.int .i64 x)) (w1.alloc (.cells #[.int .i64 x, .int .i64 1114111] 28)).drew := ⟨qcg, qcl⟩
              try simp only [Act.put, List.setIfInBounds_toArray, List.set_cons_zero, List.set_cons_succ]
              refine anyK_one (i := 13) (o := { dst := some 77, op := Op.buildSlice 22 2 #[(0, Operand.tmp 69), (1, Operand.tmp 76)], type := 22, pos := "ref.go:70", after := #[{ on := 5, ground := Ground.data }, { on := 12, ground := Ground.data }], guard := none }) (by kernel_rfl) rfl (fun K hK => ?_)
              go_simp
              refine hK.out _ _ (fun _ => ⟨rcg, rcl⟩) ?_
              clear hK K hHeld
              have hHeld : (fun (W : World) => W.cell? ⟨g, num, none⟩ = some (.slice pi li ci) ∧ W.cell? ⟨bl, ol + i, none⟩ = some (.int .i64 x)) ((w1.alloc (.cells #[.int .i64 x, .int .i64 1114111] 28)).alloc (.cells #[.slice pi li ci, .slice (some ⟨w1.heap.size, 0, none⟩) 1 1] 29)).drew := ⟨rcg, rcl⟩
              try simp only [Act.put, List.setIfInBounds_toArray, List.set_cons_zero, List.set_cons_succ]
              refine anyK_one (i := 14) (o := { dst := some 78, op := Op.call { callee := Callee.value (Operand.func 33), args := #[Operand.tmp 77], argTypes := #[22] }, type := 29, pos := "ref.go:70", after := #[{ on := 13, ground := Ground.data }], guard := none }) (by kernel_rfl) rfl (fun K hK => ?_)
              go_simp
              go_at_call 33
              refine HJ.out.mono ?_
              rintro e w6 ⟨q6, d6, rfl, ho6, hb6⟩
              have HO6 := Lib.hid ho6
              have HB6 := Lib.hid hb6
              have hS6 := HCG.out w6 hb6
              clear ho6 hb6
              try go_wp2_with fail
              refine hK.out _ _ (fun _ => hS6) ?_
              clear hK K hHeld qcg qcl rcg rcl
              have hHeld : (fun (W : World) => W.cell? ⟨g, num, none⟩ = some (.slice pi li ci) ∧ W.cell? ⟨bl, ol + i, none⟩ = some (.int .i64 x)) w6 := hS6
              obtain ⟨scg, scl⟩ := hS6
              have sfg : w6.frozen? ⟨g, num, none⟩ = false := by have h := (HR.out.below HB6.out).out; rw [HVL.out] at h; exact h.frozenAt num
              try simp only [Act.put, List.setIfInBounds_toArray, List.set_cons_zero, List.set_cons_succ]
              refine anyK_take (i := 15) (oi := { dst := some 79, op := Op.indexAddr 22 (Operand.tmp 64) (Operand.tmp 65), type := 0, pos := "ref.go:70", after := #[{ on := 0, ground := Ground.data }, { on := 1, ground := Ground.data }, { on := 0, ground := Ground.phase }, { on := 1, ground := Ground.phase }, { on := 2, ground := Ground.phase }, { on := 3, ground := Ground.phase }, { on := 4, ground := Ground.phase }, { on := 5, ground := Ground.phase }, { on := 6, ground := Ground.phase }, { on := 7, ground := Ground.phase }, { on := 8, ground := Ground.phase }, { on := 9, ground := Ground.phase }, { on := 10, ground := Ground.phase }, { on := 11, ground := Ground.phase }, { on := 12, ground := Ground.phase }, { on := 13, ground := Ground.phase }, { on := 14, ground := Ground.phase }], guard := none }) (u := ?_) rfl (by kernel_rfl) (fun _ _ _ h => h) (Or.inl ⟨by kernel_rfl, ?_⟩) hHeld ?_
              rotate_left
              focus (intro w hSw; (try dsimp only at hSw); go_simp; try with_reducible rfl)
              try simp only [Act.put, List.setIfInBounds_toArray, List.set_cons_zero, List.set_cons_succ]
              refine anyK_one (i := 16) (o := { dst := none, op := Op.store 29 (Operand.tmp 79) (Operand.tmp 78), type := 0, pos := "ref.go:70", after := #[{ on := 15, ground := Ground.data }, { on := 14, ground := Ground.data }, { on := 14, ground := Ground.chain }, { on := 0, ground := Ground.phase }, { on := 1, ground := Ground.phase }, { on := 2, ground := Ground.phase }, { on := 3, ground := Ground.phase }, { on := 4, ground := Ground.phase }, { on := 5, ground := Ground.phase }, { on := 6, ground := Ground.phase }, { on := 7, ground := Ground.phase }, { on := 8, ground := Ground.phase }, { on := 9, ground := Ground.phase }, { on := 10, ground := Ground.phase }, { on := 11, ground := Ground.phase }, { on := 12, ground := Ground.phase }, { on := 13, ground := Ground.phase }, { on := 14, ground := Ground.phase }], guard := none }) (by kernel_rfl) rfl (fun K hK => ?_)
              go_simp
              refine hK.out _ _ (fun h => absurd h (by decide)) ?_
              clear hK K hHeld scg scl sfg hcg hcl
              try simp only [Act.put, List.setIfInBounds_toArray, List.set_cons_zero, List.set_cons_succ]
              refine anyK_done (by kernel_rfl) ?_ _
              have HA := Lib.hid (RowsIn.swap HR.out HNL2.out HB6.out HO6.out (by have := HREF.out.len; have := HLEN.out; omega) HBS.out)
              have HFN : Hid (OwnQ (w6.setCell ⟨g, num, none⟩ (.slice q6 lq d6)) w5.heap.size (.slice (some ⟨bf, of, none⟩) (f) cf) F) := by
                have h1 := (HR.out.below HB6.out).out
                refine ownQ_set (ownQ_below HFS.out HB6.out) ?_ num _
                rcases h1.2 with ⟨h', _⟩ | ⟨g', cap, cur, e, _, hh, _⟩
                · simp at h'
                · simp only [Value.slice.injEq, Option.some.injEq, Addr.mk.injEq, and_true] at e
                  rw [e.1]
                  exact ni_of hh (by decide)
              obtain ⟨W3, hW3⟩ : ∃ W3, W3 = w6.setCell ⟨g, num, none⟩ (.slice q6 lq d6) := ⟨_, rfl⟩
              rw [← hW3] at HA HFN ⊢
              clear hW3
              go_wp2
              go_roundw
              case rel =>
                refine ⟨i + 1, f, (some ⟨bf, of, none⟩), cf, some ⟨g, 0, none⟩, co1, F, O.set num rr, vs.set num (.slice q6 lq d6), by omega, rfl, rfl, by go_num, ⟨?_, HLEN.out, HFN.out, HA.out.1, HA.out.2 w5 HLOW.out, ?_⟩⟩
                · have h := HST.out
                  rw [HGLR.out] at h
                  rw [HNX.out]
                  refine HREF.out.old HNUM.out HAL.out hx0 (by omega) HCUT.out h.1 fun c => (h.2.1 c).trans ?_
                  constructor
                  · rintro (h | ⟨h1, h2⟩)
                    · exact .inl h
                    · exact .inr ⟨h1, by omega⟩
                  · rintro (h | ⟨h1, h2⟩)
                    · exact .inl h
                    · exact .inr ⟨h1, by omega⟩
                · intro k hk
                  rw [List.length_set] at hk
                  rw [gl_setU hk]
                  split
                  · have := HST.out.2.2
                    have h := HSH.out num HNL2.out
                    rw [HGLR.out] at this; omega
                  · have := HSH.out k hk; omega
              case measure => simp [intOf]; omega
            · have HC : Hid (∀ r, Calls Tryz.prog 32 #[.slice p n c, .int .i64 y, .int .i64 x] (wz.drewN r) fun e w' => e = .returned (.bool false) ∧ ∃ n, w' = wz.drewN n) := fun r => (alike_any p c n xs y x (wz.drewN r) HN.out (HRZ.out r) HXL.out HNN.out).mono fun e w' h => by
                obtain ⟨⟨r', hr'⟩, ⟨h, _⟩ | ⟨_, h⟩⟩ := h
                · exact ⟨h, r + r', by rw [hr', World.drewN_drewN]⟩
                · exact absurd h hal
              have HAL := Lib.hid hal
              clear hal
              go_wp2
              go_quiet ((go_at_call 32; (with_reducible exact (HC.out _).mono fun _ _ h => ⟨h.1, h.2.choose, h.2.choose_spec⟩)))
              have HDN : Hid (∃ r, wz.drewN nq = wr.drewN r) := by obtain ⟨r, h⟩ := HDR.out; exact ⟨r + nq, by rw [h, World.drewN_drewN]⟩
              have HNN2 : Hid (∀ k, k < num + 1 → ¬ alike (rowsV xs) (gq F k) x) := by
                intro k hk
                rcases Nat.lt_or_ge k num with h | h
                · exact HNA.out k h
                · have e : k = num := by omega
                  rw [e, ← HY.out]; exact HAL.out
              go_wp2
              go_roundw
              case rel => exact ⟨num + 1, by omega, by go_num, HNN2.out, HDN.out⟩
              case measure => simp [intOf]; omega
          · have hnfe : num = f := by omega
            have hnfI : (f : Int) ≤ num := by omega
            have hnd : decide (num < f) = false := by rw [decide_eq_false_iff_not]; exact hnf
            have hndI : decide ((num : Int) < (f : Int)) = false := by rw [decide_eq_false_iff_not]; omega
            go_wp2
            go_quiet (fail)
            obtain ⟨w1, hw1⟩ : ∃ w1, w1 = wz.drewN nq := ⟨_, rfl⟩
            have HB1 : Hid (Below wr.heap.size wr w1) := by show Below _ _ _; rw [hw1]; exact bl_trans HBZ.out (drewN_below _ _)
            rw [← hw1]
            clear hw1
            have HFN : Hid (num = f) := hnfe
            clear hnf hnd hndI hnfI
            subst hnfe
            have HLOW0 : Hid (Below w5.heap.size w5 w1) := HI.out.low.trans (HB1.out.mono HI.out.low.size)
            by_cases h60 : num = 60
            · have HMO : Hid (More (rowsV xs)) := HXR.out.over HPX.out (by have := HI.out.len; omega) (by have := HI.out.len; rw [← this]; exact HNA.out)
              subst h60
              go_wp2
              refine bodyPost_ret (v := .tuple #[.slice none 0 0, .int .i64 3]) (by simp [results, Tryz.f13, go_sem]) rfl ⟨bl_trans HB5.out HLOW0.out, .inl ⟨rfl, HMO.out⟩⟩
            · have hn60 : (num : Int) < 60 := by omega
              have hnn6 : ((num : Int) == 60) = false := by rw [beq_eq_false_iff_ne]; omega
              have hnnf : ((num : Int) == (num : Int)) = true := by simp
              have hcl0 : w1.cell? ⟨bl, ol + i, none⟩ = some (.int .i64 x) := keep_cellK HLOW0.out HCL.out
              have HFZ := Lib.hid (ownQ_below HI.out.fs HB1.out)
              have HRZ := Lib.hid (HI.out.rows.below HB1.out)
              have HLN := Lib.hid HI.out.len
              have hrow := ownQ_row HFZ.out HLN.out
              have HRO := Lib.hid hrow
              have hsz0 : w5.heap.size ≤ w1.heap.size := HLOW0.out.size
              have HSZ := Lib.hid hsz0
              clear hrow hsz0
              go_wp2_with (at_builtin; refine wpList_append_lies _ rfl _ _ 32 rfl w5.heap.size 3 i0 (.int .i64 0) 1 8 Tryz.underlying32 hinf hz0 hz1 hz2 rfl (by decide) (.slice qf num cf) num _ rfl (HRO.out.alloc _) ⟨w1.heap.size, 0, none⟩ 1 1 [.int .i64 x] rfl rfl (cells_one_q _ _ _) (by simp [Value.oneCell']) (by omega) (by simp only [maxLen]; omega) (by omega) (by have := HSZ.out; simp; omega) (w1.heap.size + 1) (by simp) ?_)
              intro g7 c7 w7 hown7 hgrow7 hat7 hlt7
              have HOW7 := Lib.hid hown7
              have HGR7 := Lib.hid hgrow7
              have HLOW7 := Lib.hid ((HLOW0.out.alloc HSZ.out _).grown hgrow7 (by have := HSZ.out; simp; omega) (fun k hk => (HRO.out.lt k hk).1))
              have hcl7 : w7.cell? ⟨bl, ol + i, none⟩ = some (.int .i64 x) := keep_cellK HLOW7.out HCL.out
              clear hown7 hgrow7 hat7 hlt7 hcl0
              have HO7 := Lib.hid (ownQ_appended HLN.out HOW7.out)
              have HR7 : Hid (RowsIn w7 w5.heap.size (.slice qo num co) vs O) := HRZ.out.beside HFZ.out HGR7.out
              have HRL : Hid (vs.length = num) := by have := HR7.out.len; have := HI.out.ref.len; have := HI.out.len; show _ = _; omega
              have hout7 : w7.ownsRow w5.heap.size 29 1 (.slice qo num co) num vs := by have h := HR7.out.out; rw [HRL.out] at h; exact h
              have HOU7 := Lib.hid hout7
              have hsz7 : w5.heap.size ≤ w7.heap.size := HLOW7.out.size
              have HSZ7 := Lib.hid hsz7
              clear hout7 hsz7
              go_wp2_with (at_builtin; refine wpList_append_lies _ rfl _ _ 22 rfl w5.heap.size 29 i1 (.slice none 0 0) 1 24 Tryz.underlying22 ginf gz0 gz1 gz2 rfl (by decide) (.slice qo num co) num _ rfl (HOU7.out.alloc _) ⟨w7.heap.size, 0, none⟩ 1 1 [.slice none 0 0] rfl rfl (cells_one_q _ _ _) (by simp [Value.oneCell']) (by omega) (by simp only [maxLen]; omega) (by omega) (by have := HSZ7.out; simp; omega) (w7.heap.size + 1) (by simp) ?_; intro g co1 w8 hown8 hgrow8 hat8 hlt8; have HOW8 := Lib.hid hown8; have HGR8 := Lib.hid hgrow8; clear hown8 hgrow8 hat8 hlt8 hcl7)
              have hM := HR7.out.more (show num = O.length by have := HI.out.ref.len; have := HI.out.len; omega) HOW8.out HGR8.out HSZ7.out
              have HFS : Hid (OwnQ w8 w5.heap.size (.slice (some ⟨g7, 0, none⟩) (num + 1) c7) (F ++ [x])) := ownQ_beside HO7.out HR7.out HGR8.out
              have HREF : Hid (RefAt (rowsV xs) (F ++ [x]) (O ++ [[]]) x) := HXR.out.new HPX.out (by have := HI.out.len; omega) (by have := HI.out.len; rw [← this]; exact HNA.out)
              have HLEN : Hid (num + 1 = (F ++ [x]).length) := by have := HI.out.len; show _ = _; simp; omega
              have HLOW : Hid (Below w5.heap.size w5 w8) := hM.2.2 w5 HLOW7.out
              have HR := Lib.hid hM.1
              have HNUM : Hid (num < (F ++ [x]).length) := by have := HLEN.out; show _ < _; omega
              have HAL : Hid (alike (rowsV xs) (gq (F ++ [x]) num) x) := by
                show alike _ _ _
                have e : num = F.length := HI.out.len
                rw [e, gq_snocU_eq]; exact alike.refl _ _
              have HSH : Hid (∀ k, k < (O ++ [[]]).length → (gl (O ++ [[]]) k).length ≤ i) := by
                intro k hk
                rw [List.length_append] at hk
                simp only [List.length_cons, List.length_nil] at hk
                rcases Nat.lt_or_ge k O.length with h | h
                · rw [gl_snocU_lt h]; exact HI.out.short k h
                · have e : k = O.length := by omega
                  rw [e, gl_snocU_eq]; exact Nat.zero_le _
              have hcl : w8.cell? ⟨bl, ol + i, none⟩ = some (.int .i64 x) := keep_cellK HLOW.out HCL.out
              clear hM HOW8 HGR8
              obtain ⟨m, hm⟩ : ∃ m, m = num + 1 := ⟨_, rfl⟩
              rw [← hm] at HR HFS HLEN ⊢
              have hm61 : m ≤ 61 := by omega
              clear hm
              obtain ⟨vi, hvi⟩ : ∃ vi, vi = gv (vs ++ [Value.slice none 0 0]) num := ⟨_, rfl⟩
              have hnm : num < m := by have := HNUM.out; have := HLEN.out; omega
              have hnl : num < (O ++ [[]]).length := by have := HREF.out.len; have := HLEN.out; omega
              have hvl : (vs ++ [Value.slice none 0 0]).length = m := by have h := HR.out.len; have := HREF.out.len; have := HLEN.out; omega
              have hOUT : w8.ownsRow w5.heap.size 29 1 (.slice (some ⟨g, 0, none⟩) (m) co1) (m) (vs ++ [Value.slice none 0 0]) := by have h := HR.out.out; rw [hvl] at h; exact h
              have hcg : w8.cell? ⟨g, num, none⟩ = some vi := by rw [hOUT.cellAt num (by omega), List.getElem?_eq_getElem (by omega), hvi, gv_get (by omega)]
              obtain ⟨lr, hlr⟩ : ∃ lr, lr = gl (O ++ [[]]) num := ⟨_, rfl⟩
              obtain ⟨li, hli⟩ : ∃ li, li = lr.length := ⟨_, rfl⟩
              have hov := HR.out.own num hnl
              rw [← hvi, ← hlr] at hov
              obtain ⟨pi, ci, hve, _, _, _, hsr, _⟩ := ownR_form hov
              rw [← hli] at hve
              have hlib : li ≤ 3000 := by have h := HSH.out num hnl; have := HNC.out; rw [← hlr] at h; omega
              obtain ⟨rr, hrr⟩ : ∃ rr, rr = cn (lr ++ [(x, 1114111)]) := ⟨_, rfl⟩
              obtain ⟨lq, hlq⟩ : ∃ lq, lq = rr.length := ⟨_, rfl⟩
              have hst := row_step (l := lr) (x := x) (y := 1114111) hx0 (by omega)
              rw [← hrr] at hst
              have HST := Lib.hid hst
              have hBs : w5.heap.size ≤ w8.heap.size := HLOW.out.size
              have HBS := Lib.hid hBs
              have HVL := Lib.hid hvl
              have HNL2 := Lib.hid hnl
              have HGLR := Lib.hid hlr
              have HLIB := Lib.hid hlib
              subst hve
              have HJ : Hid (Calls Tryz.prog 33 #[.slice (some ⟨w8.heap.size + 1, 0, none⟩) 2 2] ((w8.alloc (.cells #[.int .i64 x, .int .i64 1114111] 28)).alloc (.cells #[.slice pi li ci, .slice (some ⟨w8.heap.size, 0, none⟩) 1 1] 29)).drew fun e w' => ∃ q6 d6, e = .returned (.slice q6 lq d6) ∧ OwnR w' w8.heap.size (.slice q6 lq d6) rr ∧ Below w8.heap.size w8 w') := by
                have e1 : (w8.alloc (.cells #[.int .i64 x, .int .i64 1114111] 28)).heap.size = w8.heap.size + 1 := by simp
                have hbel : Below w8.heap.size w8 ((w8.alloc (.cells #[.int .i64 x, .int .i64 1114111] 28)).alloc (.cells #[.slice pi li ci, .slice (some ⟨w8.heap.size, 0, none⟩) 1 1] 29)).drew := (bl_trans (bl_alloc _ _) (bl_alloc _ _)).drew
                have hs2 : SlS ((w8.alloc (.cells #[.int .i64 x, .int .i64 1114111] 28)).alloc (.cells #[.slice pi li ci, .slice (some ⟨w8.heap.size, 0, none⟩) 1 1] 29)) (some ⟨(w8.alloc (.cells #[.int .i64 x, .int .i64 1114111] 28)).heap.size, 0, none⟩) [(pi, ci, lr), (some ⟨w8.heap.size, 0, none⟩, 1, [(x, 1114111)])] := sls_new (fun y hy => by
                  simp only [List.mem_cons, List.not_mem_nil, or_false] at hy
                  rcases hy with rfl | rfl
                  · exact hsr.below (bl_alloc _ _)
                  · exact slr_new w8 [(x, 1114111)] _ _ rfl) (by rw [hli]; rfl)
                rw [e1] at hs2
                have hfl : flat [(pi, ci, lr), (some ⟨w8.heap.size, 0, none⟩, 1, [(x, 1114111)])] = lr ++ [(x, 1114111)] := by simp [flat]
                refine (rjoin_any (some ⟨w8.heap.size + 1, 0, none⟩) 2 2 _ rr ((w8.alloc (.cells #[.int .i64 x, .int .i64 1114111] 28)).alloc (.cells #[.slice pi li ci, .slice (some ⟨w8.heap.size, 0, none⟩) 1 1] 29)).drew (by rw [hfl]; exact hrr) rfl (hs2.below (bl_drew _)) (by rw [hfl, List.length_append, ← hli]; simp only [List.length_cons, List.length_nil]; omega) (by omega)).mono ?_
                rintro e w' ⟨q6, d6, rfl, ho, hb⟩
                rw [← hlq] at ho ⊢
                exact ⟨q6, d6, rfl, ownR_mono ho (by show w8.heap.size ≤ _; simp; omega), bl_trans hbel hb⟩
              have qcg := ((bl_alloc w8 (.cells #[.int .i64 x, .int .i64 1114111] 28)).cell (World.block_lt_of_cell? w8 _ hcg)).trans hcg
              have qcl := ((bl_alloc w8 (.cells #[.int .i64 x, .int .i64 1114111] 28)).cell (World.block_lt_of_cell? w8 _ hcl)).trans hcl
              have rcg := ((bl_alloc (w8.alloc (.cells #[.int .i64 x, .int .i64 1114111] 28)) (.cells #[.slice pi li ci, .slice (some ⟨w8.heap.size, 0, none⟩) 1 1] 29)).cell (World.block_lt_of_cell? _ _ qcg)).trans qcg
              have rcl := ((bl_alloc (w8.alloc (.cells #[.int .i64 x, .int .i64 1114111] 28)) (.cells #[.slice pi li ci, .slice (some ⟨w8.heap.size, 0, none⟩) 1 1] 29)).cell (World.block_lt_of_cell? _ _ qcl)).trans qcl
              have HCG : Hid (∀ W : World, Below w8.heap.size w8 W → W.cell? ⟨g, num, none⟩ = some (.slice pi li ci) ∧ W.cell? ⟨bl, ol + i, none⟩ = some (.int .i64 x)) := fun W hW => ⟨keep_cellK hW hcg, keep_cellK hW hcl⟩
              have hmg : (g : Nat) < w8.heap.size := (hOUT.lt g rfl).2
              have hnumI : (num : Int) < (m : Nat) := by have := HNUM.out; have := HLEN.out; omega
              clear hvi hli hov hOUT hvl hlr hrr hlq hst hsr hnl hlib hBs hnm
              refine wp_region_K (S := fun (W : World) => W.cell? ⟨g, num, none⟩ = some (.slice pi li ci) ∧ W.cell? ⟨bl, ol + i, none⟩ = some (.int .i64 x)) 16 (by kernel_rfl) ?_
              have hHeld : (fun (W : World) => W.cell? ⟨g, num, none⟩ = some (.slice pi li ci) ∧ W.cell? ⟨bl, ol + i, none⟩ = some (.int .i64 x)) w8.drew := ⟨hcg, hcl⟩
              refine anyK_take (i := 0) (oi := { dst := some 64, op := Op.move (Operand.tmp 6), type := 22, pos := "ref.go:70", after := #[], guard := none }) (u := ?_) rfl (by kernel_rfl) (fun _ _ _ h => h) (Or.inl ⟨by kernel_rfl, ?_⟩) hHeld ?_
              rotate_left
              focus (intro w hSw; (try dsimp only at hSw); go_simp; try with_reducible rfl)
              try simp only [Act.put, List.setIfInBounds_toArray, List.set_cons_zero, List.set_cons_succ]
              refine anyK_take (i := 1) (oi := { dst := some 65, op := Op.move (Operand.tmp 9), type := 3, pos := "ref.go:70", after := #[], guard := none }) (u := ?_) rfl (by kernel_rfl) (fun _ _ _ h => h) (Or.inl ⟨by kernel_rfl, ?_⟩) hHeld ?_
              rotate_left
              focus (intro w hSw; (try dsimp only at hSw); go_simp; try with_reducible rfl)
              try simp only [Act.put, List.setIfInBounds_toArray, List.set_cons_zero, List.set_cons_succ]
              refine anyK_take (i := 2) (oi := { dst := some 66, op := Op.move (Operand.tmp 6), type := 22, pos := "ref.go:70", after := #[], guard := none }) (u := ?_) rfl (by kernel_rfl) (fun _ _ _ h => h) (Or.inl ⟨by kernel_rfl, ?_⟩) hHeld ?_
              rotate_left
              focus (intro w hSw; (try dsimp only at hSw); go_simp; try with_reducible rfl)
              try simp only [Act.put, List.setIfInBounds_toArray, List.set_cons_zero, List.set_cons_succ]
              refine anyK_take (i := 3) (oi := { dst := some 67, op := Op.move (Operand.tmp 9), type := 3, pos := "ref.go:70", after := #[], guard := none }) (u := ?_) rfl (by kernel_rfl) (fun _ _ _ h => h) (Or.inl ⟨by kernel_rfl, ?_⟩) hHeld ?_
              rotate_left
              focus (intro w hSw; (try dsimp only at hSw); go_simp; try with_reducible rfl)
              try simp only [Act.put, List.setIfInBounds_toArray, List.set_cons_zero, List.set_cons_succ]
              refine anyK_take (i := 4) (oi := { dst := some 68, op := Op.indexAddr 22 (Operand.tmp 66) (Operand.tmp 67), type := 0, pos := "ref.go:70", after := #[{ on := 2, ground := Ground.data }, { on := 3, ground := Ground.data }], guard := none }) (u := ?_) rfl (by kernel_rfl) (fun _ _ _ h => h) (Or.inl ⟨by kernel_rfl, ?_⟩) hHeld ?_
              rotate_left
              focus (intro w hSw; (try dsimp only at hSw); go_simp; try with_reducible rfl)
              try simp only [Act.put, List.setIfInBounds_toArray, List.set_cons_zero, List.set_cons_succ]
              refine anyK_take (i := 5) (oi := { dst := some 69, op := Op.load 29 (Operand.tmp 68), type := 29, pos := "ref.go:70", after := #[{ on := 4, ground := Ground.data }], guard := none }) (u := ?_) rfl (by kernel_rfl) (fun _ _ _ h => h) (Or.inl ⟨by kernel_rfl, ?_⟩) hHeld ?_
              rotate_left
              focus (intro w hSw; (try dsimp only at hSw); go_simp; try with_reducible rfl)
              try simp only [Act.put, List.setIfInBounds_toArray, List.set_cons_zero, List.set_cons_succ]
              refine anyK_take (i := 6) (oi := { dst := some 70, op := Op.move (Operand.tmp 4), type := 32, pos := "ref.go:70", after := #[], guard := none }) (u := ?_) rfl (by kernel_rfl) (fun _ _ _ h => h) (Or.inl ⟨by kernel_rfl, ?_⟩) hHeld ?_
              rotate_left
              focus (intro w hSw; (try dsimp only at hSw); go_simp; try with_reducible rfl)
              try simp only [Act.put, List.setIfInBounds_toArray, List.set_cons_zero, List.set_cons_succ]
              refine anyK_take (i := 7) (oi := { dst := some 71, op := Op.move (Operand.tmp 7), type := 3, pos := "ref.go:70", after := #[], guard := none }) (u := ?_) rfl (by kernel_rfl) (fun _ _ _ h => h) (Or.inl ⟨by kernel_rfl, ?_⟩) hHeld ?_
              rotate_left
              focus (intro w hSw; (try dsimp only at hSw); go_simp; try with_reducible rfl)
              try simp only [Act.put, List.setIfInBounds_toArray, List.set_cons_zero, List.set_cons_succ]
              refine anyK_take (i := 8) (oi := { dst := some 72, op := Op.indexAddr 32 (Operand.tmp 70) (Operand.tmp 71), type := 0, pos := "ref.go:70", after := #[{ on := 6, ground := Ground.data }, { on := 7, ground := Ground.data }], guard := none }) (u := ?_) rfl (by kernel_rfl) (fun _ _ _ h => h) (Or.inl ⟨by kernel_rfl, ?_⟩) hHeld ?_
              rotate_left
              focus (intro w hSw; (try dsimp only at hSw); go_simp; try with_reducible rfl)
              try simp only [Act.put, List.setIfInBounds_toArray, List.set_cons_zero, List.set_cons_succ]
              refine anyK_take (i := 9) (oi := { dst := some 73, op := Op.load 3 (Operand.tmp 72), type := 3, pos := "ref.go:70", after := #[{ on := 8, ground := Ground.data }], guard := none }) (u := ?_) rfl (by kernel_rfl) (fun _ _ _ h => h) (Or.inl ⟨by kernel_rfl, ?_⟩) hHeld ?_
              rotate_left
              focus (intro w hSw; (try dsimp only at hSw); go_simp; try with_reducible rfl)
              try simp only [Act.put, List.setIfInBounds_toArray, List.set_cons_zero, List.set_cons_succ]
              refine anyK_take (i := 10) (oi := { dst := some 74, op := Op.move (Operand.tmp 8), type := 3, pos := "ref.go:70", after := #[], guard := none }) (u := ?_) rfl (by kernel_rfl) (fun _ _ _ h => h) (Or.inl ⟨by kernel_rfl, ?_⟩) hHeld ?_
              rotate_left
              focus (intro w hSw; (try dsimp only at hSw); go_simp; try with_reducible rfl)
              try simp only [Act.put, List.setIfInBounds_toArray, List.set_cons_zero, List.set_cons_succ]
              refine anyK_take (i := 11) (oi := { dst := some 75, op := Op.build 28 #[(0, Operand.tmp 73), (1, Operand.tmp 74)], type := 28, pos := "ref.go:70", after := #[{ on := 9, ground := Ground.data }, { on := 10, ground := Ground.data }], guard := none }) (u := ?_) rfl (by kernel_rfl) (fun _ _ _ h => h) (Or.inl ⟨by kernel_rfl, ?_⟩) hHeld ?_
              rotate_left
              focus (intro w hSw; (try dsimp only at hSw); go_simp; try with_reducible rfl)
              try simp only [Act.put, List.setIfInBounds_toArray, List.set_cons_zero, List.set_cons_succ]
              refine anyK_one (i := 12) (o := { dst := some 76, op := Op.buildSlice 29 1 #[(0, Operand.tmp 75)], type := 29, pos := "ref.go:70", after := #[{ on := 11, ground := Ground.data }], guard := none }) (by kernel_rfl) rfl (fun K hK => ?_)
              go_simp
              refine hK.out _ _ (fun _ => ⟨qcg, qcl⟩) ?_
              clear hK K hHeld
              have hHeld : (fun (W : World) => W.cell? ⟨g, num, none⟩ = some (.slice pi li ci) ∧ W.cell? ⟨bl, ol + i, none⟩ = some (.int .i64 x)) (w8.alloc (.cells #[.int .i64 x, .int .i64 1114111] 28)).drew := ⟨qcg, qcl⟩
              try simp only [Act.put, List.setIfInBounds_toArray, List.set_cons_zero, List.set_cons_succ]
              refine anyK_one (i := 13) (o := { dst := some 77, op := Op.buildSlice 22 2 #[(0, Operand.tmp 69), (1, Operand.tmp 76)], type := 22, pos := "ref.go:70", after := #[{ on := 5, ground := Ground.data }, { on := 12, ground := Ground.data }], guard := none }) (by kernel_rfl) rfl (fun K hK => ?_)
              go_simp
              refine hK.out _ _ (fun _ => ⟨rcg, rcl⟩) ?_
              clear hK K hHeld
              have hHeld : (fun (W : World) => W.cell? ⟨g, num, none⟩ = some (.slice pi li ci) ∧ W.cell? ⟨bl, ol + i, none⟩ = some (.int .i64 x)) ((w8.alloc (.cells #[.int .i64 x, .int .i64 1114111] 28)).alloc (.cells #[.slice pi li ci, .slice (some ⟨w8.heap.size, 0, none⟩) 1 1] 29)).drew := ⟨rcg, rcl⟩
              try simp only [Act.put, List.setIfInBounds_toArray, List.set_cons_zero, List.set_cons_succ]
              refine anyK_one (i := 14) (o := { dst := some 78, op := Op.call { callee := Callee.value (Operand.func 33), args := #[Operand.tmp 77], argTypes := #[22] }, type := 29, pos := "ref.go:70", after := #[{ on := 13, ground := Ground.data }], guard := none }) (by kernel_rfl) rfl (fun K hK => ?_)
              go_simp
              go_at_call 33
              refine HJ.out.mono ?_
              rintro e w6 ⟨q6, d6, rfl, ho6, hb6⟩
              have HO6 := Lib.hid ho6
              have HB6 := Lib.hid hb6
              have hS6 := HCG.out w6 hb6
              clear ho6 hb6
              try go_wp2_with fail
              refine hK.out _ _ (fun _ => hS6) ?_
              clear hK K hHeld qcg qcl rcg rcl
              have hHeld : (fun (W : World) => W.cell? ⟨g, num, none⟩ = some (.slice pi li ci) ∧ W.cell? ⟨bl, ol + i, none⟩ = some (.int .i64 x)) w6 := hS6
              obtain ⟨scg, scl⟩ := hS6
              have sfg : w6.frozen? ⟨g, num, none⟩ = false := by have h := (HR.out.below HB6.out).out; rw [HVL.out] at h; exact h.frozenAt num
              try simp only [Act.put, List.setIfInBounds_toArray, List.set_cons_zero, List.set_cons_succ]
              refine anyK_take (i := 15) (oi := { dst := some 79, op := Op.indexAddr 22 (Operand.tmp 64) (Operand.tmp 65), type := 0, pos := "ref.go:70", after := #[{ on := 0, ground := Ground.data }, { on := 1, ground := Ground.data }, { on := 0, ground := Ground.phase }, { on := 1, ground := Ground.phase }, { on := 2, ground := Ground.phase }, { on := 3, ground := Ground.phase }, { on := 4, ground := Ground.phase }, { on := 5, ground := Ground.phase }, { on := 6, ground := Ground.phase }, { on := 7, ground := Ground.phase }, { on := 8, ground := Ground.phase }, { on := 9, ground := Ground.phase }, { on := 10, ground := Ground.phase }, { on := 11, ground := Ground.phase }, { on := 12, ground := Ground.phase }, { on := 13, ground := Ground.phase }, { on := 14, ground := Ground.phase }], guard := none }) (u := ?_) rfl (by kernel_rfl) (fun _ _ _ h => h) (Or.inl ⟨by kernel_rfl, ?_⟩) hHeld ?_
              rotate_left
              focus (intro w hSw; (try dsimp only at hSw); go_simp; try with_reducible rfl)
              try simp only [Act.put, List.setIfInBounds_toArray, List.set_cons_zero, List.set_cons_succ]
              refine anyK_one (i := 16) (o := { dst := none, op := Op.store 29 (Operand.tmp 79) (Operand.tmp 78), type := 0, pos := "ref.go:70", after := #[{ on := 15, ground := Ground.data }, { on := 14, ground := Ground.data }, { on := 14, ground := Ground.chain }, { on := 0, ground := Ground.phase }, { on := 1, ground := Ground.phase }, { on := 2, ground := Ground.phase }, { on := 3, ground := Ground.phase }, { on := 4, ground := Ground.phase }, { on := 5, ground := Ground.phase }, { on := 6, ground := Ground.phase }, { on := 7, ground := Ground.phase }, { on := 8, ground := Ground.phase }, { on := 9, ground := Ground.phase }, { on := 10, ground := Ground.phase }, { on := 11, ground := Ground.phase }, { on := 12, ground := Ground.phase }, { on := 13, ground := Ground.phase }, { on := 14, ground := Ground.phase }], guard := none }) (by kernel_rfl) rfl (fun K hK => ?_)
              go_simp
              refine hK.out _ _ (fun h => absurd h (by decide)) ?_
              clear hK K hHeld scg scl sfg hcg hcl
              try simp only [Act.put, List.setIfInBounds_toArray, List.set_cons_zero, List.set_cons_succ]
              refine anyK_done (by kernel_rfl) ?_ _
              have HA := Lib.hid (RowsIn.swap HR.out HNL2.out HB6.out HO6.out (by have := HREF.out.len; have := HLEN.out; omega) HBS.out)
              have HFN : Hid (OwnQ (w6.setCell ⟨g, num, none⟩ (.slice q6 lq d6)) w5.heap.size (.slice (some ⟨g7, 0, none⟩) (m) c7) (F ++ [x])) := by
                have h1 := (HR.out.below HB6.out).out
                refine ownQ_set (ownQ_below HFS.out HB6.out) ?_ num _
                rcases h1.2 with ⟨h', _⟩ | ⟨g', cap, cur, e, _, hh, _⟩
                · simp at h'
                · simp only [Value.slice.injEq, Option.some.injEq, Addr.mk.injEq, and_true] at e
                  rw [e.1]
                  exact ni_of hh (by decide)
              obtain ⟨W3, hW3⟩ : ∃ W3, W3 = w6.setCell ⟨g, num, none⟩ (.slice q6 lq d6) := ⟨_, rfl⟩
              rw [← hW3] at HA HFN ⊢
              clear hW3
              go_wp2
              go_roundw
              case rel =>
                refine ⟨i + 1, m, (some ⟨g7, 0, none⟩), c7, some ⟨g, 0, none⟩, co1, (F ++ [x]), (O ++ [[]]).set num rr, (vs ++ [Value.slice none 0 0]).set num (.slice q6 lq d6), by omega, rfl, rfl, by go_num, ⟨?_, HLEN.out, HFN.out, HA.out.1, HA.out.2 w5 HLOW.out, ?_⟩⟩
                · have h := HST.out
                  rw [HGLR.out] at h
                  rw [HNX.out]
                  refine HREF.out.old HNUM.out HAL.out hx0 (by omega) HCUT.out h.1 fun c => (h.2.1 c).trans ?_
                  constructor
                  · rintro (h | ⟨h1, h2⟩)
                    · exact .inl h
                    · exact .inr ⟨h1, by omega⟩
                  · rintro (h | ⟨h1, h2⟩)
                    · exact .inl h
                    · exact .inr ⟨h1, by omega⟩
                · intro k hk
                  rw [List.length_set] at hk
                  rw [gl_setU hk]
                  split
                  · have := HST.out.2.2
                    have h := HSH.out num HNL2.out
                    rw [HGLR.out] at this; omega
                  · have := HSH.out k hk; omega
              case measure => simp [intOf]; omega
    · have hie : i = nc := by omega
      have hinI : (nc : Int) ≤ i := by omega
      have HP : Hid (Parts (rowsV xs) O) := by
        have h := HI.out.ref
        have e : bnd l i = 1114112 := by unfold bnd; rw [if_neg (by have := HNL.out; omega)]
        rw [e] at h; exact h.done
      go_wp2
      refine bodyPost_ret (v := .tuple #[.slice qo f co, .int .i64 0]) (by simp [results, Tryz.f13, go_sem]) rfl ⟨bl_trans HB5.out HI.out.low, .inr ⟨qo, co, f, vs, O, rfl, by have := HI.out.len; have := HI.out.ref.len; omega, by have := HI.out.len; have := HI.out.ref.few; omega, HP.out, ⟨World.ownsRow.mono HI.out.rows.out HB5.out.size, HI.out.rows.len, fun k hk => ownR_down (HI.out.rows.own k hk) HB5.out.size, HI.out.rows.apart⟩, fun k hk => by have := HI.out.short k hk; have := HNC.out; omega⟩⟩
end Go.Proofs.YtildfjlaieaadaaGreat
