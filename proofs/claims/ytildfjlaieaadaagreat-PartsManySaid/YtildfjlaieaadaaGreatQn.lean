/- The walk of Within, by slices.ContainsFunc and its closure. -/
import Derived.Test.YtildfjlaieaadaaGreatQm

namespace Go.Proofs.YtildfjlaieaadaaGreat
open Go.RowKit Tnr

theorem touch_meets (l s : List R) : (∃ r ∈ l, Touch (cn s) r) ↔ Meets l s := by
  constructor
  · rintro ⟨r, hr, c, hc, h1, h2⟩
    have hs := (cn_cov s c).1 hc
    exact ⟨c, ⟨hs.1, hs.2.1, r, hr, h1, h2⟩, hs⟩
  · rintro ⟨c, ⟨_, _, r, hr, h1, h2⟩, hs⟩
    exact ⟨r, hr, c, (cn_cov s c).2 hs, h1, h2⟩

set_option maxHeartbeats 800000 in
set_option maxRecDepth 100000 in
theorem within1_any (b : Nat) (q : Option Addr) (cq n : Nat) (d : List R) (lo hi : Int) (w : World) (hb : Boxed w b 29 (.slice q n cq)) (hn : n = d.length) (hq : SlR w q d) (hr : Rt d) (hl : n ≤ 1000000) :
    Calls Tryz.prog 41 #[.agg #[.int .i64 lo, .int .i64 hi], .pointer (some ⟨b, 0, none⟩)] w fun e w' => ∃ t : Bool, e = .returned (.bool t) ∧ (t = true ↔ Touch d (lo, hi)) ∧ Below w.heap.size w w' := by
  have HM := Lib.hid (meets_any q cq n d lo hi (w.alloc (.cells #[.int .i64 lo, .int .i64 hi] 28)) hn (hq.below (bl_alloc _ _)) hr hl)
  have hc := hb.cell
  have hc2 := ((bl_alloc w (.cells #[.int .i64 lo, .int .i64 hi] 28)).cell (World.block_lt_of_cell? w _ hc)).trans hc
  clear hb hn hq hr hl
  go_enter Tryz.func41, Tryz.ntmps41
  go_wp2_with fail
  refine HM.out.mono ?_
  rintro e w2 ⟨t, rfl, ht, hb2⟩
  have HT := Lib.hid ht
  have HB2 := Lib.hid (bl_trans (bl_alloc w (.cells #[.int .i64 lo, .int .i64 hi] 28)) hb2)
  clear ht hb2 hc hc2
  go_wp2
  go_ret
  exact ⟨t, rfl, HT.out, HB2.out⟩

set_option maxHeartbeats 1600000 in
set_option maxRecDepth 100000 in
theorem indexFunc_any (b : Nat) (q : Option Addr) (cq n : Nat) (d : List R) (p : Option Addr) (c m : Nat) (l : List R) (w : World) (hb : Boxed w b 29 (.slice q n cq)) (hn : n = d.length) (hq : SlR w q d) (hr : Rt d) (hl : n ≤ 1000000) (hm : m = l.length) (hp : SlR w p l) (hml : m ≤ 1000000) :
    Calls Tryz.prog 55 #[.slice p m c, .func (.func 41) #[] #[.pointer (some ⟨b, 0, none⟩)]] w fun e w' => ∃ z : Int, e = .returned (.int .i64 z) ∧ (0 ≤ z ↔ ∃ r ∈ l, Touch d r) ∧ Below w.heap.size w w' := by
  have HBX := Lib.hid hb
  have HN := Lib.hid hn
  have HQ := Lib.hid hq
  have HR := Lib.hid hr
  have HL := Lib.hid hl
  have HM := Lib.hid hm
  have HP := Lib.hid hp
  have hmI : (m : Int) ≤ 1000000 := by omega
  clear hb hn hq hr hl hm hp hml
  go_enter Tryz.func55, Tryz.ntmps55
  go_wp2
  go_loopw [8] (fun iv wr => ∃ i : Nat, i ≤ m ∧ iv = .int .i64 (i : Nat) ∧ Hid (Below w.heap.size w wr) ∧ Hid (∀ k, k < i → ¬ Touch d (gr l k))) (fun iv _ => m - (intOf iv).toNat)
  case atStart => exact ⟨0, Nat.zero_le _, rfl, Below.refl _ _, fun k hk => absurd hk (by omega)⟩
  case round =>
    obtain ⟨i, hi, rfl, HB, HNO⟩ := hrel
    rename World => wr
    by_cases him : i < m
    · have hiI : (i : Int) < m := by omega
      obtain ⟨bb, o, rfl, hc0, hc1⟩ := slr_at (HP.out.below HB.out) (show i < l.length by have := HM.out; omega)
      obtain ⟨x, hx⟩ : ∃ x, x = (gr l i).1 := ⟨_, rfl⟩
      obtain ⟨y, hy⟩ : ∃ y, y = (gr l i).2 := ⟨_, rfl⟩
      rw [← hx] at hc0
      rw [← hy] at hc1
      have HG : Hid (gr l i = (x, y)) := by rw [hx, hy]; rfl
      have HW := Lib.hid (within1_any b q cq n d x y wr ((HB.out.block b HBX.out.lt).trans HBX.out) HN.out (HQ.out.below HB.out) HR.out HL.out)
      clear hx hy
      go_wp2_with fail
      refine HW.out.mono ?_
      clear HW
      rintro e w2 ⟨t, rfl, ht, hb2⟩
      have HB2 := Lib.hid (bl_trans HB.out hb2)
      clear hb2 hc0 hc1
      cases t with
      | true =>
        have HT : Hid (∃ r ∈ l, Touch d r) := ⟨gr l i, gr_mem (by have := HM.out; omega), by rw [HG.out]; exact ht.1 rfl⟩
        clear ht
        go_wp2
        go_ret
        exact ⟨(i : Nat), rfl, ⟨fun _ => HT.out, fun _ => by omega⟩, HB2.out⟩
      | false =>
        have HN2 : Hid (∀ k, k < i + 1 → ¬ Touch d (gr l k)) := by
          intro k hk
          by_cases e : k = i
          · rw [e, HG.out]; exact fun q => absurd (ht.2 q) (by decide)
          · exact HNO.out k (by omega)
        clear ht
        go_wp2
        go_roundw
        case rel => exact ⟨i + 1, by omega, by go_num, HB2.out, HN2.out⟩
        case measure => simp [intOf]; omega
    · have hiI : (m : Int) ≤ i := by omega
      have HNN : Hid (¬ ∃ r ∈ l, Touch d r) := by
        rintro ⟨r, hr, ht⟩
        obtain ⟨k, hk, rfl⟩ := mem_gr hr
        exact HNO.out k (by have := HM.out; omega) ht
      go_wp2
      go_ret
      exact ⟨-1, rfl, ⟨fun h => absurd h (by omega), fun h => absurd h HNN.out⟩, HB.out⟩

set_option maxHeartbeats 800000 in
set_option maxRecDepth 100000 in
theorem containsFunc_any (b : Nat) (q : Option Addr) (cq n : Nat) (d : List R) (p : Option Addr) (c m : Nat) (l : List R) (w : World) (hb : Boxed w b 29 (.slice q n cq)) (hn : n = d.length) (hq : SlR w q d) (hr : Rt d) (hl : n ≤ 1000000) (hm : m = l.length) (hp : SlR w p l) (hml : m ≤ 1000000) :
    Calls Tryz.prog 40 #[.slice p m c, .func (.func 41) #[] #[.pointer (some ⟨b, 0, none⟩)]] w fun e w' => ∃ t : Bool, e = .returned (.bool t) ∧ (t = true ↔ ∃ r ∈ l, Touch d r) ∧ Below w.heap.size w w' := by
  have HI := Lib.hid (indexFunc_any b q cq n d p c m l w hb hn hq hr hl hm hp hml)
  clear hb hn hq hr hl hm hp hml
  go_enter Tryz.func40, Tryz.ntmps40
  go_wp2_with fail
  refine HI.out.mono ?_
  rintro e w2 ⟨z, rfl, hz, hb2⟩
  have HZ := Lib.hid hz
  have HB2 := Lib.hid hb2
  clear hz hb2 HI
  go_wp2
  go_ret
  exact ⟨decide (0 ≤ z), rfl, by rw [decide_eq_true_iff]; exact HZ.out, HB2.out⟩

/-- the places of the first rows that meet a set. -/
noncomputable def witK (L : List (List R)) (s : List R) (k : Nat) : List Int := ((List.range k).filter fun k => meetB (gl L k) s).map Int.ofNat
theorem witK_all (L : List (List R)) (s : List R) : witK L s L.length = wit L s := rfl
theorem witK_yes {L : List (List R)} {s : List R} {k : Nat} (h : Meets (gl L k) s) : witK L s (k + 1) = witK L s k ++ [(k : Int)] := by
  unfold witK
  rw [List.range_succ, List.filter_append, List.map_append]
  congr 1
  rw [List.filter_cons, if_pos ((meetB_iff _ _).2 h)]; rfl
theorem witK_no {L : List (List R)} {s : List R} {k : Nat} (h : ¬ Meets (gl L k) s) : witK L s (k + 1) = witK L s k := by
  unfold witK
  rw [List.range_succ, List.filter_append, List.map_append]
  rw [List.filter_cons, if_neg (fun e => h ((meetB_iff _ _).1 e))]; simp
theorem witK_length (L : List (List R)) (s : List R) (k : Nat) : (witK L s k).length ≤ k := by
  unfold witK
  rw [List.length_map]
  exact Nat.le_trans (List.length_filter_le _ _) (by simp)
theorem box_kept {w w' : World} {B b : Nat} {v x : Value} {n : Nat} {xs : List Value} (h : Boxed w b 29 x) (hg : w.grownBy w' v.ownBlock) (ho : w.ownsRow B 3 1 v n xs) : Boxed w' b 29 x := by
  have hne : some b ≠ v.ownBlock := fun e => by
    rcases ho.2 with ⟨rfl, _⟩ | ⟨g, cap, cur, rfl, _, hh, _⟩
    · simp [Value.ownBlock] at e
    · simp only [Value.ownBlock, Option.some.injEq] at e
      subst e
      rw [show w.heap[b]? = _ from h] at hh
      simp only [Option.some.injEq, Obj.cells.injEq] at hh
      exact absurd hh.2.1 (by decide)
  exact (hg.block b h.lt hne).trans h

theorem ownR_kept_int {w w' : World} {B B' n : Nat} {v u : Value} {l : List R} {xs : List Value} (h : OwnR w B' v l) (hg : w.grownBy w' u.ownBlock) (ho : w.ownsRow B 3 1 u n xs) : OwnR w' B' v l := by
  refine ownR_kept h hg (not_two fun g hg => ?_)
  rcases ho.2 with ⟨rfl, _⟩ | ⟨g', cap, cur, rfl, _, hh, _⟩
  · simp [Value.ownBlock] at hg
  · simp only [Value.ownBlock, Option.some.injEq] at hg
    subst hg
    exact ownR_ne h hh (by decide)
theorem ownR_sl {w : World} {B n c : Nat} {p : Option Addr} {l : List R} (h : OwnR w B (.slice p n c) l) : SlR w p l := by
  obtain ⟨q, c', e, _, _, _, hs, _⟩ := ownR_form h
  simp only [Value.slice.injEq] at e
  rw [e.1]; exact hs

set_option maxHeartbeats 3200000 in
set_option maxRecDepth 100000 in
theorem within_any (p : Option Addr) (c m : Nat) (xs : List SV) (ps : Option Addr) (cs ms : Nat) (s : List R) (w : World) (hm : m = xs.length) (hx : SlS w p xs) (hl : xs.length ≤ 30000) (hf : (flat xs).length ≤ 30000) (hms : ms = s.length) (hs : SlR w ps s) (hsl : s.length ≤ 30000) :
    Calls Tryz.prog 22 #[.slice p m c, .slice ps ms cs] w fun e w' => ∃ q n cq, e = .returned (.slice q n cq) ∧ n = (wit (rowsV xs) s).length ∧ OwnQ w' w.heap.size (.slice q n cq) (wit (rowsV xs) s) ∧ Below w.heap.size w w' := by
  obtain ⟨i0, hinf, hz0, hz1, hz2⟩ := info_parts info_intq
  have HX := Lib.hid hx
  have HM := Lib.hid hm
  have HF := Lib.hid hf
  have hmI : (m : Int) ≤ 30000 := by omega
  have HJ := Lib.hid (joinq_one ps cs ms s (cn s) w rfl hms hs (by omega))
  have HCL : Hid ((cn s).length ≤ 30000) := by have := cn_length s; show _ ≤ _; omega
  obtain ⟨B, hB⟩ : ∃ B, B = w.heap.size := ⟨_, rfl⟩
  have HB := Lib.hid hB
  clear hx hm hf hl hms hs hsl
  go_enter Tryz.func22, Tryz.ntmps22
  go_wp2_with fail
  refine HJ.out.mono ?_
  clear HJ
  rintro e w1 ⟨q, cq, rfl, ho1, hb1⟩
  obtain ⟨q', cq', e5, _, _, _, hsl5, _⟩ := ownR_form ho1
  simp only [Value.slice.injEq, true_and] at e5
  obtain ⟨rfl, rfl⟩ := e5
  obtain ⟨n, hn⟩ : ∃ n, n = (cn s).length := ⟨_, rfl⟩
  rw [← hn]
  have HN := Lib.hid hn
  have hnl : n ≤ 30000 := by have := HCL.out; omega
  obtain ⟨bx, hbx⟩ : ∃ bx, bx = w1.heap.size := ⟨_, rfl⟩
  have HBX : Hid (Boxed (w1.alloc (.cells #[.slice q n cq] 29)) bx 29 (.slice q n cq)) := by rw [hbx]; exact World.alloc_heap_new w1 _
  have HSL : Hid (OwnR (w1.alloc (.cells #[.slice q n cq] 29)) B (.slice q n cq) (cn s)) := by
    have h := ownR_below ho1 (bl_alloc w1 (.cells #[.slice q n cq] 29))
    rw [← hn, ← HB.out] at h
    exact h
  have HB1 := Lib.hid (bl_trans hb1 (bl_alloc w1 (.cells #[.slice q n cq] 29)))
  clear ho1 hb1 hsl5 hn
  rw [← hB]
  clear hB
  go_wp2
  rw [← hbx]
  clear hbx
  obtain ⟨w0, hw0⟩ : ∃ w0, w0 = w1.alloc (.cells #[.slice q n cq] 29) := ⟨_, rfl⟩
  rw [← hw0] at HBX HSL HB1 ⊢
  clear hw0
  go_loopw [6, 14] (fun lv iv wr => ∃ (k j : Nat) (po : Option Addr) (co : Nat), k ≤ m ∧ iv = .int .i64 (k : Nat) ∧ lv = .slice po j co ∧ Hid (j = (witK (rowsV xs) s k).length) ∧ Hid (OwnQ wr B (.slice po j co) (witK (rowsV xs) s k)) ∧ Hid (Below B w wr) ∧ Hid (Boxed wr bx 29 (.slice q n cq)) ∧ Hid (OwnR wr B (.slice q n cq) (cn s))) (fun _ iv _ => m - (intOf iv).toNat)
  case atStart => exact ⟨0, 0, none, 0, Nat.zero_le _, rfl, rfl, rfl, ownQ_nil _ _, by show Below B w w0; rw [HB.out]; exact HB1.out, HBX.out, HSL.out⟩
  case round =>
    obtain ⟨k, j, po, co, hk, rfl, rfl, HJ, HO, HBL, HBW, HSW⟩ := hrel
    rename World => wr
    clear HBX HSL HB1
    by_cases hkm : k < m
    · have hkI : (k : Int) < m := by omega
      have hkx : k < xs.length := by have := HM.out; omega
      have hjk : j ≤ k := by have := witK_length (rowsV xs) s k; have := HJ.out; omega
      have hjI : (j : Int) ≤ 30000 := by omega
      have hlow : Below w.heap.size w wr := by rw [← HB.out]; exact HBL.out
      obtain ⟨b, o, rfl, hc⟩ := sls_at (HX.out.below hlow) hkx
      have hs0 : SlR wr (gs xs k).1 (gs xs k).2.2 := (HX.out.below hlow).1 _ (by rw [gs_get hkx]; exact List.getElem_mem _)
      have HGL : Hid (gl (rowsV xs) k = (gs xs k).2.2) := rowsV_gl hkx
      have HLE : Hid ((gs xs k).2.2.length ≤ 30000) := by have := flat_one_le hkx; have := HF.out; show _ ≤ _; omega
      obtain ⟨pa, ca, la, hga⟩ : ∃ pa ca la, gs xs k = (pa, ca, la) := ⟨_, _, _, rfl⟩
      rw [hga] at hc hs0 HGL HLE
      simp only at hc hs0
      obtain ⟨na, hna⟩ : ∃ na, na = la.length := ⟨_, rfl⟩
      have HS := Lib.hid (containsFunc_any bx q cq n (cn s) pa ca na la wr HBW.out HN.out (ownR_sl HSW.out) (cn_right s) (by omega) hna hs0 (by have := HLE.out; simp only at this; omega))
      rw [← hna] at hc
      clear hga hs0 hna hkx hlow
      go_wp2_with fail
      refine HS.out.mono ?_
      clear HS
      rintro e w2 ⟨t, rfl, ht, hb2⟩
      rw [touch_meets, ← HGL.out] at ht
      have HBL2 : Hid (Below B w w2) := HBL.out.trans (hb2.mono (by have h := HBL.out.size; have := HB.out; omega))
      have HO2 := Lib.hid (ownQ_below HO.out hb2)
      have HROW := Lib.hid (ownQ_row HO2.out HJ.out)
      have HSZ : Hid (B ≤ w2.heap.size) := by have h := HBL2.out.size; have := HB.out; show _ ≤ _; omega
      have HBW2 : Hid (Boxed w2 bx 29 (.slice q n cq)) := (hb2.block bx HBW.out.lt).trans HBW.out
      have HSW2 := Lib.hid (ownR_below HSW.out hb2)
      clear hb2 hc
      cases t with
      | true =>
        have HE : Hid (witK (rowsV xs) s (k + 1) = witK (rowsV xs) s k ++ [(k : Int)]) := witK_yes (ht.1 rfl)
        clear ht
        go_wp2_with (at_builtin; refine wpList_append_lies _ rfl _ _ 32 rfl B 3 i0 (.int .i64 0) 1 8 Tryz.underlying32 hinf hz0 hz1 hz2 rfl (by decide) (.slice po j co) j _ rfl (HROW.out.alloc _) ⟨w2.heap.size, 0, none⟩ 1 1 [.int .i64 (k : Nat)] rfl rfl (cells_one_q _ _ _) (by simp [Value.oneCell']) (by omega) (by simp only [maxLen]; omega) (by omega) (by have := HSZ.out; simp; omega) (w2.heap.size + 1) (by simp) ?_; intro gg cap w5 hown5 hgrow5 hat5 hlt5; have HOW := Lib.hid hown5; have HGR := Lib.hid hgrow5; clear hown5 hgrow5 hat5 hlt5)
        go_wp2
        go_roundw
        case rel =>
          refine ⟨k + 1, j + 1, some ⟨gg, 0, none⟩, cap, by omega, by go_num, rfl, ?_, ?_, ?_, ?_, ?_⟩
          · show j + 1 = _
            rw [HE.out, List.length_append, ← HJ.out]; rfl
          · show OwnQ _ _ _ _
            rw [HE.out]
            exact ownQ_appended HJ.out HOW.out
          · exact (HBL2.out.alloc HSZ.out _).grown HGR.out (by have := HSZ.out; simp; omega) (fun k hk => (HROW.out.lt k hk).1)
          · exact box_kept (show Boxed (w2.alloc (.cells #[.int .i64 (k : Nat)] 3)) bx 29 (.slice q n cq) from ((bl_alloc w2 _).block bx HBW2.out.lt).trans HBW2.out) HGR.out (HROW.out.alloc _)
          · exact ownR_kept_int (ownR_below HSW2.out (bl_alloc w2 (.cells #[.int .i64 (k : Nat)] 3))) HGR.out (HROW.out.alloc _)
        case measure => simp [intOf]; omega
      | false =>
        have HE : Hid (witK (rowsV xs) s (k + 1) = witK (rowsV xs) s k) := witK_no (fun q => absurd (ht.2 q) (by decide))
        clear ht
        go_wp2
        go_roundw
        case rel =>
          refine ⟨k + 1, j, po, co, by omega, by go_num, rfl, ?_, ?_, HBL2.out, HBW2.out, HSW2.out⟩
          · show j = _
            rw [HE.out]; exact HJ.out
          · show OwnQ _ _ _ _
            rw [HE.out]; exact HO2.out
        case measure => simp [intOf]; omega
    · have hkI : (m : Int) ≤ k := by omega
      have hke : k = m := by omega
      subst hke
      have e : k = (rowsV xs).length := by rw [rowsV_length]; exact HM.out
      have HE : Hid (witK (rowsV xs) s k = wit (rowsV xs) s) := by show _ = _; rw [e]; rfl
      clear e
      go_wp2
      go_ret
      exact ⟨po, j, co, rfl, by rw [← HE.out]; exact HJ.out, by rw [← HE.out, ← HB.out]; exact HO.out, by have h := HBL.out; rw [HB.out] at h; exact h⟩
end Go.Proofs.YtildfjlaieaadaaGreat
