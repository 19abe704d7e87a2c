/- The walks of Of, Class, Firsts. -/
import Derived.Test.YtildfjlaieaadaaGreatQh
import Derived.Test.YtildfjlaieaadaaGreatQk

namespace Go.Proofs.YtildfjlaieaadaaGreat
open Go.RowKit Tnr

theorem rowOf_total (q : List (R × Nat)) : ∀ n, ((List.range n).map (rowOf q)).flatten.length = q.countP (fun x => decide (x.2 < n))
  | 0 => by simp
  | n + 1 => by
    rw [List.range_succ, List.map_append, List.flatten_append, List.length_append, rowOf_total q n]
    simp only [List.map_cons, List.map_nil, List.flatten_cons, List.flatten_nil, List.append_nil]
    induction q with
    | nil => simp [rowOf_nil]
    | cons x q ih =>
      rw [rowOf_cons, List.countP_cons, List.countP_cons]
      by_cases h : x.2 = n
      · rw [if_pos h, if_neg (by simp; omega), if_pos (by simp; omega), List.length_cons]; omega
      · rw [if_neg h]
        by_cases h2 : x.2 < n
        · rw [if_pos (by simpa using h2), if_pos (by simp; omega)]; omega
        · rw [if_neg (by simpa using h2), if_neg (by simp; omega)]; omega
theorem setsOf_total (ps : List (Int × Nat)) (n : Nat) : (setsOf ps n).flatten.length ≤ ps.length := by
  unfold setsOf
  rw [rowOf_total]
  refine Nat.le_trans List.countP_le_length ?_
  rw [rng_length]; exact Nat.le_refl _
theorem rowsV_gl {xs : List SV} {i : Nat} (h : i < xs.length) : gl (rowsV xs) i = (gs xs i).2.2 := by
  rw [gl_get (by rw [rowsV_length]; exact h), gs_get h]
  simp [rowsV]

/-- what Of tells, without an error. -/
def OfOk (xs : List SV) (w : World) (e : Ending) (w' : World) : Prop :=
  ∃ po nn co ys vs, e = .returned (.tuple #[.slice po nn co, .int .i64 0]) ∧ nn = ys.length ∧ nn ≤ co ∧ nn ≤ 60 ∧ Parts (rowsV xs) (rowsV ys) ∧ SlS w' po ys ∧ (flat ys).length ≤ 2 * (flat xs).length + xs.length + 1 ∧ RowsIn w' w.heap.size (.slice po nn co) vs (rowsV ys)

set_option maxHeartbeats 1600000 in
set_option maxRecDepth 100000 in
theorem partsOf_any (p : Option Addr) (c m : Nat) (xs : List SV) (w : World) (hm : m = xs.length) (hc : m ≤ c) (hx : SlS w p xs) (hl : xs.length ≤ 2000) (hf : (flat xs).length ≤ 10000) :
    Calls Tryz.prog 4 #[.slice p m c] w fun e w' => Below w.heap.size w w' ∧ ((e = .returned (.tuple #[.slice none 0 0, .int .i64 3]) ∧ More (rowsV xs)) ∨ OfOk xs w e w') := by
  have HP := Lib.hid (parted_any p c m xs w hm hc hx hl hf)
  have HL := Lib.hid hl
  have HF := Lib.hid hf
  clear hm hc hx hl hf
  go_enter Tryz.func4, Tryz.ntmps4
  go_wp2_with fail
  refine HP.out.mono ?_
  clear HP
  rintro e W ⟨hbl, ⟨rfl, hmore⟩ | ⟨v, rfl, hv⟩⟩
  · have HM := Lib.hid hmore
    have HB := Lib.hid hbl
    clear hmore hbl
    go_wp2
    refine bodyPost_ret (v := .tuple #[.slice none 0 0, .int .i64 3]) (by simp [results, Tryz.f4, go_sem]) rfl ⟨bl_trans HB.out (bl_alloc _ _), .inl ⟨rfl, HM.out⟩⟩
  · obtain ⟨q1, c1, q2, c2, k, ps, n, rfl, hcl, hg, hk, hkb⟩ := hv
    have HS := Lib.hid (sets_any (.agg #[.slice q1 k c1, .slice q2 k c2]) (rowsV xs) ps n (W.alloc (.cells #[.slice q1 k c1, .slice q2 k c2] 37)) hg (hcl.below (bl_alloc _ _)) (by have := HL.out; have := HF.out; omega))
    have HN := Lib.hid (Box2.new W 37 (.slice q1 k c1) (.slice q2 k c2))
    have HB := Lib.hid (bl_trans hbl (bl_alloc W (.cells #[.slice q1 k c1, .slice q2 k c2] 37)))
    have HG := Lib.hid hg
    have HK := Lib.hid hk
    have HKB := Lib.hid hkb
    have u0 := HN.out.cell0
    have u1 := HN.out.cell1
    clear hcl hg hk hkb hbl
    go_wp2_with fail
    refine HS.out.mono ?_
    rintro e w2 ⟨po, co, vs, rfl, hr, hb2⟩
    have HR := Lib.hid hr
    have HB2 := Lib.hid (bl_trans HB.out hb2)
    clear u0 u1 hr hb2
    go_wp2
    refine bodyPost_ret (v := .tuple #[.slice po n co, .int .i64 0]) (by simp [results, Tryz.f4, go_sem]) rfl ⟨HB2.out, .inr ?_⟩
    obtain ⟨ys, hys, hsl⟩ := HR.out.sls
    have hlen : n = ys.length := by rw [← rowsV_length ys, hys, setsOf_length]
    have hco : n ≤ co := by
      rcases HR.out.out.2 with ⟨h, h2⟩ | ⟨g, cap, cur, e, _, _, hnc, _⟩
      · simp only [Value.slice.injEq] at h; omega
      · simp only [Value.slice.injEq] at e
        have h1 := HR.out.len
        rw [setsOf_length] at h1
        omega
    refine ⟨po, n, co, ys, vs, rfl, hlen, hco, HG.out.few, by rw [hys]; exact HG.out.parts, hsl, ?_, ?_⟩
    · have h1 := setsOf_total ps n
      have h2 := HK.out
      have h3 := HKB.out
      rw [← rowsV_flat, hys]; omega
    · rw [hys]
      have h := HR.out
      have hsz := HB.out.size
      exact ⟨World.ownsRow.mono h.out hsz, h.len, fun i hi => ownR_down (h.own i hi) hsz, h.apart⟩

set_option maxHeartbeats 1600000 in
set_option maxRecDepth 100000 in
theorem class_any (p : Option Addr) (c m : Nat) (xs : List SV) (z : Int) (w : World) (hm : m = xs.length) (hx : SlS w p xs) (hl : xs.length ≤ 1000000) (hf : (flat xs).length ≤ 1000000) :
    Calls Tryz.prog 19 #[.slice p m c, .int .i64 z] w fun e w' => ∃ k b, e = .returned (.tuple #[.int .i64 (k : Nat), .bool b]) ∧ ClsR (rowsV xs) z k b ∧ Below w.heap.size w w' := by
  have HX := Lib.hid hx
  have HM := Lib.hid hm
  have HF := Lib.hid hf
  have hmI : (m : Int) ≤ 1000000 := by omega
  clear hx hm hf hl
  go_enter Tryz.func19, Tryz.ntmps19
  go_wp2
  go_loopw [10] (fun iv wr => ∃ i : Nat, i ≤ m ∧ iv = .int .i64 (i : Nat) ∧ Hid (Below w.heap.size w wr) ∧ Hid (∀ k, k < i → ¬ Has (gl (rowsV xs) k) z)) (fun iv _ => m - (intOf iv).toNat)
  case atStart => exact ⟨0, Nat.zero_le _, rfl, Below.refl _ _, fun k hk => absurd hk (by omega)⟩
  case round =>
    obtain ⟨i, hi, rfl, HB, HN⟩ := hrel
    rename World => wr
    by_cases him : i < m
    · have hiI : (i : Int) < m := by omega
      have hix : i < xs.length := by have := HM.out; omega
      obtain ⟨b, o, rfl, hc⟩ := sls_at (HX.out.below HB.out) hix
      have hs0 : SlR wr (gs xs i).1 (gs xs i).2.2 := (HX.out.below HB.out).1 _ (by rw [gs_get hix]; exact List.getElem_mem _)
      have HGL : Hid (gl (rowsV xs) i = (gs xs i).2.2) := rowsV_gl hix
      have HLE : Hid ((gs xs i).2.2.length ≤ 1000000) := by have := flat_one_le hix; have := HF.out; show _ ≤ _; omega
      obtain ⟨pa, ca, la, hga⟩ : ∃ pa ca la, gs xs i = (pa, ca, la) := ⟨_, _, _, rfl⟩
      rw [hga] at hc hs0 HGL HLE
      simp only at hc hs0
      have HS := Lib.hid (has_any pa ca la z wr hs0 (by have := HLE.out; simp only at this; omega))
      obtain ⟨na, hna⟩ : ∃ na, na = la.length := ⟨_, rfl⟩
      rw [← hna] at hc HS
      clear hga hs0 hna hix
      go_wp2_with fail
      refine HS.out.mono ?_
      clear HS
      rintro e w2 ⟨rfl, hb2⟩
      have HB2 := Lib.hid (bl_trans HB.out hb2)
      clear hb2
      by_cases hh : Has la z
      · have e1 : hasB la z = true := by unfold hasB; simpa using hh
        rw [e1]
        have HH : Hid (Has (gl (rowsV xs) i) z) := by show Has _ _; rw [HGL.out]; exact hh
        clear hh e1
        go_wp2
        refine bodyPost_ret (v := .tuple #[.int .i64 (i : Nat), .bool true]) (by simp [results, Tryz.f19, go_sem]) rfl ⟨i, true, rfl, .inl ⟨rfl, by rw [rowsV_length, ← HM.out]; exact him, HH.out, HN.out⟩, HB2.out⟩
      · have e1 : hasB la z = false := by unfold hasB; simpa using hh
        rw [e1]
        have HH : Hid (∀ k, k < i + 1 → ¬ Has (gl (rowsV xs) k) z) := by
          intro k hk
          by_cases e : k = i
          · rw [e, HGL.out]; exact hh
          · exact HN.out k (by omega)
        clear hh e1
        go_wp2
        go_roundw
        case rel => exact ⟨i + 1, by omega, by go_num, HB2.out, HH.out⟩
        case measure => simp [intOf]; omega
    · have hiI : (m : Int) ≤ i := by omega
      go_wp2
      refine bodyPost_ret (v := .tuple #[.int .i64 (0 : Nat), .bool false]) (by simp [results, Tryz.f19, go_sem]) rfl ⟨0, false, rfl, .inr ⟨rfl, rfl, fun k hk => HN.out k (by rw [rowsV_length] at hk; have := HM.out; omega)⟩, HB.out⟩

theorem map_take_gl {β : Type} (f : List R → β) (L : List (List R)) {k : Nat} (h : k < L.length) : (L.take (k + 1)).map f = (L.take k).map f ++ [f (gl L k)] := by
  rw [List.take_add_one, List.getElem?_eq_getElem h, gl_get h, List.map_append]; rfl

set_option maxHeartbeats 1600000 in
set_option maxRecDepth 100000 in
theorem firsts_any (p : Option Addr) (c m : Nat) (xs : List SV) (w : World) (hm : m = xs.length) (hx : SlS w p xs) (hl : xs.length ≤ 30000) (hf : (flat xs).length ≤ 30000) :
    Calls Tryz.prog 21 #[.slice p m c] w fun e w' => ∃ q cq, e = .returned (.slice q m cq) ∧ OwnQ w' w.heap.size (.slice q m cq) ((rowsV xs).map fst1) ∧ Below w.heap.size w w' := by
  obtain ⟨i0, hinf, hz0, hz1, hz2⟩ := info_parts info_intq
  have HX := Lib.hid hx
  have HM := Lib.hid hm
  have HF := Lib.hid hf
  have hmI : (m : Int) ≤ 30000 := by omega
  obtain ⟨B, hB⟩ : ∃ B, B = w.heap.size := ⟨_, rfl⟩
  have HB := Lib.hid hB
  rw [← hB]
  clear hx hm hf hl hB
  go_enter Tryz.func21, Tryz.ntmps21
  go_wp2
  go_loopw [3, 10] (fun lv iv wr => ∃ (k : Nat) (q : Option Addr) (cq : Nat), k ≤ m ∧ iv = .int .i64 (k : Nat) ∧ lv = .slice q k cq ∧ Hid (OwnQ wr B (.slice q k cq) (((rowsV xs).take k).map fst1)) ∧ Hid (Below B w wr)) (fun _ iv _ => m - (intOf iv).toNat)
  case atStart => exact ⟨0, none, 0, Nat.zero_le _, rfl, rfl, ownQ_nil _ _, Below.refl _ _⟩
  case round =>
    obtain ⟨k, q, cq, hk, rfl, rfl, HO, HBL⟩ := hrel
    rename World => wr
    by_cases hkm : k < m
    · have hkI : (k : Int) < m := by omega
      have hkx : k < xs.length := by have := HM.out; omega
      have hlow : Below w.heap.size w wr := by rw [← HB.out]; exact HBL.out
      obtain ⟨b, o, rfl, hc⟩ := sls_at (HX.out.below hlow) hkx
      have hs0 : SlR wr (gs xs k).1 (gs xs k).2.2 := (HX.out.below hlow).1 _ (by rw [gs_get hkx]; exact List.getElem_mem _)
      have HGL : Hid (gl (rowsV xs) k = (gs xs k).2.2) := rowsV_gl hkx
      have HLE : Hid ((gs xs k).2.2.length ≤ 30000) := by have := flat_one_le hkx; have := HF.out; show _ ≤ _; omega
      obtain ⟨pa, ca, la, hga⟩ : ∃ pa ca la, gs xs k = (pa, ca, la) := ⟨_, _, _, rfl⟩
      rw [hga] at hc hs0 HGL HLE
      simp only at hc hs0
      have HS := Lib.hid (least_any pa ca la wr hs0 (by have := HLE.out; simp only at this; omega))
      have HE : Hid (((rowsV xs).take (k + 1)).map fst1 = ((rowsV xs).take k).map fst1 ++ [fst1 la]) := by
        show _ = _
        rw [map_take_gl fst1 _ (by rw [rowsV_length]; exact hkx), HGL.out]
      have HLN : Hid (k = (((rowsV xs).take k).map fst1).length) := by
        show _ = _
        rw [List.length_map, List.length_take, rowsV_length]; omega
      obtain ⟨na, hna⟩ : ∃ na, na = la.length := ⟨_, rfl⟩
      rw [← hna] at hc HS
      clear hga hs0 hna hkx hlow
      go_wp2_with fail
      refine HS.out.mono ?_
      clear HS
      rintro e w2 ⟨rfl, hb2⟩
      have HBL2 : Hid (Below B w w2) := HBL.out.trans (hb2.mono (by have h := HBL.out.size; have := HB.out; omega))
      have HO2 := Lib.hid (ownQ_below HO.out hb2)
      have HROW := Lib.hid (ownQ_row HO2.out HLN.out)
      have hsz : B ≤ w2.heap.size := by have h := HBL2.out.size; have := HB.out; omega
      have HSZ := Lib.hid hsz
      obtain ⟨x, t, hxt⟩ : ∃ x t, lst la = (x, t) := ⟨_, _, rfl⟩
      rw [hxt]
      clear hb2
      cases t with
      | true =>
        have HF1 : Hid (fst1 la = x) := by show fst1 la = x; unfold fst1; rw [hxt]; rfl
        clear hxt
        go_wp2_with (at_builtin; refine wpList_append_lies _ rfl _ _ 32 rfl B 3 i0 (.int .i64 0) 1 8 Tryz.underlying32 hinf hz0 hz1 hz2 rfl (by decide) (.slice q k cq) k _ rfl (HROW.out.alloc _) ⟨w2.heap.size, 0, none⟩ 1 1 [.int .i64 x] rfl rfl (cells_one_q _ _ _) (by simp [Value.oneCell']) (by omega) (by simp only [maxLen]; omega) (by omega) (by have := HSZ.out; simp; omega) (w2.heap.size + 1) (by simp) ?_; intro gg cap w5 hown5 hgrow5 hat5 hlt5; have HOW := Lib.hid hown5; have HGR := Lib.hid hgrow5; clear hown5 hgrow5 hat5 hlt5)
        go_wp2
        go_roundw
        case rel =>
          refine ⟨k + 1, some ⟨gg, 0, none⟩, cap, by omega, by go_num, rfl, ?_, ?_⟩
          · show OwnQ _ _ _ _
            rw [HE.out, HF1.out]
            exact ownQ_appended HLN.out HOW.out
          · exact (HBL2.out.alloc HSZ.out _).grown HGR.out (by have := HSZ.out; simp; omega) (fun k hk => (HROW.out.lt k hk).1)
        case measure => simp [intOf]; omega
      | false =>
        have HF1 : Hid (fst1 la = -1) := by show fst1 la = -1; unfold fst1; rw [hxt]; rfl
        clear hxt
        go_wp2_with (at_builtin; refine wpList_append_lies _ rfl _ _ 32 rfl B 3 i0 (.int .i64 0) 1 8 Tryz.underlying32 hinf hz0 hz1 hz2 rfl (by decide) (.slice q k cq) k _ rfl (HROW.out.alloc _) ⟨w2.heap.size, 0, none⟩ 1 1 [.int .i64 (-1)] rfl rfl (cells_one_q _ _ _) (by simp [Value.oneCell']) (by omega) (by simp only [maxLen]; omega) (by omega) (by have := HSZ.out; simp; omega) (w2.heap.size + 1) (by simp) ?_; intro gg cap w5 hown5 hgrow5 hat5 hlt5; have HOW := Lib.hid hown5; have HGR := Lib.hid hgrow5; clear hown5 hgrow5 hat5 hlt5)
        go_wp2
        go_roundw
        case rel =>
          refine ⟨k + 1, some ⟨gg, 0, none⟩, cap, by omega, by go_num, rfl, ?_, ?_⟩
          · show OwnQ _ _ _ _
            rw [HE.out, HF1.out]
            exact ownQ_appended HLN.out HOW.out
          · exact (HBL2.out.alloc HSZ.out _).grown HGR.out (by have := HSZ.out; simp; omega) (fun k hk => (HROW.out.lt k hk).1)
        case measure => simp [intOf]; omega
    · have hkI : (m : Int) ≤ k := by omega
      have hke : k = m := by omega
      subst hke
      go_wp2
      go_ret
      refine ⟨q, cq, rfl, ?_, HBL.out⟩
      have h := HO.out
      rw [List.take_of_length_le (by rw [rowsV_length]; have := HM.out; omega)] at h
      exact h
end Go.Proofs.YtildfjlaieaadaaGreat
