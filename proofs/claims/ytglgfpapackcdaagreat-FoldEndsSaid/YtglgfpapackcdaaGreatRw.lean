/- The walk of the document's ends: the places at which what is had may change. -/
import Derived.Test.YtglgfpapackcdaaGreatRv

namespace Go.Proofs.YtglgfpapackcdaaGreat
open Go.RowKit Tnr

def rowsOf (xs : List SV) : List (List R) := xs.map fun x => x.2.2
theorem endsR_append (a b : List R) : endsR (a ++ b) = endsR a ++ endsR b := by simp [endsR]
theorem endsR_snoc (a : List R) (r : R) : endsR (a ++ [r]) = endsR a ++ endsOf r := by rw [endsR_append]; simp [endsR]
theorem endsOf_le (r : R) : (endsOf r).length ≤ 2 := by
  unfold endsOf
  split
  · simp
  · split <;> simp
theorem endsR_le (l : List R) : (endsR l).length ≤ 2 * l.length := by
  induction l with
  | nil => simp [endsR]
  | cons r l ih =>
    have e : endsR (r :: l) = endsOf r ++ endsR l := by simp [endsR]
    rw [e, List.length_append, List.length_cons]
    have := endsOf_le r
    omega
theorem mem_flat {xs : List SV} {r : R} : r ∈ flat xs ↔ ∃ l ∈ rowsOf xs, r ∈ l := by
  unfold flat rowsOf
  simp only [List.mem_flatMap, List.mem_map]
  constructor
  · rintro ⟨x, h1, h2⟩; exact ⟨_, ⟨x, h1, rfl⟩, h2⟩
  · rintro ⟨l, ⟨x, h1, rfl⟩, h2⟩; exact ⟨x, h1, h2⟩
theorem places_of {xs : List SV} {ts : List Int} (hr : Rising ts) (hm : ∀ u, u ∈ ts ↔ u ∈ 0 :: endsR (flat xs)) : Places (rowsOf xs) ts := by
  refine ⟨hr, fun u => (hm u).trans ?_⟩
  rw [List.mem_cons]
  unfold endsR
  rw [List.mem_flatMap]
  constructor
  · rintro (h | ⟨r, h1, h2⟩)
    · exact .inl h
    · obtain ⟨l, h3, h4⟩ := mem_flat.1 h1
      exact .inr ⟨l, h3, r, h4, h2⟩
  · rintro (h | ⟨l, h3, r, h4, h2⟩)
    · exact .inl h
    · exact .inr ⟨r, mem_flat.2 ⟨l, h3, h4⟩, h2⟩
theorem ownI_new (w : World) (x : Int) : OwnI (w.alloc (.cells #[.int .i64 x] 3)) w.heap.size (.slice (some ⟨w.heap.size, 0, none⟩) 1 1) [x] :=
  World.ownsRow_lit w #[.int .i64 x] 1 (Nat.le_refl _) (by decide) rfl
theorem endsOf_no {r : R} (h : r.1 > r.2 ∨ r.2 < 0 ∨ r.1 > 1114111) : endsOf r = [] := by unfold endsOf; rw [if_pos h]
theorem endsOf_two {r : R} (h : ¬ (r.1 > r.2 ∨ r.2 < 0 ∨ r.1 > 1114111)) (h2 : r.2 < 1114111) : endsOf r = [max r.1 0, r.2 + 1] := by unfold endsOf; rw [if_neg h, if_pos h2]
theorem endsOf_one {r : R} (h : ¬ (r.1 > r.2 ∨ r.2 < 0 ∨ r.1 > 1114111)) (h2 : ¬ r.2 < 1114111) : endsOf r = [max r.1 0] := by unfold endsOf; rw [if_neg h, if_neg h2]

def EndsPost (xs : List SV) (w : World) (e : Ending) (w' : World) : Prop :=
  ∃ q d ts, e = .returned (.slice q ts.length d) ∧ SlI w' q ts ∧ Places (rowsOf xs) ts ∧ Below w.heap.size w w' ∧ ts.length ≤ 100000000

set_option maxHeartbeats 6400000 in
set_option maxRecDepth 100000 in
theorem ends_any (p : Option Addr) (c n : Nat) (xs : List SV) (w : World) (hn : n = xs.length) (hx : SlS w p xs) (hl : (flat xs).length ≤ 10000000) (hnm : n ≤ 100000000) :
    Calls Tryz.prog 126 #[.slice p n c] w (EndsPost xs w) := by
  obtain ⟨i0, hinf, hz0, hz1, hz2⟩ := info_parts info_int
  have HX := Lib.hid hx
  have HL := Lib.hid hl
  have hnI : (n : Int) ≤ 100000000 := by omega
  have HN := Lib.hid hn
  clear hx hl hn hnm
  go_enter Tryz.func126, Tryz.ntmps126
  go_wp2
  go_loopw [3, 4] (fun ov iv wr => ∃ (k : Nat) (q : Option Addr) (no d : Nat) (L : List Int), k ≤ n ∧ ov = .slice q no d ∧ iv = .int .i64 (k : Nat) ∧ Hid (no = L.length) ∧ Hid (L = 0 :: endsR (flat (xs.take k))) ∧ Hid (OwnI wr w.heap.size (.slice q no d) L) ∧ Hid (Below w.heap.size w wr)) (fun _ iv _ => n - (intOf iv).toNat)
  case atStart => exact ⟨0, _, 1, 1, [0], Nat.zero_le _, rfl, rfl, rfl, rfl, ownI_new w 0, bl_alloc _ _⟩
  case round =>
    obtain ⟨k, q, no, d, L, hk, rfl, rfl, HO, HE, HOW, HB⟩ := hrel
    rename World => wr
    by_cases hkn : k < n
    · have hkx : k < xs.length := by have := HN.out; omega
      obtain ⟨bp, op, rfl, _⟩ := sls_at HX.out hkx
      have hkI : (k : Int) < n := by omega
      obtain ⟨pa, ca, la, hga⟩ : ∃ pa ca la, gs xs k = (pa, ca, la) := ⟨_, _, _, rfl⟩
      have HA : Hid (SlR w pa la) := by
        have h := HX.out.1 (gs xs k) (by rw [gs_get hkx]; exact List.getElem_mem hkx)
        rw [hga] at h
        exact h
      have HLA : Hid ((flat (xs.take k)).length + la.length ≤ 10000000) := by
        have h1 := flat_one_le hkx
        rw [hga] at h1
        have h2 := HL.out
        exact Nat.le_trans h1 h2
      have HF : Hid (flat (xs.take (k + 1)) = flat (xs.take k) ++ la) := by
        show flat (xs.take (k + 1)) = _
        rw [take_gs hkx, flat_append, hga]
        simp [flat]
      obtain ⟨m, hm⟩ : ∃ m, m = la.length := ⟨_, rfl⟩
      have HC : Hid (w.cell? ⟨bp, op + k, none⟩ = some (.slice pa m ca)) := by
        obtain ⟨b', o', e', hc'⟩ := sls_at HX.out hkx
        simp only [Option.some.injEq, Addr.mk.injEq, and_true] at e'
        obtain ⟨rfl, rfl⟩ := e'
        rw [hga, ← hm] at hc'
        exact hc'
      have HM := Lib.hid hm
      have hmI : (m : Int) ≤ 100000000 := by have := HLA.out; omega
      clear hga hm hkx
      go_wp2
      go_loopw [3, 5] (fun ov jv wq => ∃ (j : Nat) (q' : Option Addr) (no' d' : Nat) (L' : List Int), j ≤ m ∧ ov = .slice q' no' d' ∧ jv = .int .i64 (j : Nat) ∧ Hid (no' = L'.length) ∧ Hid (L' = 0 :: endsR (flat (xs.take k) ++ la.take j)) ∧ Hid (OwnI wq w.heap.size (.slice q' no' d') L') ∧ Hid (Below w.heap.size w wq)) (fun _ jv _ => m - (intOf jv).toNat)
      case atStart => exact ⟨0, q, no, d, L, Nat.zero_le _, rfl, rfl, HO.out, (by show L = _; rw [HE.out]; simp), HOW.out, HB.out⟩
      case round =>
        clear HO HE HOW HB
        obtain ⟨j, q, no, d, L, hj, rfl, rfl, HO, HE, HOW, HB⟩ := hrel
        rename World => wq
        have hcell : wq.cell? ⟨bp, op + k, none⟩ = some (.slice pa m ca) := by rw [HB.out.cell (World.block_lt_of_cell? w _ HC.out)]; exact HC.out
        by_cases hjm : j < m
        · have hjl : j < la.length := by have := HM.out; omega
          obtain ⟨b, o, rfl, hc1, hc2⟩ := slr_at (HA.out.below HB.out : SlR wq pa la) hjl
          have hjI : (j : Int) < m := by omega
          have HT : Hid (endsR (flat (xs.take k) ++ la.take (j + 1)) = endsR (flat (xs.take k) ++ la.take j) ++ endsOf (gr la j)) := by
            show endsR _ = _
            rw [take_gr hjl, ← List.append_assoc, endsR_snoc]
          have HNL : Hid (no ≤ 20000001) := by
            have h1 := endsR_le (flat (xs.take k) ++ la.take j)
            have h2 := HO.out
            have h3 := HLA.out
            rw [List.length_append, List.length_take] at h1
            rw [HE.out, List.length_cons] at h2
            show no ≤ 20000001
            omega
          obtain ⟨lo, hlo⟩ : ∃ x, x = (gr la j).1 := ⟨_, rfl⟩
          obtain ⟨hi, hhi⟩ : ∃ x, x = (gr la j).2 := ⟨_, rfl⟩
          rw [← hlo] at hc1
          rw [← hhi] at hc2
          have HGR := Lib.hid (show gr la j = (lo, hi) from Prod.ext hlo.symm hhi.symm)
          clear hlo hhi hjl
          by_cases h1 : hi < lo
          ·
            go_wp2
            go_quiet (fail)
            have HOW2 : Hid (OwnI (wq.drewN nq) w.heap.size _ _) := HOW
            have HB2 := Lib.hid (bl_trans HB.out (drewN_below wq nq))
            have hrow := ownI_row HOW2.out HO.out
            have HRO := Lib.hid hrow
            clear hrow HB HOW
            go_wp2
            go_roundw
            case rel => exact ⟨j + 1, q, no, d, L, by omega, rfl, by go_num, HO.out, (by show L = _; rw [HE.out, HT.out, HGR.out, endsOf_no (by simp only; omega), List.append_nil]), HOW2.out, HB2.out⟩
            case measure => simp [intOf]; omega
          · by_cases h2 : hi < 0
            ·
              go_wp2
              go_quiet (fail)
              have HOW2 : Hid (OwnI (wq.drewN nq) w.heap.size _ _) := HOW
              have HB2 := Lib.hid (bl_trans HB.out (drewN_below wq nq))
              have hrow := ownI_row HOW2.out HO.out
              have HRO := Lib.hid hrow
              clear hrow HB HOW
              go_wp2
              go_roundw
              case rel => exact ⟨j + 1, q, no, d, L, by omega, rfl, by go_num, HO.out, (by show L = _; rw [HE.out, HT.out, HGR.out, endsOf_no (by simp only; omega), List.append_nil]), HOW2.out, HB2.out⟩
              case measure => simp [intOf]; omega
            · by_cases h3 : 1114111 < lo
              ·
                go_wp2
                go_quiet (fail)
                have HOW2 : Hid (OwnI (wq.drewN nq) w.heap.size _ _) := HOW
                have HB2 := Lib.hid (bl_trans HB.out (drewN_below wq nq))
                have hrow := ownI_row HOW2.out HO.out
                have HRO := Lib.hid hrow
                clear hrow HB HOW
                go_wp2
                go_roundw
                case rel => exact ⟨j + 1, q, no, d, L, by omega, rfl, by go_num, HO.out, (by show L = _; rw [HE.out, HT.out, HGR.out, endsOf_no (by simp only; omega), List.append_nil]), HOW2.out, HB2.out⟩
                case measure => simp [intOf]; omega
              · by_cases h4 : hi < 1114111
                ·
                  go_wp2
                  go_quiet (fail)
                  have HOW2 : Hid (OwnI (wq.drewN nq) w.heap.size _ _) := HOW
                  have HB2 := Lib.hid (bl_trans HB.out (drewN_below wq nq))
                  have hrow := ownI_row HOW2.out HO.out
                  have HRO := Lib.hid hrow
                  clear hrow HB HOW
                  go_wp2_with (at_builtin; refine wpList_append_own _ rfl _ _ 22 rfl w.heap.size 3 i0 (.int .i64 0) 1 8 Tryz.underlying22 hinf hz0 hz1 hz2 rfl (by decide) (.slice q no d) no _ rfl (HRO.out.alloc _) ⟨wq.heap.size, 0, none⟩ 1 1 [.int .i64 (max lo 0)] rfl rfl (cells_one_new _ _ _) (by simp [Value.oneCell']) (by have := HNL.out;  simp only [maxLen]; omega) (by have := HNL.out;  omega) (by have : w.heap.size ≤ wq.heap.size := HB2.out.size; simp; omega) ?_)
                  intro v5 w5 hown5 hgrow5 _
                  have hO5 : OwnI w5 w.heap.size v5 (L ++ [(max lo 0)]) := ownI_appended HO.out.symm hown5
                  have hb5 : Below w.heap.size w w5 := (HB2.out.alloc HB2.out.size _).grown hgrow5 (by have : w.heap.size ≤ wq.heap.size := HB2.out.size; simp; omega) (fun k hk => (HRO.out.lt k hk).1)
                  obtain ⟨q5, d5, n5, HK5, rfl, HO5⟩ := ownI_open hO5
                  have HB5 := Lib.hid hb5
                  have HN5 : Hid (n5 = no + 1) := by show n5 = _; rw [HK5.out, List.length_append, ← HO.out]; rfl
                  have hrow5 := ownI_row HO5.out HK5.out
                  have HRO5 := Lib.hid hrow5
                  clear hown5 hgrow5 hO5 hb5 hrow5
                  generalize hL5 : L ++ [max lo 0] = L5 at *
                  have HL5 := Lib.hid hL5.symm
                  clear hL5
                  go_wp2_with (at_builtin; refine wpList_append_own _ rfl _ _ 22 rfl w.heap.size 3 i0 (.int .i64 0) 1 8 Tryz.underlying22 hinf hz0 hz1 hz2 rfl (by decide) (.slice q5 n5 d5) n5 _ rfl (HRO5.out.alloc _) ⟨w5.heap.size, 0, none⟩ 1 1 [.int .i64 (hi + 1)] rfl rfl (cells_one_new _ _ _) (by simp [Value.oneCell']) (by have := HNL.out; have := HN5.out; simp only [maxLen]; omega) (by have := HNL.out; have := HN5.out; omega) (by have : w.heap.size ≤ w5.heap.size := HB5.out.size; simp; omega) ?_)
                  intro v6 w6 hown6 hgrow6 _
                  have hO6 : OwnI w6 w.heap.size v6 (L5 ++ [(hi + 1)]) := ownI_appended HK5.out.symm hown6
                  have hb6 : Below w.heap.size w w6 := (HB5.out.alloc HB5.out.size _).grown hgrow6 (by have : w.heap.size ≤ w5.heap.size := HB5.out.size; simp; omega) (fun k hk => (HRO5.out.lt k hk).1)
                  obtain ⟨q6, d6, n6, HK6, rfl, HO6⟩ := ownI_open hO6
                  have HB6 := Lib.hid hb6
                  have HN6 : Hid (n6 = n5 + 1) := by show n6 = _; rw [HK6.out, List.length_append, ← HK5.out]; rfl
                  have hrow6 := ownI_row HO6.out HK6.out
                  have HRO6 := Lib.hid hrow6
                  clear hown6 hgrow6 hO6 hb6 hrow6
                  go_wp2
                  go_roundw
                  case rel => exact ⟨j + 1, q6, n6, d6, _, by omega, rfl, by go_num, HK6.out, (by show _ = _; rw [HT.out, HGR.out, endsOf_two (by simp only; omega) (by simp only; omega), HL5.out, HE.out]; simp), HO6.out, HB6.out⟩
                  case measure => simp [intOf]; omega
                ·
                  go_wp2
                  go_quiet (fail)
                  have HOW2 : Hid (OwnI (wq.drewN nq) w.heap.size _ _) := HOW
                  have HB2 := Lib.hid (bl_trans HB.out (drewN_below wq nq))
                  have hrow := ownI_row HOW2.out HO.out
                  have HRO := Lib.hid hrow
                  clear hrow HB HOW
                  go_wp2_with (at_builtin; refine wpList_append_own _ rfl _ _ 22 rfl w.heap.size 3 i0 (.int .i64 0) 1 8 Tryz.underlying22 hinf hz0 hz1 hz2 rfl (by decide) (.slice q no d) no _ rfl (HRO.out.alloc _) ⟨wq.heap.size, 0, none⟩ 1 1 [.int .i64 (max lo 0)] rfl rfl (cells_one_new _ _ _) (by simp [Value.oneCell']) (by have := HNL.out;  simp only [maxLen]; omega) (by have := HNL.out;  omega) (by have : w.heap.size ≤ wq.heap.size := HB2.out.size; simp; omega) ?_)
                  intro v5 w5 hown5 hgrow5 _
                  have hO5 : OwnI w5 w.heap.size v5 (L ++ [(max lo 0)]) := ownI_appended HO.out.symm hown5
                  have hb5 : Below w.heap.size w w5 := (HB2.out.alloc HB2.out.size _).grown hgrow5 (by have : w.heap.size ≤ wq.heap.size := HB2.out.size; simp; omega) (fun k hk => (HRO.out.lt k hk).1)
                  obtain ⟨q5, d5, n5, HK5, rfl, HO5⟩ := ownI_open hO5
                  have HB5 := Lib.hid hb5
                  have HN5 : Hid (n5 = no + 1) := by show n5 = _; rw [HK5.out, List.length_append, ← HO.out]; rfl
                  have hrow5 := ownI_row HO5.out HK5.out
                  have HRO5 := Lib.hid hrow5
                  clear hown5 hgrow5 hO5 hb5 hrow5
                  go_wp2
                  go_roundw
                  case rel => exact ⟨j + 1, q5, n5, d5, _, by omega, rfl, by go_num, HK5.out, (by show _ = _; rw [HT.out, HGR.out, endsOf_one (by simp only; omega) (by simp only; omega), HE.out]; simp), HO5.out, HB5.out⟩
                  case measure => simp [intOf]; omega
        · have hjI : (m : Int) ≤ j := by omega
          go_wp2
          go_roundw
          case rel => exact ⟨k + 1, q, no, d, L, by omega, rfl, by go_num, HO.out, (by show L = _; rw [HE.out, List.take_of_length_le (l := la) (by have := HM.out; omega), HF.out]), HOW.out, HB.out⟩
          case measure => simp [intOf]; omega
    · have hkI : (n : Int) ≤ k := by omega
      have hL : L = 0 :: endsR (flat xs) := by rw [HE.out, List.take_of_length_le (by have := HN.out; omega)]
      have hno : no ≤ 20000001 := by
        have h1 := endsR_le (flat xs)
        have h2 := HO.out
        have h3 := HL.out
        rw [hL, List.length_cons] at h2
        omega
      obtain ⟨p', c', e', hc1, hc2, _⟩ := ownI_form HOW.out
      simp only [Value.slice.injEq] at e'
      obtain ⟨rfl, hno2, rfl⟩ := e'
      have HS := Lib.hid (sorted_any no no q d L wr (Nat.le_refl _) HO.out (ownI_sl HOW.out HO.out) (by omega) (by omega) hc2)
      have HLL := Lib.hid hL
      have HNO := Lib.hid hno
      clear hL hno hc1 hc2 hno2
      go_wp2_with (go_at_call 153; refine HS.out.mono ?_; rintro e w5 ⟨q5, d5, ts5, rfl, hs5, hr5, hm5, hb5, hl5, _, _⟩; have HS5 := Lib.hid hs5; have HR5 := Lib.hid hr5; have HM5 := Lib.hid hm5; have HB5 := Lib.hid hb5; have HL5 := Lib.hid hl5; clear hs5 hr5 hm5 hb5 hl5)
      go_ret
      exact ⟨q5, d5, ts5, rfl, HS5.out, places_of HR5.out (fun u => by rw [HM5.out u, HLL.out]), bl_trans HB.out HB5.out, by have h1 := HL5.out; have h2 := HNO.out; have h3 := HO.out; omega⟩
end Go.Proofs.YtglgfpapackcdaaGreat
