/- The walk of the document's cuts: where something begins or ends. -/
import Derived.Test.YtildfjlaieaadaaGreatUb

namespace Go.Proofs.YtildfjlaieaadaaGreat
open Go.RowKit Tnr

theorem OwnI.of {w : World} {B no d : Nat} {q : Option Addr} {L : List Int} (h : w.ownsRow B 3 1 (.slice q no d) no (L.map (Value.int .i64))) (hn : no = L.length) : OwnI w B (.slice q no d) L := by
  subst hn; exact h

/-- n numbers from a on. -/
def run (a : Int) (n : Nat) : List Int := (List.range n).map fun (t : Nat) => a + (t : Int)
theorem run_snoc (a : Int) (n : Nat) : run a (n + 1) = run a n ++ [a + (n : Int)] := by unfold run; rw [List.range_succ, List.map_append]; rfl
theorem run_length (a : Int) (n : Nat) : (run a n).length = n := by simp [run]
theorem mem_run {a c : Int} {n : Nat} : c ∈ run a n ↔ a ≤ c ∧ c < a + n := by
  unfold run
  rw [List.mem_map]
  constructor
  · rintro ⟨t, h, rfl⟩
    have := List.mem_range.1 h; omega
  · rintro ⟨h1, h2⟩
    exact ⟨(c - a).toNat, List.mem_range.2 (by omega), by omega⟩
theorem run_up (a : Int) (n : Nat) : (run a n).Pairwise (· < ·) := by
  unfold run
  rw [List.pairwise_map]
  exact (List.pairwise_lt_range (n := n)).imp (fun {x y} h => by omega)
/-- the numbers of ranges, one by one. -/
def spell (l : List R) : List Int := l.flatMap fun r => run r.1 (r.2 + 1 - r.1).toNat
theorem spell_append (a b : List R) : spell (a ++ b) = spell a ++ spell b := by simp [spell]
theorem spell_snoc (a : List R) (r : R) : spell (a ++ [r]) = spell a ++ run r.1 (r.2 + 1 - r.1).toNat := by rw [spell_append]; simp [spell]
theorem spell_cons (r : R) (l : List R) : spell (r :: l) = run r.1 (r.2 + 1 - r.1).toNat ++ spell l := by simp [spell]
theorem mem_spell {l : List R} {c : Int} : c ∈ spell l ↔ Cov l c := by
  unfold spell Cov
  rw [List.mem_flatMap]
  constructor
  · rintro ⟨r, h, h2⟩
    have := mem_run.1 h2
    exact ⟨r, h, by omega, by omega⟩
  · rintro ⟨r, h, h1, h2⟩
    exact ⟨r, h, mem_run.2 ⟨h1, by omega⟩⟩
theorem spell_up : ∀ {l : List R} {a : Int}, RF a l → (spell l).Pairwise (· < ·) ∧ ∀ c ∈ spell l, a + 1 < c
  | [], a, _ => by simp [spell]
  | r :: l, a, h => by
    obtain ⟨h1, h2, h3, h4⟩ := h
    obtain ⟨h5, h6⟩ := spell_up h4
    rw [spell_cons]
    refine ⟨List.pairwise_append.2 ⟨run_up _ _, h5, ?_⟩, ?_⟩
    · intro x hx y hy
      have := mem_run.1 hx
      have := h6 y hy
      omega
    · intro c hc
      rcases List.mem_append.1 hc with hc | hc
      · have := mem_run.1 hc; omega
      · have := h6 c hc; omega
theorem nodup_sub : ∀ (l m : List Int), l.Nodup → (∀ x ∈ l, x ∈ m) → l.length ≤ m.length
  | [], _, _, _ => Nat.zero_le _
  | x :: l, m, hd, h => by
    have hx := h x (by simp)
    have h1 := List.length_erase_of_mem hx
    have h0 := List.length_pos_of_mem hx
    have hd2 := List.nodup_cons.1 hd
    have h2 := nodup_sub l (m.erase x) hd2.2 fun y hy => by
      have hne : y ≠ x := fun e => hd2.1 (e ▸ hy)
      exact (List.mem_erase_of_ne hne).2 (h y (List.mem_cons_of_mem _ hy))
    rw [List.length_cons]; omega
theorem spell_take (S : List R) (i : Nat) : (spell (S.take i)).length ≤ (spell S).length := by
  have h : spell S = spell (S.take i) ++ spell (S.drop i) := by rw [← spell_append, List.take_append_drop]
  rw [h, List.length_append]; omega
theorem mem_ends {xs : List SV} {c : Int} : c ∈ 0 :: endsR (flat xs) ↔ IsCut (rowsV xs) c := by
  rw [List.mem_cons]
  unfold endsR IsCut
  rw [List.mem_flatMap]
  have hm : ∀ r, r ∈ flat xs ↔ ∃ l ∈ rowsV xs, r ∈ l := fun r => mem_flat
  constructor
  · rintro (h | ⟨r, h1, h2⟩)
    · exact .inl h
    · obtain ⟨l, h3, h4⟩ := (hm r).1 h1
      refine .inr ⟨l, h3, r, h4, ?_⟩
      unfold endsOf at h2
      split at h2
      · simp at h2
      · split at h2
        · simp only [List.mem_cons, List.not_mem_nil, or_false] at h2
          refine ⟨by omega, by omega, by omega, ?_⟩
          rcases h2 with h2 | h2
          · exact .inl h2
          · exact .inr ⟨by omega, h2⟩
        · simp only [List.mem_cons, List.not_mem_nil, or_false] at h2
          exact ⟨by omega, by omega, by omega, .inl h2⟩
  · rintro (h | ⟨l, h3, r, h4, h5, h6, h7, h8⟩)
    · exact .inl h
    · refine .inr ⟨r, (hm r).2 ⟨l, h3, h4⟩, ?_⟩
      unfold endsOf
      rw [if_neg (by omega)]
      rcases h8 with h8 | ⟨h8, h9⟩
      · split <;> simp [h8]
      · rw [if_pos h8]; simp [h9]
theorem cuts_of {xs : List SV} {L : List Int} {S : List R} (hL : L = 0 :: endsR (flat xs)) (hS : S = cn (pts L)) : Cuts (rowsV xs) (spell S) ∧ (spell S).length ≤ L.length := by
  have hr : Rt S := by rw [hS]; exact cn_right _
  have hu := (spell_up hr).1
  have hm : ∀ c, c ∈ spell S ↔ Pt c ∧ IsCut (rowsV xs) c := by
    intro c
    rw [mem_spell, ← hr.has, hS, cn_has, pts_has, hL, mem_ends]
    unfold Pt
    exact and_assoc.symm
  refine ⟨⟨?_, hm⟩, ?_⟩
  · intro i j hij hj
    rw [gq_get (by omega), gq_get hj]
    exact (List.pairwise_iff_getElem.1 hu) i j (by omega) hj hij
  · refine nodup_sub _ _ (hu.imp fun h => by omega) fun x hx => ?_
    rw [hL]; exact mem_ends.2 ((hm x).1 hx).2

def CutsPost (xs : List SV) (w : World) (e : Ending) (w' : World) : Prop :=
  ∃ q d l n, e = .returned (.slice q n d) ∧ n = l.length ∧ OwnQ w' w.heap.size (.slice q n d) l ∧ Cuts (rowsV xs) l ∧ Below w.heap.size w w' ∧ n ≤ 2 * (flat xs).length + 1

set_option maxHeartbeats 6400000 in
set_option maxRecDepth 100000 in
theorem cuts_any (p : Option Addr) (c n : Nat) (xs : List SV) (w : World) (hn : n = xs.length) (hx : SlS w p xs) (hl : (flat xs).length ≤ 1000) (hnm : n ≤ 1000) :
    Calls Tryz.prog 31 #[.slice p n c] w (CutsPost xs w) := by
  obtain ⟨i0, hinf, hz0, hz1, hz2⟩ := info_parts info_int
  have HX := Lib.hid hx
  have hl10 : (flat xs).length ≤ 10000 := by omega
  have HL := Lib.hid hl10
  have HLS := Lib.hid hl
  have hnI : (n : Int) ≤ 100000 := by omega
  have HN := Lib.hid hn
  clear hx hl hn hnm hl10
  go_enter Tryz.func31, Tryz.ntmps31
  go_wp2
  go_loopw [3, 4] (fun ov iv wr => ∃ (k : Nat) (q : Option Addr) (no d : Nat) (L : List Int), k ≤ n ∧ ov = .slice q no d ∧ iv = .int .i64 (k : Nat) ∧ Hid (no = L.length) ∧ Hid (L = 0 :: endsR (flat (xs.take k))) ∧ Hid (OwnI wr w.heap.size (.slice q no d) L) ∧ Hid (Below w.heap.size w wr)) (fun _ iv _ => n - (intOf iv).toNat)
  case atStart => exact ⟨0, _, 1, 1, [0], Nat.zero_le _, rfl, rfl, rfl, rfl, ownI_new w 0, bl_alloc _ _⟩
  case round =>
    obtain ⟨k, q, no, d, L, hk, rfl, rfl, HO, HE, HOW, HB⟩ := hrel
    rename World => wr
    by_cases hkn : k < n
    · have hkx : k < xs.length := by have := HN.out; omega
      obtain ⟨bp, op, rfl, _⟩ := sls_at HX.out hkx
      have hkI : (k : Int) < n := by omega
      obtain ⟨pa, ca, la, hga⟩ : ∃ pa ca la, gs xs k = (pa, ca, la) := ⟨_, _, _, rfl⟩
      have HA : Hid (SlR w pa la) := by
        have h := HX.out.1 (gs xs k) (by rw [gs_get hkx]; exact List.getElem_mem hkx)
        rw [hga] at h
        exact h
      have HLA : Hid ((flat (xs.take k)).length + la.length ≤ 10000) := by
        have h1 := flat_one_le hkx
        rw [hga] at h1
        have h2 := HL.out
        exact Nat.le_trans h1 h2
      have HF : Hid (flat (xs.take (k + 1)) = flat (xs.take k) ++ la) := by
        show flat (xs.take (k + 1)) = _
        rw [take_gs hkx, flat_append, hga]
        simp [flat]
      obtain ⟨m, hm⟩ : ∃ m, m = la.length := ⟨_, rfl⟩
      have HC : Hid (w.cell? ⟨bp, op + k, none⟩ = some (.slice pa m ca)) := by
        obtain ⟨b', o', e', hc'⟩ := sls_at HX.out hkx
        simp only [Option.some.injEq, Addr.mk.injEq, and_true] at e'
        obtain ⟨rfl, rfl⟩ := e'
        rw [hga, ← hm] at hc'
        exact hc'
      have HM := Lib.hid hm
      have hmI : (m : Int) ≤ 100000 := by have := HLA.out; omega
      clear hga hm hkx
      go_wp2
      go_loopw [3, 5] (fun ov jv wq => ∃ (j : Nat) (q' : Option Addr) (no' d' : Nat) (L' : List Int), j ≤ m ∧ ov = .slice q' no' d' ∧ jv = .int .i64 (j : Nat) ∧ Hid (no' = L'.length) ∧ Hid (L' = 0 :: endsR (flat (xs.take k) ++ la.take j)) ∧ Hid (OwnI wq w.heap.size (.slice q' no' d') L') ∧ Hid (Below w.heap.size w wq)) (fun _ jv _ => m - (intOf jv).toNat)
      case atStart => exact ⟨0, q, no, d, L, Nat.zero_le _, rfl, rfl, HO.out, (by show L = _; rw [HE.out]; simp), HOW.out, HB.out⟩
      case round =>
        clear HO HE HOW HB
        obtain ⟨j, q, no, d, L, hj, rfl, rfl, HO, HE, HOW, HB⟩ := hrel
        rename World => wq
        have hcell : wq.cell? ⟨bp, op + k, none⟩ = some (.slice pa m ca) := by rw [HB.out.cell (World.block_lt_of_cell? w _ HC.out)]; exact HC.out
        by_cases hjm : j < m
        · have hjl : j < la.length := by have := HM.out; omega
          obtain ⟨b, o, rfl, hc1, hc2⟩ := slr_at (HA.out.below HB.out : SlR wq pa la) hjl
          have hjI : (j : Int) < m := by omega
          have HT : Hid (endsR (flat (xs.take k) ++ la.take (j + 1)) = endsR (flat (xs.take k) ++ la.take j) ++ endsOf (gr la j)) := by
            show endsR _ = _
            rw [take_gr hjl, ← List.append_assoc, endsR_snoc]
          have HNL : Hid (no ≤ 20001) := by
            have h1 := endsR_le (flat (xs.take k) ++ la.take j)
            have h2 := HO.out
            have h3 := HLA.out
            rw [List.length_append, List.length_take] at h1
            rw [HE.out, List.length_cons] at h2
            show no ≤ 20001
            omega
          obtain ⟨lo, hlo⟩ : ∃ x, x = (gr la j).1 := ⟨_, rfl⟩
          obtain ⟨hi, hhi⟩ : ∃ x, x = (gr la j).2 := ⟨_, rfl⟩
          rw [← hlo] at hc1
          rw [← hhi] at hc2
          have HGR := Lib.hid (show gr la j = (lo, hi) from Prod.ext hlo.symm hhi.symm)
          clear hlo hhi hjl
          have HSX : Hid ((wq.alloc (.cells #[.int .i64 lo, .int .i64 hi] 28)).heap.size = wq.heap.size + 1) := by show _ = _; simp
          have HX1 : Hid ((wq.alloc (.cells #[.int .i64 lo, .int .i64 hi] 28)).cell? ⟨wq.heap.size, 1, none⟩ = some (.int .i64 hi)) := by show _ = _; rw [World.cell?_alloc_at _ _ _ _ rfl]; rfl
          have hrow := (ownI_row HOW.out HO.out).alloc (.cells #[.int .i64 lo, .int .i64 hi] 28)
          have HNE : Hid ((Value.slice q no d).ownBlock ≠ some wq.heap.size) := fun e => by have := ((ownI_row HOW.out HO.out).lt _ e).2; omega
          have HRO := Lib.hid hrow
          have HBX : Hid (Below w.heap.size w (wq.alloc (.cells #[.int .i64 lo, .int .i64 hi] 28))) := bl_trans HB.out (bl_alloc _ _)
          clear hrow
          by_cases h1 : hi < lo
          · have h1' : ¬ lo ≤ hi := by omega
            go_wp2
            go_roundw
            case rel => exact ⟨j + 1, q, no, d, L, by omega, rfl, by go_num, HO.out, (by show L = _; rw [HE.out, HT.out, HGR.out, endsOf_no (by simp only; omega), List.append_nil]), OwnI.of (((ownI_row HOW.out HO.out).alloc (.cells #[.int .i64 lo, .int .i64 hi] 28))) HO.out, bl_trans HB.out (bl_alloc _ _)⟩
            case measure => simp [intOf]; omega
          · have h1' : lo ≤ hi := by omega
            by_cases h3 : 1114111 < lo
            · have h3' : ¬ lo ≤ 1114111 := by omega
              go_wp2
              go_roundw
              case rel => exact ⟨j + 1, q, no, d, L, by omega, rfl, by go_num, HO.out, (by show L = _; rw [HE.out, HT.out, HGR.out, endsOf_no (by simp only; omega), List.append_nil]), OwnI.of (((ownI_row HOW.out HO.out).alloc (.cells #[.int .i64 lo, .int .i64 hi] 28))) HO.out, bl_trans HB.out (bl_alloc _ _)⟩
              case measure => simp [intOf]; omega
            · have h3' : lo ≤ 1114111 := by omega
              by_cases h2 : hi < 0
              · have h2' : ¬ 0 ≤ hi := by omega
                go_wp2
                go_roundw
                case rel => exact ⟨j + 1, q, no, d, L, by omega, rfl, by go_num, HO.out, (by show L = _; rw [HE.out, HT.out, HGR.out, endsOf_no (by simp only; omega), List.append_nil]), OwnI.of (((ownI_row HOW.out HO.out).alloc (.cells #[.int .i64 lo, .int .i64 hi] 28))) HO.out, bl_trans HB.out (bl_alloc _ _)⟩
                case measure => simp [intOf]; omega
              · have h2' : 0 ≤ hi := by omega
                by_cases h4 : hi < 1114111
                ·
                  go_wp2_with (at_builtin; refine wpList_append_own _ rfl _ _ 32 rfl w.heap.size 3 i0 (.int .i64 0) 1 8 Tryz.underlying32 hinf hz0 hz1 hz2 rfl (by decide) (.slice q no d) no _ rfl (HRO.out.alloc _) ⟨wq.heap.size + 1, 0, none⟩ 1 1 [.int .i64 (max lo 0)] rfl rfl (by have h := cells_one_new (wq.alloc (.cells #[.int .i64 lo, .int .i64 hi] 28)) (.int .i64 (max lo 0)) 3; rw [HSX.out] at h; exact h) (by simp [Value.oneCell']) (by have := HNL.out; simp only [maxLen]; omega) (by have := HNL.out; omega) (by have := HBX.out.size; simp; simp at this; omega) ?_)
                  intro v5 w5 hown5 hgrow5 _
                  have hO5 : OwnI w5 w.heap.size v5 (L ++ [(max lo 0)]) := ownI_appended HO.out.symm hown5
                  have hb5 : Below w.heap.size w w5 := (HBX.out.alloc HBX.out.size _).grown hgrow5 (by have := HBX.out.size; simp; simp at this; omega) (fun k hk => (HRO.out.lt k hk).1)
                  have hx1 : w5.cell? ⟨wq.heap.size, 1, none⟩ = some (.int .i64 hi) := (hgrow5.cell_far ⟨wq.heap.size, 1, none⟩ (by show wq.heap.size < _; simp; omega) (Ne.symm HNE.out)).trans (((bl_alloc _ _).cell (World.block_lt_of_cell? _ _ HX1.out)).trans HX1.out)
                  obtain ⟨q5, d5, n5, HK5, rfl, HO5⟩ := ownI_open hO5
                  have HB5 := Lib.hid hb5
                  have HN5 : Hid (n5 = no + 1) := by show n5 = _; rw [HK5.out, List.length_append, ← HO.out]; rfl
                  have hrow5 := ownI_row HO5.out HK5.out
                  have HRO5 := Lib.hid hrow5
                  clear hown5 hgrow5 hO5 hb5 hrow5
                  generalize hL5 : L ++ [max lo 0] = L5 at *
                  have HL5 := Lib.hid hL5.symm
                  clear hL5
                  go_wp2_with (at_builtin; refine wpList_append_own _ rfl _ _ 32 rfl w.heap.size 3 i0 (.int .i64 0) 1 8 Tryz.underlying32 hinf hz0 hz1 hz2 rfl (by decide) (.slice q5 n5 d5) n5 _ rfl (HRO5.out.alloc _) ⟨w5.heap.size, 0, none⟩ 1 1 [.int .i64 (hi + 1)] rfl rfl (cells_one_new _ _ _) (by simp [Value.oneCell']) (by have := HNL.out; have := HN5.out; simp only [maxLen]; omega) (by have := HNL.out; have := HN5.out; omega) (by have := HB5.out.size; simp; omega) ?_)
                  intro v6 w6 hown6 hgrow6 _
                  have hO6 : OwnI w6 w.heap.size v6 (L5 ++ [(hi + 1)]) := ownI_appended HK5.out.symm hown6
                  have hb6 : Below w.heap.size w w6 := (HB5.out.alloc HB5.out.size _).grown hgrow6 (by have : w.heap.size ≤ w5.heap.size := HB5.out.size; simp; omega) (fun k hk => (HRO5.out.lt k hk).1)
                  obtain ⟨q6, d6, n6, HK6, rfl, HO6⟩ := ownI_open hO6
                  have HB6 := Lib.hid hb6
                  clear hown6 hgrow6 hO6 hb6
                  go_wp2
                  go_roundw
                  case rel => exact ⟨j + 1, q6, n6, d6, _, by omega, rfl, by go_num, HK6.out, (by show _ = _; rw [HT.out, HGR.out, endsOf_two (by simp only; omega) (by simp only; omega), HL5.out, HE.out]; simp), HO6.out, HB6.out⟩
                  case measure => simp [intOf]; omega
                · have h4' : 1114111 ≤ hi := by omega
                  go_wp2_with (at_builtin; refine wpList_append_own _ rfl _ _ 32 rfl w.heap.size 3 i0 (.int .i64 0) 1 8 Tryz.underlying32 hinf hz0 hz1 hz2 rfl (by decide) (.slice q no d) no _ rfl (HRO.out.alloc _) ⟨wq.heap.size + 1, 0, none⟩ 1 1 [.int .i64 (max lo 0)] rfl rfl (by have h := cells_one_new (wq.alloc (.cells #[.int .i64 lo, .int .i64 hi] 28)) (.int .i64 (max lo 0)) 3; rw [HSX.out] at h; exact h) (by simp [Value.oneCell']) (by have := HNL.out; simp only [maxLen]; omega) (by have := HNL.out; omega) (by have := HBX.out.size; simp; simp at this; omega) ?_)
                  intro v5 w5 hown5 hgrow5 _
                  have hO5 : OwnI w5 w.heap.size v5 (L ++ [(max lo 0)]) := ownI_appended HO.out.symm hown5
                  have hb5 : Below w.heap.size w w5 := (HBX.out.alloc HBX.out.size _).grown hgrow5 (by have := HBX.out.size; simp; simp at this; omega) (fun k hk => (HRO.out.lt k hk).1)
                  have hx1 : w5.cell? ⟨wq.heap.size, 1, none⟩ = some (.int .i64 hi) := (hgrow5.cell_far ⟨wq.heap.size, 1, none⟩ (by show wq.heap.size < _; simp; omega) (Ne.symm HNE.out)).trans (((bl_alloc _ _).cell (World.block_lt_of_cell? _ _ HX1.out)).trans HX1.out)
                  obtain ⟨q5, d5, n5, HK5, rfl, HO5⟩ := ownI_open hO5
                  have HB5 := Lib.hid hb5
                  have HN5 : Hid (n5 = no + 1) := by show n5 = _; rw [HK5.out, List.length_append, ← HO.out]; rfl
                  have hrow5 := ownI_row HO5.out HK5.out
                  have HRO5 := Lib.hid hrow5
                  clear hown5 hgrow5 hO5 hb5 hrow5
                  generalize hL5 : L ++ [max lo 0] = L5 at *
                  have HL5 := Lib.hid hL5.symm
                  clear hL5
                  go_wp2
                  go_roundw
                  case rel => exact ⟨j + 1, q5, n5, d5, _, by omega, rfl, by go_num, HK5.out, (by show _ = _; rw [HT.out, HGR.out, endsOf_one (by simp only; omega) (by simp only; omega), HL5.out, HE.out]; simp), HO5.out, HB5.out⟩
                  case measure => simp [intOf]; omega
        · have hjI : (m : Int) ≤ j := by omega
          go_wp2
          go_roundw
          case rel => exact ⟨k + 1, q, no, d, L, by omega, rfl, by go_num, HO.out, (by show L = _; rw [HE.out, List.take_of_length_le (l := la) (by have := HM.out; omega), HF.out]), HOW.out, HB.out⟩
          case measure => simp [intOf]; omega
    · have hkI : (n : Int) ≤ k := by omega
      have hL : L = 0 :: endsR (flat xs) := by rw [HE.out, List.take_of_length_le (by have := HN.out; omega)]
      have hno : no ≤ 2 * (flat xs).length + 1 := by
        have h1 := endsR_le (flat xs)
        have h2 := HO.out
        rw [hL, List.length_cons] at h2
        omega
      have hls := HLS.out
      obtain ⟨p', c', e', hc1, hc2, _⟩ := ownI_form HOW.out
      simp only [Value.slice.injEq] at e'
      obtain ⟨rfl, hno2, rfl⟩ := e'
      obtain ⟨S, hS⟩ : ∃ S, S = cn (pts L) := ⟨_, rfl⟩
      obtain ⟨m, hm⟩ : ∃ m, m = S.length := ⟨_, rfl⟩
      have HRT : Hid (Rt S) := by show Rt S; rw [hS]; exact cn_right _
      have hCU := cuts_of hL hS
      have HCU := Lib.hid hCU.1
      have HSL : Hid ((spell S).length ≤ 2 * (flat xs).length + 1) := by have := hCU.2; have := HO.out; show _ ≤ _; omega
      have HS : Hid (Calls Tryz.prog 48 #[.slice q no d] wr fun e w' => ∃ q5 d5, e = .returned (.slice q5 m d5) ∧ SlR w' q5 S ∧ Below wr.heap.size wr w') := by
        refine (rof_any q d no L S wr hS HO.out (ownI_sl HOW.out HO.out) (by have := HO.out; omega)).mono ?_
        rintro e w' ⟨q5, d5, rfl, h1, h2⟩
        obtain ⟨q6, c6, e6, _, _, _, h3, _⟩ := ownR_form h1
        simp only [Value.slice.injEq] at e6
        obtain ⟨rfl, _, rfl⟩ := e6
        exact ⟨_, _, by rw [hm], h3, h2⟩
      have HM := Lib.hid hm
      have HBR := Lib.hid HB.out
      have hmI : (m : Int) ≤ 3000 := by
        have h1 : S.length ≤ L.length := by
          rw [hS]; refine Nat.le_trans (cn_length _) ?_; simp [pts]
        have := HO.out
        omega
      clear hL hno hc1 hc2 hno2 hS hm hCU hls
      go_wp2_with (go_at_call 48; refine HS.out.mono ?_; rintro e w5 ⟨q5, d5, rfl, hs5, hb5⟩; have HSR := Lib.hid hs5; have HB5 := Lib.hid (bl_trans HBR.out hb5); clear hs5 hb5)
      go_loopw [8, 9] (fun ov iv wq => ∃ (i : Nat) (q8 : Option Addr) (no8 d8 : Nat) (O : List Int), i ≤ m ∧ ov = .slice q8 no8 d8 ∧ iv = .int .i64 (i : Nat) ∧ Hid (no8 = O.length) ∧ Hid (O = spell (S.take i)) ∧ Hid (OwnI wq w5.heap.size (.slice q8 no8 d8) O) ∧ Hid (Below w5.heap.size w5 wq)) (fun _ iv _ => m - (intOf iv).toNat)
      case atStart => exact ⟨0, none, 0, 0, [], Nat.zero_le _, rfl, rfl, rfl, rfl, ownQ_nil _ _, Below.refl _ _⟩
      case round =>
        obtain ⟨i, q8, no8, d8, O, hi, rfl, rfl, HO8, HE8, HOW8, HB8⟩ := hrel
        rename World => wq
        by_cases him : i < m
        · have himI : (i : Int) < m := by omega
          have hiS : i < S.length := by have := HM.out; omega
          obtain ⟨b, o, rfl, hc1, hc2⟩ := slr_at (HSR.out.below HB8.out) hiS
          obtain ⟨lo, hlo⟩ : ∃ x, x = (gr S i).1 := ⟨_, rfl⟩
          obtain ⟨hi2, hhi⟩ : ∃ x, x = (gr S i).2 := ⟨_, rfl⟩
          have hmem := rt_mem HRT.out (by omega) (gr S i) (by rw [gr_get hiS]; exact List.getElem_mem _)
          obtain ⟨hr0, hr1, hr2⟩ : 0 ≤ lo ∧ lo ≤ hi2 ∧ hi2 ≤ 1114111 := by rw [hlo, hhi]; exact ⟨hmem.1, by have := hmem.2; omega, by have := hmem.2; omega⟩
          obtain ⟨cnt, hcnt⟩ : ∃ cnt, cnt = (hi2 + 1 - lo).toNat := ⟨_, rfl⟩
          have HCN : Hid (spell (S.take (i + 1)) = spell (S.take i) ++ run lo cnt) := by show _ = _; rw [take_gr hiS, spell_snoc, hcnt, hlo, hhi]
          have HTOT : Hid ((spell (S.take i)).length + cnt ≤ 3000) := by
            have h1 := spell_take S (i + 1)
            have h2 := congrArg List.length HCN.out
            rw [List.length_append, run_length] at h2
            have h3 := HSL.out
            have h4 := HLS.out
            show _ ≤ _; omega
          rw [← hlo] at hc1
          rw [← hhi] at hc2
          have hcI : (cnt : Int) = hi2 + 1 - lo := by omega
          have HC1 : Hid (∀ W : World, Below w5.heap.size w5 W → W.cell? ⟨b, o + i * 2 + 1, none⟩ = some (.int .i64 hi2)) := by
            intro W hW
            obtain ⟨b', o', e', _, h⟩ := slr_at (HSR.out.below hW) hiS
            simp only [Option.some.injEq, Addr.mk.injEq, and_true] at e'
            obtain ⟨rfl, rfl⟩ := e'
            rw [h, hhi]
          clear hmem hlo hhi hcnt hiS
          go_wp2
          go_loopw [8, 10] (fun ov cv wz => ∃ (j : Nat) (q8 : Option Addr) (no8 d8 : Nat) (O : List Int), j ≤ cnt ∧ ov = .slice q8 no8 d8 ∧ cv = .int .i64 (lo + (j : Int)) ∧ Hid (no8 = O.length) ∧ Hid (O = spell (S.take i) ++ run lo j) ∧ Hid (OwnI wz w5.heap.size (.slice q8 no8 d8) O) ∧ Hid (Below w5.heap.size w5 wz)) (fun _ cv _ => (hi2 + 1 - intOf cv).toNat)
          case atStart => exact ⟨0, q8, no8, d8, O, Nat.zero_le _, rfl, by simp only [Value.int.injEq, true_and]; omega, HO8.out, (by show O = _; rw [HE8.out]; simp [run]), HOW8.out, HB8.out⟩
          case round =>
            clear HO8 HE8 HOW8 HB8 hc1 hc2
            obtain ⟨j, q8, no8, d8, O, hj, rfl, rfl, HO8, HE8, HOW8, HB8⟩ := hrel
            rename World => wz
            have hc2 := HC1.out wz HB8.out
            by_cases hjc : j < cnt
            · have hjI : lo + (j : Int) ≤ hi2 := by omega
              have hrow := ownI_row HOW8.out HO8.out
              have HRO := Lib.hid hrow
              have HNL : Hid (no8 ≤ 3000) := by
                have h1 := HO8.out
                rw [HE8.out, List.length_append, run_length] at h1
                have h2 := HTOT.out
                show _ ≤ _; omega
              clear hrow
              go_wp2_with (at_builtin; refine wpList_append_own _ rfl _ _ 32 rfl w5.heap.size 3 i0 (.int .i64 0) 1 8 Tryz.underlying32 hinf hz0 hz1 hz2 rfl (by decide) (.slice q8 no8 d8) no8 _ rfl (HRO.out.alloc _) ⟨wz.heap.size, 0, none⟩ 1 1 [.int .i64 (lo + (j : Int))] rfl rfl (cells_one_new _ _ _) (by simp [Value.oneCell']) (by have := HNL.out; simp only [maxLen]; omega) (by have := HNL.out; omega) (by have := HB8.out.size; simp; omega) ?_)
              intro v6 w6 hown6 hgrow6 _
              have hO6 : OwnI w6 w5.heap.size v6 (O ++ [(lo + (j : Int))]) := ownI_appended HO8.out.symm hown6
              have hb6 : Below w5.heap.size w5 w6 := (HB8.out.alloc HB8.out.size _).grown hgrow6 (by have : w5.heap.size ≤ wz.heap.size := HB8.out.size; simp; omega) (fun k hk => (HRO.out.lt k hk).1)
              obtain ⟨q6, d6, n6, HK6, rfl, HO6⟩ := ownI_open hO6
              have HB6 := Lib.hid hb6
              clear hown6 hgrow6 hO6 hb6
              go_wp2
              go_roundw
              case rel => exact ⟨j + 1, q6, n6, d6, _, by omega, rfl, by simp only [Value.int.injEq, true_and]; omega, HK6.out, (by show _ = _; rw [run_snoc, ← List.append_assoc, ← HE8.out]), HO6.out, HB6.out⟩
              case measure => simp [intOf]; omega
            · have hjI : hi2 < lo + (j : Int) := by omega
              have HJC : Hid (j = cnt) := by show j = cnt; omega
              go_wp2
              go_roundw
              case rel => exact ⟨i + 1, q8, no8, d8, O, by omega, rfl, by go_num, HO8.out, (by show O = _; rw [HE8.out, HJC.out, HCN.out]), HOW8.out, HB8.out⟩
              case measure => simp [intOf]; omega
        · have himI : (m : Int) ≤ i := by omega
          have hOS : O = spell S := by rw [HE8.out, List.take_of_length_le (by have := HM.out; omega)]
          have HOS := Lib.hid hOS
          clear hOS
          go_wp2
          go_ret
          have hO := HOS.out
          subst hO
          exact ⟨q8, d8, _, no8, rfl, HO8.out, ownQ_down HOW8.out HB5.out.size, HCU.out, bl_trans HB5.out HB8.out, by have := HO8.out; have := HSL.out; omega⟩
end Go.Proofs.YtildfjlaieaadaaGreat
