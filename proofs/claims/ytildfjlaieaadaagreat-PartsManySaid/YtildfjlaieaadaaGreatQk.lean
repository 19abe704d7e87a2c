/- The walk of sets: the classes as sets. -/
import Derived.Test.YtildfjlaieaadaaGreatQj
import Derived.Test.YtildfjlaieaadaaGreatFk

namespace Go.Proofs.YtildfjlaieaadaaGreat
open Go.RowKit Tnr

theorem nm_split : ∀ {l : List Nat} {n0 k m : Nat} {t : List Nat}, Nm n0 (l ++ k :: t) m → ∃ n, Nm n0 l n ∧ k ≤ n
  | [], n0, k, m, t, h => ⟨n0, rfl, h.1⟩
  | a :: l, n0, k, m, t, h => by
    obtain ⟨n, h1, h2⟩ := nm_split h.2
    exact ⟨n, ⟨h.1, h1⟩, h2⟩
theorem nm_one : ∀ {l : List Nat} {n0 a b : Nat}, Nm n0 l a → Nm n0 l b → a = b
  | [], _, _, _, h, k => (show _ = _ from h).symm.trans k
  | _ :: _, _, _, _, h, k => nm_one h.2 k.2
theorem nm_part : ∀ {l : List Nat} {n0 m : Nat} {t : List Nat}, Nm n0 (l ++ t) m → ∃ k, Nm n0 l k ∧ k ≤ m
  | [], n0, m, t, h => ⟨n0, rfl, nm_le h⟩
  | a :: l, n0, m, t, h => by
    obtain ⟨n, h1, h2⟩ := nm_part h.2
    exact ⟨n, ⟨h.1, h1⟩, h2⟩
theorem row_is {w : World} {B n g co : Nat} {xs : List Value} (h : w.ownsRow B 29 1 (.slice (some ⟨g, 0, none⟩) n co) n xs) : ∃ c fz, w.heap[g]? = some (.cells c 29 fz) := by
  rcases h.2 with ⟨h', _⟩ | ⟨g', cap, cur, e, _, hh, _⟩
  · simp at h'
  · simp only [Value.slice.injEq, Option.some.injEq, Addr.mk.injEq, and_true, true_and] at e
    obtain ⟨rfl, rfl⟩ := e
    exact ⟨_, _, hh⟩
theorem rng_snd : ∀ ps : List (Int × Nat), (rng ps).map Prod.snd = ps.map Prod.snd
  | [] => rfl
  | p :: l => by rw [rng, List.map_cons, rng_snd l, List.map_cons]
theorem rng_at : ∀ (ps : List (Int × Nat)) (j : Nat) (h : j < ps.length), (rng ps)[j]? = some ((ps[j].1, ends (ps.drop j)), ps[j].2)
  | [], j, h => by simp at h
  | p :: l, 0, h => rfl
  | p :: l, j + 1, h => by
    have := rng_at l j (by simpa using h)
    simp only [rng, List.getElem?_cons_succ, List.getElem_cons_succ, List.drop_succ_cons]
    exact this
/-- the rows of the first pieces. -/
def rowsJ (ps : List (Int × Nat)) (j n : Nat) : List (List R) := (List.range n).map (rowOf ((rng ps).take j))
theorem rowsJ_length (ps : List (Int × Nat)) (j n : Nat) : (rowsJ ps j n).length = n := by simp [rowsJ]
theorem rowsJ_gl (ps : List (Int × Nat)) (j : Nat) {n i : Nat} (h : i < n) : gl (rowsJ ps j n) i = rowOf ((rng ps).take j) i := by
  rw [gl_get (by rw [rowsJ_length]; exact h)]
  simp [rowsJ]
theorem rowsJ_row (ps : List (Int × Nat)) (j : Nat) {n i : Nat} (h : i < n) : (gl (rowsJ ps j n) i).length ≤ ps.length := by
  rw [rowsJ_gl ps j h]
  refine Nat.le_trans (rowOf_length _ _) ?_
  rw [List.length_take, rng_length]; omega
theorem rowsJ_more (ps : List (Int × Nat)) (j n : Nat) (h : Nm 0 ((ps.map Prod.snd).take j) n) : rowsJ ps j (n + 1) = rowsJ ps j n ++ [[]] := by
  unfold rowsJ
  rw [List.range_succ, List.map_append]
  congr 1
  simp only [List.map_cons, List.map_nil]
  congr 1
  unfold rowOf
  rw [List.map_eq_nil_iff, List.filter_eq_nil_iff]
  intro x hx e
  have e' : x.2 = n := by simpa using e
  have : x.2 ∈ (ps.map Prod.snd).take j := by
    rw [← rng_snd, ← List.map_take]
    exact List.mem_map_of_mem hx
  have := nm_lt h _ this
  omega
theorem rowsJ_set (ps : List (Int × Nat)) (j n num : Nat) (x y : Int) (_hj : j < ps.length) (e : (rng ps)[j]? = some ((x, y), num)) (hn : num < n) : (rowsJ ps j n).set num (gl (rowsJ ps j n) num ++ [(x, y)]) = rowsJ ps (j + 1) n := by
  apply List.ext_getElem
  · simp [rowsJ]
  · intro i h1 h2
    have hi : i < n := by rw [rowsJ_length] at h2; exact h2
    have ht : (rng ps).take (j + 1) = (rng ps).take j ++ [((x, y), num)] := by
      rw [List.take_add_one, e]; rfl
    rw [List.getElem_set]
    have e2 : (rowsJ ps (j + 1) n)[i] = rowOf ((rng ps).take (j + 1)) i := by simp [rowsJ]
    rw [e2, ht, rowOf_snoc]
    by_cases h : num = i
    · subst h
      rw [if_pos rfl, if_pos rfl, rowsJ_gl ps j hn]
    · rw [if_neg h, if_neg h]
      simp [rowsJ]
theorem rowsJ_all (ps : List (Int × Nat)) (n : Nat) : rowsJ ps ps.length n = setsOf ps n := by
  unfold rowsJ setsOf
  rw [List.take_of_length_le (by rw [rng_length]; exact Nat.le_refl _)]
theorem info_rows : (Tryz.prog.info? 29).map (fun i => (i.zero, i.size, i.bytes)) = some (some (.slice none 0 0), 1, 24) := by kernel_rfl

/-- where the walk of sets stands. -/
structure SI (w wr : World) (B : Nat) (ps : List (Int × Nat)) (v u out : Value) (vs : List Value) (j n : Nat) : Prop where
  nm : Nm 0 ((ps.map Prod.snd).take j) n
  rows : RowsIn wr B out vs (rowsJ ps j n)
  low : Below B w wr
  box : Box2 wr B 37 v u

set_option maxHeartbeats 3200000 in
set_option maxRecDepth 100000 in
theorem sets_any (v : Value) (S : List (List R)) (ps : List (Int × Nat)) (nn : Nat) (w : World) (hg : Tnr.Good S ps nn) (hv : ClsAt w v ps) (hl : ps.length ≤ 30000) :
    Calls Tryz.prog 10 #[v] w fun e w' => ∃ po co vs, e = .returned (.slice po nn co) ∧ RowsIn w' w.heap.size (.slice po nn co) vs (setsOf ps nn) ∧ Below w.heap.size w w' := by
  obtain ⟨i0, hinf, hz0, hz1, hz2⟩ := info_parts info_range
  obtain ⟨i1, ginf, gz0, gz1, gz2⟩ := info_parts info_rows
  obtain ⟨p, c, q, d, rfl, hp, hq⟩ := hv
  obtain ⟨N, hN⟩ : ∃ N, N = ps.length := ⟨_, rfl⟩
  rw [← hN] at hl ⊢
  have HN := Lib.hid hN
  have HP := Lib.hid hp
  have HQ := Lib.hid hq
  have HG := Lib.hid hg
  have hNI : (N : Int) ≤ 30000 := by omega
  have HNL := Lib.hid hl
  obtain ⟨B, hB⟩ : ∃ B, B = w.heap.size := ⟨_, rfl⟩
  have HB := Lib.hid hB
  have HB0 : Hid (Box2 (w.alloc (.cells #[.slice p N c, .slice q N d] 37)) B 37 (.slice p N c) (.slice q N d)) := by rw [hB]; exact Box2.new _ _ _ _
  have hB0 := HB0.out
  have b00 := hB0.cell0
  have b01 := hB0.cell1
  clear hN hp hq hg hl hB hB0
  go_enter Tryz.func10, Tryz.ntmps10
  go_wp2
  rw [← HB.out]
  go_loopw [3, 9] (fun ov iv wr => ∃ (j n : Nat) (po : Option Addr) (co : Nat) (vs : List Value), j ≤ N ∧ iv = .int .i64 (j : Nat) ∧ ov = .slice po n co ∧ Hid (SI w wr B ps (.slice p N c) (.slice q N d) (.slice po n co) vs j n)) (fun _ iv _ => N - (intOf iv).toNat)
  case atStart => exact ⟨0, 0, none, 0, [], Nat.zero_le _, rfl, rfl, ⟨rfl, RowsIn.nil _ _, by rw [HB.out]; exact bl_alloc _ _, HB0.out⟩⟩
  case round =>
    obtain ⟨j, n, po, co, vs, hj, rfl, rfl, HI⟩ := hrel
    rename World => wr
    clear b00 b01
    by_cases hjN : j < N
    · have hjI : (j : Int) < N := by omega
      have hjl : j < ps.length := by have := HN.out; omega
      obtain ⟨x, num, hxn⟩ : ∃ x num, ps[j] = (x, num) := ⟨_, _, rfl⟩
      obtain ⟨y, hy⟩ : ∃ y, y = ends (ps.drop j) := ⟨_, rfl⟩
      have HRNG : Hid ((rng ps)[j]? = some ((x, y), num)) := by show _ = _; rw [rng_at ps j hjl, hxn, hy]
      have HY : Hid (endQ (ps.map Prod.fst) j = y) := by show _ = _; rw [endQ_ends hjl, hy]
      have hb1 := HI.out.box.cell1
      have hlow : Below w.heap.size w wr := by rw [← HB.out]; exact HI.out.low
      obtain ⟨bq, oq, rfl, hcq⟩ := slq_at (HQ.out.below hlow) (show j < (ps.map fun x => (x.2 : Int)).length by simpa using hjl)
      obtain ⟨bp, op, rfl, hcp⟩ := slq_at (HP.out.below hlow) (show j < (ps.map Prod.fst).length by simpa using hjl)
      rw [gq_get (by simpa using hjl), List.getElem_map, hxn] at hcq hcp
      simp only at hcq hcp
      have HNS : Hid (∃ k, Nm 0 ((ps.map Prod.snd).take j) k ∧ num ≤ k) := by
        have h := HG.out.nm
        have e : ps.map Prod.snd = (ps.map Prod.snd).take j ++ num :: (ps.map Prod.snd).drop (j + 1) := by
          have h1 : j < (ps.map Prod.snd).length := by simpa using hjl
          have h2 := List.drop_eq_getElem_cons h1
          rw [List.getElem_map, hxn] at h2
          rw [← h2, List.take_append_drop]
        rw [e] at h
        exact nm_split h
      have HNEXT : Hid (∀ m, Nm 0 ((ps.map Prod.snd).take j) m → num ≤ m → Nm 0 ((ps.map Prod.snd).take (j + 1)) (if num = m then m + 1 else m)) := by
        intro m h1 h2
        have h3 : j < (ps.map Prod.snd).length := by simpa using hjl
        rw [List.take_add_one, List.getElem?_eq_getElem h3, List.getElem_map, hxn]
        exact nm_snoc h1 h2
      have hnum : num ≤ n := by
        obtain ⟨k, h1, h2⟩ := HNS.out
        have := nm_one h1 HI.out.nm
        omega
      have HJL := Lib.hid hjl
      have HCP := Lib.hid hcp
      have HLP : Hid (bp < B) := by
        obtain ⟨b2, o2, e2, hc2⟩ := slq_at HP.out (show j < (ps.map Prod.fst).length by simpa using hjl)
        simp only [Option.some.injEq, Addr.mk.injEq, and_true] at e2
        obtain ⟨rfl, rfl⟩ := e2
        have := World.block_lt_of_cell? w _ hc2
        show _ < _
        rw [HB.out]; exact this
      have hn60 : n ≤ 60 := by
        have h1 := nm_one (l := (ps.map Prod.snd).take j) HI.out.nm (Classical.choose_spec HNS.out).1
        have h2 := HG.out.nm
        have h3 := HG.out.few
        have e : ps.map Prod.snd = (ps.map Prod.snd).take j ++ (ps.map Prod.snd).drop j := (List.take_append_drop _ _).symm
        rw [e] at h2
        have h4 := nm_part h2
        obtain ⟨k, h5, h6⟩ := h4
        have h7 := nm_one HI.out.nm h5
        omega
      clear hxn hy hlow HNS hcp hjl
      by_cases hnn : num = n
      · subst hnn
        have hq0 : ((num : Int) == (num : Int)) = true := by simp
        have hnI : (num : Int) ≤ 60 := by omega
        have HOUT := Lib.hid HI.out.rows.out
        have HLEN : Hid (vs.length = num) := by have h := HI.out.rows.len; rw [rowsJ_length] at h; exact h
        have hout2 : wr.ownsRow B 29 1 (.slice po num co) num vs := by have h := HOUT.out; rw [HLEN.out] at h; exact h
        have HO2 := Lib.hid hout2
        have HBS : Hid (B ≤ wr.heap.size) := by have := HI.out.box.lt; show _ ≤ _; omega
        have HNB : Hid ((Value.slice po num co).ownBlock ≠ some B) := by
          intro e
          rcases hout2.2 with ⟨h', _⟩ | ⟨g', cap, cur, e1, _, hh, _⟩
          · rw [h'] at e; simp [Value.ownBlock] at e
          · rw [e1] at e
            simp only [Value.ownBlock, Option.some.injEq] at e
            subst e
            rw [show wr.heap[g']? = _ from HI.out.box] at hh
            simp only [Option.some.injEq, Obj.cells.injEq] at hh
            exact absurd hh.2.1 (by decide)
        clear hout2
        have hr0 := HBS.out
        go_wp2_with (at_builtin; refine wpList_append_lies _ rfl _ _ 22 rfl B 29 i1 (.slice none 0 0) 1 24 Tryz.underlying22 ginf gz0 gz1 gz2 rfl (by decide) (.slice po num co) num _ rfl (HO2.out.alloc _) ⟨wr.heap.size, 0, none⟩ 1 1 [.slice none 0 0] rfl rfl (cells_one_q _ _ _) (by simp [Value.oneCell']) (by omega) (by simp only [maxLen]; omega) (by omega) (by have := HBS.out; simp; omega) (wr.heap.size + 1) (by simp) ?_; intro g co2 w1 hown1 hgrow1 hat1 hlt1; have HOW := Lib.hid hown1; have HGR := Lib.hid hgrow1; clear hown1 hgrow1 hat1 hlt1)
        have hM := HI.out.rows.more (rowsJ_length ps j num).symm HOW.out HGR.out HBS.out
        have HR : Hid (RowsIn w1 B (.slice (some ⟨g, 0, none⟩) (num + 1) co2) (vs ++ [.slice none 0 0]) (rowsJ ps j (num + 1))) := by
          show RowsIn _ _ _ _ _
          rw [rowsJ_more ps j num HI.out.nm]; exact hM.1
        have HBX : Hid (Box2 w1 B 37 (.slice (some ⟨bp, op, none⟩) N c) (.slice (some ⟨bq, oq, none⟩) N d)) := HI.out.box.at (hM.2.1 B HI.out.box.lt (Ne.symm HNB.out))
        have HLOW : Hid (Below B w w1) := hM.2.2 w HI.out.low
        have HCP1 : Hid (w1.cell? ⟨bp, op + j, none⟩ = some (.int .i64 x)) := by
          show _ = _
          rw [← HCP.out]
          refine World.cell?_of_block (hM.2.1 bp (World.block_lt_of_cell? wr _ HCP.out) fun e => ?_)
          have := (HO2.out.lt bp e.symm).1
          have := HLP.out
          omega
        have HNM : Hid (Nm 0 ((ps.map Prod.snd).take (j + 1)) (num + 1)) := by
          have h := HNEXT.out num HI.out.nm (Nat.le_refl _)
          rw [if_pos rfl] at h; exact h
        clear hM
        obtain ⟨vs1, hvs⟩ : ∃ vs1, vs1 = vs ++ [.slice none 0 0] := ⟨_, rfl⟩
        rw [← hvs] at HR
        obtain ⟨m, hm⟩ : ∃ m, m = num + 1 := ⟨_, rfl⟩
        rw [← hm] at HR HNM ⊢
        have hnm : num < m := by omega
        have hnmI : (num : Int) < m := by omega
        have hmI : m ≤ 61 := by omega
        clear hvs hm hb1 hcq hr0 hq0
        have b00 := HBX.out.cell0
        obtain ⟨vi, hvi⟩ : ∃ vi, vi = gv vs1 num := ⟨_, rfl⟩
        have hnl : num < (rowsJ ps j m).length := by rw [rowsJ_length]; exact hnm
        have hvl : vs1.length = m := by have h := HR.out.len; rw [rowsJ_length] at h; exact h
        have hOUT : w1.ownsRow B 29 1 (.slice (some ⟨g, 0, none⟩) m co2) m vs1 := by have h := HR.out.out; rw [hvl] at h; exact h
        have HOUT := Lib.hid hOUT
        have hcg : w1.cell? ⟨g, num, none⟩ = some vi := by rw [hOUT.cellAt num (by omega), List.getElem?_eq_getElem (by omega), hvi, gv_get (by omega)]
        obtain ⟨li, hli⟩ : ∃ li, li = (gl (rowsJ ps j m) num).length := ⟨_, rfl⟩
        have hlib : li ≤ 30000 := by have h := rowsJ_row ps j (n := m) (i := num) hnm; have := HN.out; have := HNL.out; omega
        have hov := HR.out.own num hnl
        rw [← hvi] at hov
        obtain ⟨pi, ci, hve, _, _, _, _, _⟩ := ownR_form hov
        rw [← hli] at hve
        have hrow := hov
        unfold OwnR at hrow
        rw [← hli] at hrow
        have HROW := Lib.hid hrow
        have HLI := Lib.hid hli
        have HVI := Lib.hid hvi
        have HNL2 := Lib.hid hnl
        have hBs : B ≤ w1.heap.size := by have := HBX.out.lt; omega
        have HBS := Lib.hid hBs
        have HNG : Hid (vi.ownBlock ≠ some g) := fun e => ownR_cells hrow e (row_nr hOUT)
        have HNB2 : Hid (vi.ownBlock ≠ some B) := fun e => ownR_cells hrow e (nr_of (show w1.heap[B]? = _ from HBX.out) (by decide))
        have HNP : Hid (vi.ownBlock ≠ some bp) := by
          intro e
          have := (hrow.lt bp e).1
          have := HLP.out
          omega
        have HGB : Hid (g ≠ B) := by
          intro e
          have h := row_is hOUT
          obtain ⟨cc, fz, h⟩ := h
          rw [e, show w1.heap[B]? = _ from HBX.out] at h
          simp only [Option.some.injEq, Obj.cells.injEq] at h
          exact absurd h.2.1 (by decide)
        have hlg : g < w1.heap.size := (hOUT.lt g rfl).2
        have hlp : bp < w1.heap.size := World.block_lt_of_cell? w1 _ HCP1.out
        have hcp := HCP1.out
        have hliI : (li : Int) ≤ 30000 := by omega
        have HLA : Hid (Calls Tryz.prog 30 #[.slice (some ⟨bp, op, none⟩) N c, .int .i64 (j : Nat)] w1.drew fun e w' => e = .returned (.int .i64 y) ∧ w1.drew = w') := by
          have h := last_any (some ⟨bp, op, none⟩) c N j (ps.map Prod.fst) w1.drew (by rw [List.length_map]; exact HN.out) ((HP.out.below (by have h := HLOW.out; rw [HB.out] at h; exact h)).below (bl_drew _)) hjN (by omega) (good_inQ HG.out)
          rw [HY.out] at h; exact h
        have q00 := ((bl_alloc w1 (.cells #[.int .i64 x, .int .i64 y] 28)).cell (World.block_lt_of_cell? w1 _ b00)).trans b00
        have qcg := ((bl_alloc w1 (.cells #[.int .i64 x, .int .i64 y] 28)).cell (World.block_lt_of_cell? w1 _ hcg)).trans hcg
        have qcp := ((bl_alloc w1 (.cells #[.int .i64 x, .int .i64 y] 28)).cell (World.block_lt_of_cell? w1 _ hcp)).trans hcp
        subst hve
        clear hvi hli hov hrow hOUT hvl
        refine wp_region_K (S := fun (W : World) => W.cell? ⟨B, 0, none⟩ = some (.slice (some ⟨bp, op, none⟩) N c) ∧ W.cell? ⟨g, num, none⟩ = some (.slice pi li ci) ∧ W.cell? ⟨bp, op + j, none⟩ = some (.int .i64 x)) 19 (by kernel_rfl) ?_
        have hHeld : (fun (W : World) => W.cell? ⟨B, 0, none⟩ = some (.slice (some ⟨bp, op, none⟩) N c) ∧ W.cell? ⟨g, num, none⟩ = some (.slice pi li ci) ∧ W.cell? ⟨bp, op + j, none⟩ = some (.int .i64 x)) w1.drew := ⟨b00, hcg, hcp⟩
        refine anyK_take (i := 0) (oi := { dst := some 21, op := Op.move (Operand.tmp 3), type := 22, pos := "pieces.go:107", after := #[], guard := none }) (u := ?_) rfl (by kernel_rfl) (fun _ _ _ h => h) (Or.inl ⟨by kernel_rfl, ?_⟩) hHeld ?_
        rotate_left
        focus (intro w hSw; (try dsimp only at hSw); go_simp; try with_reducible rfl)
        try simp only [Act.put, List.setIfInBounds_toArray, List.set_cons_zero, List.set_cons_succ]
        refine anyK_take (i := 1) (oi := { dst := some 22, op := Op.move (Operand.tmp 5), type := 3, pos := "pieces.go:107", after := #[], guard := none }) (u := ?_) rfl (by kernel_rfl) (fun _ _ _ h => h) (Or.inl ⟨by kernel_rfl, ?_⟩) hHeld ?_
        rotate_left
        focus (intro w hSw; (try dsimp only at hSw); go_simp; try with_reducible rfl)
        try simp only [Act.put, List.setIfInBounds_toArray, List.set_cons_zero, List.set_cons_succ]
        refine anyK_take (i := 2) (oi := { dst := some 23, op := Op.move (Operand.tmp 3), type := 22, pos := "pieces.go:107", after := #[], guard := none }) (u := ?_) rfl (by kernel_rfl) (fun _ _ _ h => h) (Or.inl ⟨by kernel_rfl, ?_⟩) hHeld ?_
        rotate_left
        focus (intro w hSw; (try dsimp only at hSw); go_simp; try with_reducible rfl)
        try simp only [Act.put, List.setIfInBounds_toArray, List.set_cons_zero, List.set_cons_succ]
        refine anyK_take (i := 3) (oi := { dst := some 24, op := Op.move (Operand.tmp 5), type := 3, pos := "pieces.go:107", after := #[], guard := none }) (u := ?_) rfl (by kernel_rfl) (fun _ _ _ h => h) (Or.inl ⟨by kernel_rfl, ?_⟩) hHeld ?_
        rotate_left
        focus (intro w hSw; (try dsimp only at hSw); go_simp; try with_reducible rfl)
        try simp only [Act.put, List.setIfInBounds_toArray, List.set_cons_zero, List.set_cons_succ]
        refine anyK_take (i := 4) (oi := { dst := some 25, op := Op.indexAddr 22 (Operand.tmp 23) (Operand.tmp 24), type := 0, pos := "pieces.go:107", after := #[{ on := 2, ground := Ground.data }, { on := 3, ground := Ground.data }], guard := none }) (u := ?_) rfl (by kernel_rfl) (fun _ _ _ h => h) (Or.inl ⟨by kernel_rfl, ?_⟩) hHeld ?_
        rotate_left
        focus (intro w hSw; (try dsimp only at hSw); go_simp; try with_reducible rfl)
        try simp only [Act.put, List.setIfInBounds_toArray, List.set_cons_zero, List.set_cons_succ]
        refine anyK_take (i := 5) (oi := { dst := some 26, op := Op.load 29 (Operand.tmp 25), type := 29, pos := "pieces.go:107", after := #[{ on := 4, ground := Ground.data }], guard := none }) (u := ?_) rfl (by kernel_rfl) (fun _ _ _ h => h) (Or.inl ⟨by kernel_rfl, ?_⟩) hHeld ?_
        rotate_left
        focus (intro w hSw; (try dsimp only at hSw); go_simp; try with_reducible rfl)
        try simp only [Act.put, List.setIfInBounds_toArray, List.set_cons_zero, List.set_cons_succ]
        refine anyK_take (i := 6) (oi := { dst := some 27, op := Op.fieldAddr 37 (Operand.tmp 1) 0, type := 0, pos := "pieces.go:107", after := #[], guard := none }) (u := ?_) rfl (by kernel_rfl) (fun _ _ _ h => h) (Or.inl ⟨by kernel_rfl, ?_⟩) hHeld ?_
        rotate_left
        focus (intro w hSw; (try dsimp only at hSw); go_simp; try with_reducible rfl)
        try simp only [Act.put, List.setIfInBounds_toArray, List.set_cons_zero, List.set_cons_succ]
        refine anyK_take (i := 7) (oi := { dst := some 28, op := Op.load 35 (Operand.tmp 27), type := 35, pos := "pieces.go:107", after := #[{ on := 6, ground := Ground.data }], guard := none }) (u := ?_) rfl (by kernel_rfl) (fun _ _ _ h => h) (Or.inl ⟨by kernel_rfl, ?_⟩) hHeld ?_
        rotate_left
        focus (intro w hSw; (try dsimp only at hSw); go_simp; try with_reducible rfl)
        try simp only [Act.put, List.setIfInBounds_toArray, List.set_cons_zero, List.set_cons_succ]
        refine anyK_take (i := 8) (oi := { dst := some 29, op := Op.move (Operand.tmp 4), type := 3, pos := "pieces.go:107", after := #[], guard := none }) (u := ?_) rfl (by kernel_rfl) (fun _ _ _ h => h) (Or.inl ⟨by kernel_rfl, ?_⟩) hHeld ?_
        rotate_left
        focus (intro w hSw; (try dsimp only at hSw); go_simp; try with_reducible rfl)
        try simp only [Act.put, List.setIfInBounds_toArray, List.set_cons_zero, List.set_cons_succ]
        refine anyK_take (i := 9) (oi := { dst := some 30, op := Op.indexAddr 35 (Operand.tmp 28) (Operand.tmp 29), type := 0, pos := "pieces.go:107", after := #[{ on := 7, ground := Ground.data }, { on := 8, ground := Ground.data }], guard := none }) (u := ?_) rfl (by kernel_rfl) (fun _ _ _ h => h) (Or.inl ⟨by kernel_rfl, ?_⟩) hHeld ?_
        rotate_left
        focus (intro w hSw; (try dsimp only at hSw); go_simp; try with_reducible rfl)
        try simp only [Act.put, List.setIfInBounds_toArray, List.set_cons_zero, List.set_cons_succ]
        refine anyK_take (i := 10) (oi := { dst := some 31, op := Op.load 3 (Operand.tmp 30), type := 3, pos := "pieces.go:107", after := #[{ on := 9, ground := Ground.data }], guard := none }) (u := ?_) rfl (by kernel_rfl) (fun _ _ _ h => h) (Or.inl ⟨by kernel_rfl, ?_⟩) hHeld ?_
        rotate_left
        focus (intro w hSw; (try dsimp only at hSw); go_simp; try with_reducible rfl)
        try simp only [Act.put, List.setIfInBounds_toArray, List.set_cons_zero, List.set_cons_succ]
        refine anyK_take (i := 11) (oi := { dst := some 32, op := Op.fieldAddr 37 (Operand.tmp 1) 0, type := 0, pos := "pieces.go:107", after := #[], guard := none }) (u := ?_) rfl (by kernel_rfl) (fun _ _ _ h => h) (Or.inl ⟨by kernel_rfl, ?_⟩) hHeld ?_
        rotate_left
        focus (intro w hSw; (try dsimp only at hSw); go_simp; try with_reducible rfl)
        try simp only [Act.put, List.setIfInBounds_toArray, List.set_cons_zero, List.set_cons_succ]
        refine anyK_take (i := 12) (oi := { dst := some 33, op := Op.load 35 (Operand.tmp 32), type := 35, pos := "pieces.go:107", after := #[{ on := 11, ground := Ground.data }], guard := none }) (u := ?_) rfl (by kernel_rfl) (fun _ _ _ h => h) (Or.inl ⟨by kernel_rfl, ?_⟩) hHeld ?_
        rotate_left
        focus (intro w hSw; (try dsimp only at hSw); go_simp; try with_reducible rfl)
        try simp only [Act.put, List.setIfInBounds_toArray, List.set_cons_zero, List.set_cons_succ]
        refine anyK_take (i := 13) (oi := { dst := some 34, op := Op.move (Operand.tmp 4), type := 3, pos := "pieces.go:107", after := #[], guard := none }) (u := ?_) rfl (by kernel_rfl) (fun _ _ _ h => h) (Or.inl ⟨by kernel_rfl, ?_⟩) hHeld ?_
        rotate_left
        focus (intro w hSw; (try dsimp only at hSw); go_simp; try with_reducible rfl)
        try simp only [Act.put, List.setIfInBounds_toArray, List.set_cons_zero, List.set_cons_succ]
        refine anyK_one (i := 14) (o := { dst := some 35, op := Op.call { callee := Callee.value (Operand.func 30), args := #[Operand.tmp 33, Operand.tmp 34], argTypes := #[35, 3] }, type := 3, pos := "pieces.go:107", after := #[{ on := 12, ground := Ground.data }, { on := 13, ground := Ground.data }], guard := none }) (by kernel_rfl) rfl (fun K hK => ?_)
        go_simp
        go_at_call 30
        refine HLA.out.mono ?_
        rintro e w6 ⟨rfl, rfl⟩
        try go_wp2_with fail
        refine hK.out _ _ (fun _ => hHeld) ?_
        clear hK K
        try simp only [Act.put, List.setIfInBounds_toArray, List.set_cons_zero, List.set_cons_succ]
        refine anyK_take (i := 15) (oi := { dst := some 36, op := Op.build 28 #[(0, Operand.tmp 31), (1, Operand.tmp 35)], type := 28, pos := "pieces.go:107", after := #[{ on := 10, ground := Ground.data }, { on := 14, ground := Ground.data }], guard := none }) (u := ?_) rfl (by kernel_rfl) (fun _ _ _ h => h) (Or.inl ⟨by kernel_rfl, ?_⟩) hHeld ?_
        rotate_left
        focus (intro w hSw; (try dsimp only at hSw); go_simp; try with_reducible rfl)
        try simp only [Act.put, List.setIfInBounds_toArray, List.set_cons_zero, List.set_cons_succ]
        refine anyK_one (i := 16) (o := { dst := some 37, op := Op.buildSlice 29 1 #[(0, Operand.tmp 36)], type := 29, pos := "pieces.go:107", after := #[{ on := 15, ground := Ground.data }], guard := none }) (by kernel_rfl) rfl (fun K hK => ?_)
        go_simp
        refine hK.out _ _ (fun _ => ⟨q00, qcg, qcp⟩) ?_
        clear hK K hHeld
        have hHeld : (fun (W : World) => W.cell? ⟨B, 0, none⟩ = some (.slice (some ⟨bp, op, none⟩) N c) ∧ W.cell? ⟨g, num, none⟩ = some (.slice pi li ci) ∧ W.cell? ⟨bp, op + j, none⟩ = some (.int .i64 x)) (w1.alloc (.cells #[.int .i64 x, .int .i64 y] 28)).drew := ⟨q00, qcg, qcp⟩
        try simp only [Act.put, List.setIfInBounds_toArray, List.set_cons_zero, List.set_cons_succ]
        refine anyK_one (i := 17) (o := { dst := some 38, op := Op.call { callee := Callee.builtin Builtin.append, args := #[Operand.tmp 26, Operand.tmp 37], argTypes := #[29, 29] }, type := 29, pos := "pieces.go:107", after := #[{ on := 5, ground := Ground.data }, { on := 16, ground := Ground.data }, { on := 14, ground := Ground.chain }], guard := none }) (by kernel_rfl) rfl (fun K hK => ?_)
        refine step_append_lies _ (by rfl) _ _ _ (by rfl) B 28 i0 _ 2 16 Tryz.underlying29 hinf hz0 hz1 hz2 rfl (by omega) (.slice pi li ci) li _ (by rfl) ((HROW.out.alloc _).drew) ⟨w1.heap.size, 0, none⟩ 1 1 [.int .i64 x, .int .i64 y] (by rfl) (by rfl) (World.news_of_block (cs := #[.int .i64 x, .int .i64 y]) (t := 28) (fr := (0, 0)) (heap_alloc_new w1 _)) (by simp [Value.oneCell']) (by omega) (by simp only [maxLen]; omega) (by omega) (by have := HBS.out; simp; omega) (w1.heap.size + 1) (by simp) ?_
        intro gg cap w2 hown2 hgrow2 hat2 hlt2
        have v00 := (hgrow2.cell_far ⟨B, 0, none⟩ (by have := HBX.out.lt; show B < _; simp; omega) (Ne.symm HNB2.out)).trans q00
        have vcg := (hgrow2.cell_far ⟨g, num, none⟩ (by show g < _; simp; omega) (Ne.symm HNG.out)).trans qcg
        have vfg : w2.frozen? ⟨g, num, none⟩ = false := (hgrow2.frozen_far ⟨g, num, none⟩ (by show g < _; simp; omega) (Ne.symm HNG.out)).trans (((HOUT.out.alloc _).drew).frozenAt num)
        have vcp := (hgrow2.cell_far ⟨bp, op + j, none⟩ (by show bp < _; simp; omega) (Ne.symm HNP.out)).trans qcp
        have HA := Lib.hid (RowsIn.put HR.out HNL2.out HVI.out HLI.out hown2 hgrow2 hat2 (rowsJ_length ps j m).symm HBS.out)
        refine hK.out _ _ (fun _ => ⟨v00, vcg, vcp⟩) ?_
        clear hK K hHeld hown2 hgrow2 hat2
        have hHeld : (fun (W : World) => W.cell? ⟨B, 0, none⟩ = some (.slice (some ⟨bp, op, none⟩) N c) ∧ W.cell? ⟨g, num, none⟩ = some (.slice pi li ci) ∧ W.cell? ⟨bp, op + j, none⟩ = some (.int .i64 x)) w2 := ⟨v00, vcg, vcp⟩
        try simp only [Act.put, List.setIfInBounds_toArray, List.set_cons_zero, List.set_cons_succ]
        refine anyK_take (i := 18) (oi := { dst := some 39, op := Op.indexAddr 22 (Operand.tmp 21) (Operand.tmp 22), type := 0, pos := "pieces.go:107", after := #[{ on := 0, ground := Ground.data }, { on := 1, ground := Ground.data }, { on := 0, ground := Ground.phase }, { on := 1, ground := Ground.phase }, { on := 2, ground := Ground.phase }, { on := 3, ground := Ground.phase }, { on := 4, ground := Ground.phase }, { on := 5, ground := Ground.phase }, { on := 6, ground := Ground.phase }, { on := 7, ground := Ground.phase }, { on := 8, ground := Ground.phase }, { on := 9, ground := Ground.phase }, { on := 10, ground := Ground.phase }, { on := 11, ground := Ground.phase }, { on := 12, ground := Ground.phase }, { on := 13, ground := Ground.phase }, { on := 14, ground := Ground.phase }, { on := 15, ground := Ground.phase }, { on := 16, ground := Ground.phase }, { on := 17, ground := Ground.phase }], guard := none }) (u := ?_) rfl (by kernel_rfl) (fun _ _ _ h => h) (Or.inl ⟨by kernel_rfl, ?_⟩) hHeld ?_
        rotate_left
        focus (intro w hSw; (try dsimp only at hSw); go_simp; try with_reducible rfl)
        try simp only [Act.put, List.setIfInBounds_toArray, List.set_cons_zero, List.set_cons_succ]
        refine anyK_one (i := 19) (o := { dst := none, op := Op.store 29 (Operand.tmp 39) (Operand.tmp 38), type := 0, pos := "pieces.go:107", after := #[{ on := 18, ground := Ground.data }, { on := 17, ground := Ground.data }, { on := 17, ground := Ground.chain }, { on := 0, ground := Ground.phase }, { on := 1, ground := Ground.phase }, { on := 2, ground := Ground.phase }, { on := 3, ground := Ground.phase }, { on := 4, ground := Ground.phase }, { on := 5, ground := Ground.phase }, { on := 6, ground := Ground.phase }, { on := 7, ground := Ground.phase }, { on := 8, ground := Ground.phase }, { on := 9, ground := Ground.phase }, { on := 10, ground := Ground.phase }, { on := 11, ground := Ground.phase }, { on := 12, ground := Ground.phase }, { on := 13, ground := Ground.phase }, { on := 14, ground := Ground.phase }, { on := 15, ground := Ground.phase }, { on := 16, ground := Ground.phase }, { on := 17, ground := Ground.phase }], guard := none }) (by kernel_rfl) rfl (fun K hK => ?_)
        go_simp
        refine hK.out _ _ (fun h => absurd h (by decide)) ?_
        clear hK K hHeld v00 vcg vfg vcp hlt2 q00 qcg qcp b00 hcg hcp
        try simp only [Act.put, List.setIfInBounds_toArray, List.set_cons_zero, List.set_cons_succ]
        refine anyK_done (by kernel_rfl) ?_ _
        obtain ⟨W3, hW3⟩ : ∃ W3, W3 = w2.setCell ⟨g, num, none⟩ (.slice (some ⟨gg, 0, none⟩) (li + 1) cap) := ⟨_, rfl⟩
        rw [← hW3] at HA ⊢
        clear hW3
        go_wp2
        go_roundw
        case rel =>
          have h := HA.out.1
          rw [rowsJ_set ps j m num x y HJL.out HRNG.out hnm] at h
          exact ⟨j + 1, m, some ⟨g, 0, none⟩, co2, _, by omega, by go_num, rfl, ⟨HNM.out, h, HA.out.2.2 w HLOW.out, HBX.out.at (HA.out.2.1 B HBX.out.lt (Ne.symm HGB.out) (nr_of (show w1.heap[B]? = _ from HBX.out) (by decide)))⟩⟩
        case measure => simp [intOf]; omega
      · have hlt : num < n := by omega
        have hq0 : ((num : Int) == (n : Int)) = false := by rw [beq_eq_false_iff_ne]; omega
        obtain ⟨g, co2, hpo⟩ : ∃ g co2, (Value.slice po n co) = .slice (some ⟨g, 0, none⟩) n co2 := by
          rcases HI.out.rows.out.2 with ⟨_, h⟩ | ⟨g, cap, cur, e, _⟩
          · have := HI.out.rows.len
            rw [rowsJ_length] at this
            omega
          · have := HI.out.rows.len
            rw [rowsJ_length] at this
            rw [this] at e
            exact ⟨g, cap, e⟩
        have HR : Hid (RowsIn wr B (.slice (some ⟨g, 0, none⟩) n co2) vs (rowsJ ps j n)) := by
          show RowsIn _ _ _ _ _
          rw [← hpo]; exact HI.out.rows
        simp only [Value.slice.injEq, true_and] at hpo
        obtain ⟨hpo1, hpo2⟩ := hpo
        subst hpo1
        have hpo3 := hpo2.symm
        clear hpo2
        subst hpo3
        have HBX := Lib.hid HI.out.box
        have HLOW := Lib.hid HI.out.low
        have HCP1 := HCP
        have HNM : Hid (Nm 0 ((ps.map Prod.snd).take (j + 1)) n) := by
          have h := HNEXT.out n HI.out.nm hnum
          rw [if_neg hnn] at h; exact h
        obtain ⟨m, hm⟩ : ∃ m, m = n := ⟨_, rfl⟩
        obtain ⟨vs1, hvs⟩ : ∃ vs1, vs1 = vs := ⟨_, rfl⟩
        obtain ⟨w1, hw1⟩ : ∃ w1, w1 = wr := ⟨_, rfl⟩
        have hnm : num < m := by omega
        have hnmI : (num : Int) < m := by omega
        have hmI : m ≤ 61 := by omega
        go_wp2_with fail
        rw [← hm] at HR HNM ⊢
        rw [← hvs] at HR
        rw [← hw1] at HR HBX HLOW HCP1 ⊢
        clear hvs hm hw1 hb1 hcq hq0 hnn hlt
        have b00 := HBX.out.cell0
        obtain ⟨vi, hvi⟩ : ∃ vi, vi = gv vs1 num := ⟨_, rfl⟩
        have hnl : num < (rowsJ ps j m).length := by rw [rowsJ_length]; exact hnm
        have hvl : vs1.length = m := by have h := HR.out.len; rw [rowsJ_length] at h; exact h
        have hOUT : w1.ownsRow B 29 1 (.slice (some ⟨g, 0, none⟩) m co2) m vs1 := by have h := HR.out.out; rw [hvl] at h; exact h
        have HOUT := Lib.hid hOUT
        have hcg : w1.cell? ⟨g, num, none⟩ = some vi := by rw [hOUT.cellAt num (by omega), List.getElem?_eq_getElem (by omega), hvi, gv_get (by omega)]
        obtain ⟨li, hli⟩ : ∃ li, li = (gl (rowsJ ps j m) num).length := ⟨_, rfl⟩
        have hlib : li ≤ 30000 := by have h := rowsJ_row ps j (n := m) (i := num) hnm; have := HN.out; have := HNL.out; omega
        have hov := HR.out.own num hnl
        rw [← hvi] at hov
        obtain ⟨pi, ci, hve, _, _, _, _, _⟩ := ownR_form hov
        rw [← hli] at hve
        have hrow := hov
        unfold OwnR at hrow
        rw [← hli] at hrow
        have HROW := Lib.hid hrow
        have HLI := Lib.hid hli
        have HVI := Lib.hid hvi
        have HNL2 := Lib.hid hnl
        have hBs : B ≤ w1.heap.size := by have := HBX.out.lt; omega
        have HBS := Lib.hid hBs
        have HNG : Hid (vi.ownBlock ≠ some g) := fun e => ownR_cells hrow e (row_nr hOUT)
        have HNB2 : Hid (vi.ownBlock ≠ some B) := fun e => ownR_cells hrow e (nr_of (show w1.heap[B]? = _ from HBX.out) (by decide))
        have HNP : Hid (vi.ownBlock ≠ some bp) := by
          intro e
          have := (hrow.lt bp e).1
          have := HLP.out
          omega
        have HGB : Hid (g ≠ B) := by
          intro e
          have h := row_is hOUT
          obtain ⟨cc, fz, h⟩ := h
          rw [e, show w1.heap[B]? = _ from HBX.out] at h
          simp only [Option.some.injEq, Obj.cells.injEq] at h
          exact absurd h.2.1 (by decide)
        have hlg : g < w1.heap.size := (hOUT.lt g rfl).2
        have hlp : bp < w1.heap.size := World.block_lt_of_cell? w1 _ HCP1.out
        have hcp := HCP1.out
        have hliI : (li : Int) ≤ 30000 := by omega
        have HLA : Hid (Calls Tryz.prog 30 #[.slice (some ⟨bp, op, none⟩) N c, .int .i64 (j : Nat)] w1.drew fun e w' => e = .returned (.int .i64 y) ∧ w1.drew = w') := by
          have h := last_any (some ⟨bp, op, none⟩) c N j (ps.map Prod.fst) w1.drew (by rw [List.length_map]; exact HN.out) ((HP.out.below (by have h := HLOW.out; rw [HB.out] at h; exact h)).below (bl_drew _)) hjN (by omega) (good_inQ HG.out)
          rw [HY.out] at h; exact h
        have q00 := ((bl_alloc w1 (.cells #[.int .i64 x, .int .i64 y] 28)).cell (World.block_lt_of_cell? w1 _ b00)).trans b00
        have qcg := ((bl_alloc w1 (.cells #[.int .i64 x, .int .i64 y] 28)).cell (World.block_lt_of_cell? w1 _ hcg)).trans hcg
        have qcp := ((bl_alloc w1 (.cells #[.int .i64 x, .int .i64 y] 28)).cell (World.block_lt_of_cell? w1 _ hcp)).trans hcp
        subst hve
        clear hvi hli hov hrow hOUT hvl
        refine wp_region_K (S := fun (W : World) => W.cell? ⟨B, 0, none⟩ = some (.slice (some ⟨bp, op, none⟩) N c) ∧ W.cell? ⟨g, num, none⟩ = some (.slice pi li ci) ∧ W.cell? ⟨bp, op + j, none⟩ = some (.int .i64 x)) 19 (by kernel_rfl) ?_
        have hHeld : (fun (W : World) => W.cell? ⟨B, 0, none⟩ = some (.slice (some ⟨bp, op, none⟩) N c) ∧ W.cell? ⟨g, num, none⟩ = some (.slice pi li ci) ∧ W.cell? ⟨bp, op + j, none⟩ = some (.int .i64 x)) w1.drew := ⟨b00, hcg, hcp⟩
        refine anyK_take (i := 0) (oi := { dst := some 21, op := Op.move (Operand.tmp 3), type := 22, pos := "pieces.go:107", after := #[], guard := none }) (u := ?_) rfl (by kernel_rfl) (fun _ _ _ h => h) (Or.inl ⟨by kernel_rfl, ?_⟩) hHeld ?_
        rotate_left
        focus (intro w hSw; (try dsimp only at hSw); go_simp; try with_reducible rfl)
        try simp only [Act.put, List.setIfInBounds_toArray, List.set_cons_zero, List.set_cons_succ]
        refine anyK_take (i := 1) (oi := { dst := some 22, op := Op.move (Operand.tmp 5), type := 3, pos := "pieces.go:107", after := #[], guard := none }) (u := ?_) rfl (by kernel_rfl) (fun _ _ _ h => h) (Or.inl ⟨by kernel_rfl, ?_⟩) hHeld ?_
        rotate_left
        focus (intro w hSw; (try dsimp only at hSw); go_simp; try with_reducible rfl)
        try simp only [Act.put, List.setIfInBounds_toArray, List.set_cons_zero, List.set_cons_succ]
        refine anyK_take (i := 2) (oi := { dst := some 23, op := Op.move (Operand.tmp 3), type := 22, pos := "pieces.go:107", after := #[], guard := none }) (u := ?_) rfl (by kernel_rfl) (fun _ _ _ h => h) (Or.inl ⟨by kernel_rfl, ?_⟩) hHeld ?_
        rotate_left
        focus (intro w hSw; (try dsimp only at hSw); go_simp; try with_reducible rfl)
        try simp only [Act.put, List.setIfInBounds_toArray, List.set_cons_zero, List.set_cons_succ]
        refine anyK_take (i := 3) (oi := { dst := some 24, op := Op.move (Operand.tmp 5), type := 3, pos := "pieces.go:107", after := #[], guard := none }) (u := ?_) rfl (by kernel_rfl) (fun _ _ _ h => h) (Or.inl ⟨by kernel_rfl, ?_⟩) hHeld ?_
        rotate_left
        focus (intro w hSw; (try dsimp only at hSw); go_simp; try with_reducible rfl)
        try simp only [Act.put, List.setIfInBounds_toArray, List.set_cons_zero, List.set_cons_succ]
        refine anyK_take (i := 4) (oi := { dst := some 25, op := Op.indexAddr 22 (Operand.tmp 23) (Operand.tmp 24), type := 0, pos := "pieces.go:107", after := #[{ on := 2, ground := Ground.data }, { on := 3, ground := Ground.data }], guard := none }) (u := ?_) rfl (by kernel_rfl) (fun _ _ _ h => h) (Or.inl ⟨by kernel_rfl, ?_⟩) hHeld ?_
        rotate_left
        focus (intro w hSw; (try dsimp only at hSw); go_simp; try with_reducible rfl)
        try simp only [Act.put, List.setIfInBounds_toArray, List.set_cons_zero, List.set_cons_succ]
        refine anyK_take (i := 5) (oi := { dst := some 26, op := Op.load 29 (Operand.tmp 25), type := 29, pos := "pieces.go:107", after := #[{ on := 4, ground := Ground.data }], guard := none }) (u := ?_) rfl (by kernel_rfl) (fun _ _ _ h => h) (Or.inl ⟨by kernel_rfl, ?_⟩) hHeld ?_
        rotate_left
        focus (intro w hSw; (try dsimp only at hSw); go_simp; try with_reducible rfl)
        try simp only [Act.put, List.setIfInBounds_toArray, List.set_cons_zero, List.set_cons_succ]
        refine anyK_take (i := 6) (oi := { dst := some 27, op := Op.fieldAddr 37 (Operand.tmp 1) 0, type := 0, pos := "pieces.go:107", after := #[], guard := none }) (u := ?_) rfl (by kernel_rfl) (fun _ _ _ h => h) (Or.inl ⟨by kernel_rfl, ?_⟩) hHeld ?_
        rotate_left
        focus (intro w hSw; (try dsimp only at hSw); go_simp; try with_reducible rfl)
        try simp only [Act.put, List.setIfInBounds_toArray, List.set_cons_zero, List.set_cons_succ]
        refine anyK_take (i := 7) (oi := { dst := some 28, op := Op.load 35 (Operand.tmp 27), type := 35, pos := "pieces.go:107", after := #[{ on := 6, ground := Ground.data }], guard := none }) (u := ?_) rfl (by kernel_rfl) (fun _ _ _ h => h) (Or.inl ⟨by kernel_rfl, ?_⟩) hHeld ?_
        rotate_left
        focus (intro w hSw; (try dsimp only at hSw); go_simp; try with_reducible rfl)
        try simp only [Act.put, List.setIfInBounds_toArray, List.set_cons_zero, List.set_cons_succ]
        refine anyK_take (i := 8) (oi := { dst := some 29, op := Op.move (Operand.tmp 4), type := 3, pos := "pieces.go:107", after := #[], guard := none }) (u := ?_) rfl (by kernel_rfl) (fun _ _ _ h => h) (Or.inl ⟨by kernel_rfl, ?_⟩) hHeld ?_
        rotate_left
        focus (intro w hSw; (try dsimp only at hSw); go_simp; try with_reducible rfl)
        try simp only [Act.put, List.setIfInBounds_toArray, List.set_cons_zero, List.set_cons_succ]
        refine anyK_take (i := 9) (oi := { dst := some 30, op := Op.indexAddr 35 (Operand.tmp 28) (Operand.tmp 29), type := 0, pos := "pieces.go:107", after := #[{ on := 7, ground := Ground.data }, { on := 8, ground := Ground.data }], guard := none }) (u := ?_) rfl (by kernel_rfl) (fun _ _ _ h => h) (Or.inl ⟨by kernel_rfl, ?_⟩) hHeld ?_
        rotate_left
        focus (intro w hSw; (try dsimp only at hSw); go_simp; try with_reducible rfl)
        try simp only [Act.put, List.setIfInBounds_toArray, List.set_cons_zero, List.set_cons_succ]
        refine anyK_take (i := 10) (oi := { dst := some 31, op := Op.load 3 (Operand.tmp 30), type := 3, pos := "pieces.go:107", after := #[{ on := 9, ground := Ground.data }], guard := none }) (u := ?_) rfl (by kernel_rfl) (fun _ _ _ h => h) (Or.inl ⟨by kernel_rfl, ?_⟩) hHeld ?_
        rotate_left
        focus (intro w hSw; (try dsimp only at hSw); go_simp; try with_reducible rfl)
        try simp only [Act.put, List.setIfInBounds_toArray, List.set_cons_zero, List.set_cons_succ]
        refine anyK_take (i := 11) (oi := { dst := some 32, op := Op.fieldAddr 37 (Operand.tmp 1) 0, type := 0, pos := "pieces.go:107", after := #[], guard := none }) (u := ?_) rfl (by kernel_rfl) (fun _ _ _ h => h) (Or.inl ⟨by kernel_rfl, ?_⟩) hHeld ?_
        rotate_left
        focus (intro w hSw; (try dsimp only at hSw); go_simp; try with_reducible rfl)
        try simp only [Act.put, List.setIfInBounds_toArray, List.set_cons_zero, List.set_cons_succ]
        refine anyK_take (i := 12) (oi := { dst := some 33, op := Op.load 35 (Operand.tmp 32), type := 35, pos := "pieces.go:107", after := #[{ on := 11, ground := Ground.data }], guard := none }) (u := ?_) rfl (by kernel_rfl) (fun _ _ _ h => h) (Or.inl ⟨by kernel_rfl, ?_⟩) hHeld ?_
        rotate_left
        focus (intro w hSw; (try dsimp only at hSw); go_simp; try with_reducible rfl)
        try simp only [Act.put, List.setIfInBounds_toArray, List.set_cons_zero, List.set_cons_succ]
        refine anyK_take (i := 13) (oi := { dst := some 34, op := Op.move (Operand.tmp 4), type := 3, pos := "pieces.go:107", after := #[], guard := none }) (u := ?_) rfl (by kernel_rfl) (fun _ _ _ h => h) (Or.inl ⟨by kernel_rfl, ?_⟩) hHeld ?_
        rotate_left
        focus (intro w hSw; (try dsimp only at hSw); go_simp; try with_reducible rfl)
        try simp only [Act.put, List.setIfInBounds_toArray, List.set_cons_zero, List.set_cons_succ]
        refine anyK_one (i := 14) (o := { dst := some 35, op := Op.call { callee := Callee.value (Operand.func 30), args := #[Operand.tmp 33, Operand.tmp 34], argTypes := #[35, 3] }, type := 3, pos := "pieces.go:107", after := #[{ on := 12, ground := Ground.data }, { on := 13, ground := Ground.data }], guard := none }) (by kernel_rfl) rfl (fun K hK => ?_)
        go_simp
        go_at_call 30
        refine HLA.out.mono ?_
        rintro e w6 ⟨rfl, rfl⟩
        try go_wp2_with fail
        refine hK.out _ _ (fun _ => hHeld) ?_
        clear hK K
        try simp only [Act.put, List.setIfInBounds_toArray, List.set_cons_zero, List.set_cons_succ]
        refine anyK_take (i := 15) (oi := { dst := some 36, op := Op.build 28 #[(0, Operand.tmp 31), (1, Operand.tmp 35)], type := 28, pos := "pieces.go:107", after := #[{ on := 10, ground := Ground.data }, { on := 14, ground := Ground.data }], guard := none }) (u := ?_) rfl (by kernel_rfl) (fun _ _ _ h => h) (Or.inl ⟨by kernel_rfl, ?_⟩) hHeld ?_
        rotate_left
        focus (intro w hSw; (try dsimp only at hSw); go_simp; try with_reducible rfl)
        try simp only [Act.put, List.setIfInBounds_toArray, List.set_cons_zero, List.set_cons_succ]
        refine anyK_one (i := 16) (o := { dst := some 37, op := Op.buildSlice 29 1 #[(0, Operand.tmp 36)], type := 29, pos := "pieces.go:107", after := #[{ on := 15, ground := Ground.data }], guard := none }) (by kernel_rfl) rfl (fun K hK => ?_)
        go_simp
        refine hK.out _ _ (fun _ => ⟨q00, qcg, qcp⟩) ?_
        clear hK K hHeld
        have hHeld : (fun (W : World) => W.cell? ⟨B, 0, none⟩ = some (.slice (some ⟨bp, op, none⟩) N c) ∧ W.cell? ⟨g, num, none⟩ = some (.slice pi li ci) ∧ W.cell? ⟨bp, op + j, none⟩ = some (.int .i64 x)) (w1.alloc (.cells #[.int .i64 x, .int .i64 y] 28)).drew := ⟨q00, qcg, qcp⟩
        try simp only [Act.put, List.setIfInBounds_toArray, List.set_cons_zero, List.set_cons_succ]
        refine anyK_one (i := 17) (o := { dst := some 38, op := Op.call { callee := Callee.builtin Builtin.append, args := #[Operand.tmp 26, Operand.tmp 37], argTypes := #[29, 29] }, type := 29, pos := "pieces.go:107", after := #[{ on := 5, ground := Ground.data }, { on := 16, ground := Ground.data }, { on := 14, ground := Ground.chain }], guard := none }) (by kernel_rfl) rfl (fun K hK => ?_)
        refine step_append_lies _ (by rfl) _ _ _ (by rfl) B 28 i0 _ 2 16 Tryz.underlying29 hinf hz0 hz1 hz2 rfl (by omega) (.slice pi li ci) li _ (by rfl) ((HROW.out.alloc _).drew) ⟨w1.heap.size, 0, none⟩ 1 1 [.int .i64 x, .int .i64 y] (by rfl) (by rfl) (World.news_of_block (cs := #[.int .i64 x, .int .i64 y]) (t := 28) (fr := (0, 0)) (heap_alloc_new w1 _)) (by simp [Value.oneCell']) (by omega) (by simp only [maxLen]; omega) (by omega) (by have := HBS.out; simp; omega) (w1.heap.size + 1) (by simp) ?_
        intro gg cap w2 hown2 hgrow2 hat2 hlt2
        have v00 := (hgrow2.cell_far ⟨B, 0, none⟩ (by have := HBX.out.lt; show B < _; simp; omega) (Ne.symm HNB2.out)).trans q00
        have vcg := (hgrow2.cell_far ⟨g, num, none⟩ (by show g < _; simp; omega) (Ne.symm HNG.out)).trans qcg
        have vfg : w2.frozen? ⟨g, num, none⟩ = false := (hgrow2.frozen_far ⟨g, num, none⟩ (by show g < _; simp; omega) (Ne.symm HNG.out)).trans (((HOUT.out.alloc _).drew).frozenAt num)
        have vcp := (hgrow2.cell_far ⟨bp, op + j, none⟩ (by show bp < _; simp; omega) (Ne.symm HNP.out)).trans qcp
        have HA := Lib.hid (RowsIn.put HR.out HNL2.out HVI.out HLI.out hown2 hgrow2 hat2 (rowsJ_length ps j m).symm HBS.out)
        refine hK.out _ _ (fun _ => ⟨v00, vcg, vcp⟩) ?_
        clear hK K hHeld hown2 hgrow2 hat2
        have hHeld : (fun (W : World) => W.cell? ⟨B, 0, none⟩ = some (.slice (some ⟨bp, op, none⟩) N c) ∧ W.cell? ⟨g, num, none⟩ = some (.slice pi li ci) ∧ W.cell? ⟨bp, op + j, none⟩ = some (.int .i64 x)) w2 := ⟨v00, vcg, vcp⟩
        try simp only [Act.put, List.setIfInBounds_toArray, List.set_cons_zero, List.set_cons_succ]
        refine anyK_take (i := 18) (oi := { dst := some 39, op := Op.indexAddr 22 (Operand.tmp 21) (Operand.tmp 22), type := 0, pos := "pieces.go:107", after := #[{ on := 0, ground := Ground.data }, { on := 1, ground := Ground.data }, { on := 0, ground := Ground.phase }, { on := 1, ground := Ground.phase }, { on := 2, ground := Ground.phase }, { on := 3, ground := Ground.phase }, { on := 4, ground := Ground.phase }, { on := 5, ground := Ground.phase }, { on := 6, ground := Ground.phase }, { on := 7, ground := Ground.phase }, { on := 8, ground := Ground.phase }, { on := 9, ground := Ground.phase }, { on := 10, ground := Ground.phase }, { on := 11, ground := Ground.phase }, { on := 12, ground := Ground.phase }, { on := 13, ground := Ground.phase }, { on := 14, ground := Ground.phase }, { on := 15, ground := Ground.phase }, { on := 16, ground := Ground.phase }, { on := 17, ground := Ground.phase }], guard := none }) (u := ?_) rfl (by kernel_rfl) (fun _ _ _ h => h) (Or.inl ⟨by kernel_rfl, ?_⟩) hHeld ?_
        rotate_left
        focus (intro w hSw; (try dsimp only at hSw); go_simp; try with_reducible rfl)
        try simp only [Act.put, List.setIfInBounds_toArray, List.set_cons_zero, List.set_cons_succ]
        refine anyK_one (i := 19) (o := { dst := none, op := Op.store 29 (Operand.tmp 39) (Operand.tmp 38), type := 0, pos := "pieces.go:107", after := #[{ on := 18, ground := Ground.data }, { on := 17, ground := Ground.data }, { on := 17, ground := Ground.chain }, { on := 0, ground := Ground.phase }, { on := 1, ground := Ground.phase }, { on := 2, ground := Ground.phase }, { on := 3, ground := Ground.phase }, { on := 4, ground := Ground.phase }, { on := 5, ground := Ground.phase }, { on := 6, ground := Ground.phase }, { on := 7, ground := Ground.phase }, { on := 8, ground := Ground.phase }, { on := 9, ground := Ground.phase }, { on := 10, ground := Ground.phase }, { on := 11, ground := Ground.phase }, { on := 12, ground := Ground.phase }, { on := 13, ground := Ground.phase }, { on := 14, ground := Ground.phase }, { on := 15, ground := Ground.phase }, { on := 16, ground := Ground.phase }, { on := 17, ground := Ground.phase }], guard := none }) (by kernel_rfl) rfl (fun K hK => ?_)
        go_simp
        refine hK.out _ _ (fun h => absurd h (by decide)) ?_
        clear hK K hHeld v00 vcg vfg vcp hlt2 q00 qcg qcp b00 hcg hcp
        try simp only [Act.put, List.setIfInBounds_toArray, List.set_cons_zero, List.set_cons_succ]
        refine anyK_done (by kernel_rfl) ?_ _
        obtain ⟨W3, hW3⟩ : ∃ W3, W3 = w2.setCell ⟨g, num, none⟩ (.slice (some ⟨gg, 0, none⟩) (li + 1) cap) := ⟨_, rfl⟩
        rw [← hW3] at HA ⊢
        clear hW3
        go_wp2
        go_roundw
        case rel =>
          have h := HA.out.1
          rw [rowsJ_set ps j m num x y HJL.out HRNG.out hnm] at h
          exact ⟨j + 1, m, some ⟨g, 0, none⟩, co2, _, by omega, by go_num, rfl, ⟨HNM.out, h, HA.out.2.2 w HLOW.out, HBX.out.at (HA.out.2.1 B HBX.out.lt (Ne.symm HGB.out) (nr_of (show w1.heap[B]? = _ from HBX.out) (by decide)))⟩⟩
        case measure => simp [intOf]; omega
    · have hjI : (N : Int) ≤ j := by omega
      have hje : j = N := by omega
      subst hje
      have HE : Hid (n = nn) := by
        have h := HI.out.nm
        rw [List.take_of_length_le (by rw [List.length_map, ← HN.out]; exact Nat.le_refl _)] at h
        exact nm_one h HG.out.nm
      go_wp2
      go_ret
      obtain rfl : n = nn := HE.out
      refine ⟨po, co, vs, rfl, ?_, by have h := HI.out.low; rw [HB.out] at h; exact h⟩
      have h := HI.out.rows
      rw [HN.out, rowsJ_all, HB.out] at h
      exact h
end Go.Proofs.YtildfjlaieaadaaGreat
