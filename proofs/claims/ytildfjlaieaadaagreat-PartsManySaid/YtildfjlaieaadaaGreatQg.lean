/- The walk of with: the classes by the sets of both. -/
import Derived.Test.YtildfjlaieaadaaGreatQf2
import Derived.Test.YtildfjlaieaadaaGreatFk

namespace Go.Proofs.YtildfjlaieaadaaGreat
open Go.RowKit Tnr Go.Maps

theorem und_map : Tryz.prog.underlying 92 = some (.map 95 3) := by kernel_rfl
theorem zero_int (w : World) : (zeroValue 3).run Tryz.prog w = .ok (.int .i64 0) w := by kernel_rfl
/-- a look-up whose answer is known. -/
theorem wpList_lookup_num {P : Program} (w : World) {ops : Array Oper} {rest : List Oper} {o : Oper} {a : Act} {Q : Exit → Act → World → Prop} (hg : o.guard = none) (m x : Operand) (t : TypeId) (hop : o.op = Op.lookup t m x true)
    (k e : TypeId) (K : Keyed P k) (ht : P.underlying t = some (.map k e)) (he : P.underlying e = some (.int .i64)) (hz : (zeroValue e).run P w = .ok (.int .i64 0) w) (b n : Nat) (D : DataW Unit)
    (hm : a.eval m = .map (some b)) (hown : w.ownsMap P k (plainElem P e) b n D) (key : Value) (kl : Lit) (hx : a.eval x = key) (hkey : keyOf P k key = some kl) (c : Int) (t0 : Bool)
    (hc : D.atKey kl (.lit (.int .i64 0)) = .lit (.int .i64 c)) (hh : Maps.has D kl = t0) (hK : wpList P ops Q rest (a.put o.dst (.tuple #[.int .i64 c, .bool t0])) w) : wpList P ops Q (o :: rest) a w :=
  wpList_lookup_own_ok_int w hg m x t hop k e .i64 K ht he hz b n D hm hown key kl hx hkey fun c' hat _ => by
    rw [hc] at hat
    simp only [DataW.lit.injEq, Lit.int.injEq, true_and] at hat
    subst hat
    rw [hh]; exact hK
theorem wpList_len_num {P : Program} (w : World) {ops : Array Oper} {rest : List Oper} {o : Oper} {a : Act} {Q : Exit → Act → World → Prop} (hg : o.guard = none) (m : Operand) (t : TypeId) (hop : o.op = Op.call { callee := Callee.builtin Builtin.len, args := #[m], argTypes := #[t] })
    (k e : TypeId) (ht : P.underlying t = some (.map k e)) (R : Value → Option (DataW Unit × List MemPlace)) (b n : Nat) (D : DataW Unit) (hm : a.eval m = .map (some b)) (hown : w.ownsMap P k R b n D) (s : Nat) (hs : Maps.size D = s)
    (hK : wpList P ops Q rest (a.put o.dst (.int .i64 (s : Nat))) w) : wpList P ops Q (o :: rest) a w :=
  wpList_len_own w hg m t hop k e ht R b n D hm hown (by rw [hs]; exact hK)

set_option maxHeartbeats 1600000 in
set_option maxRecDepth 100000 in
theorem with_any (v1 v2 : Value) (S T : List (List R)) (l m : List (Int × Nat)) (n1 n2 : Nat) (w : World) (hl : Tnr.Good S l n1) (hm : Tnr.Good T m n2) (h1 : ClsAt w v1 l) (h2 : ClsAt w v2 m) (hb : l.length + m.length ≤ 1000000) :
    Calls Tryz.prog 29 #[v1, v2] w (WithPost S T l m w) := by
  obtain ⟨i0, hinf, hz0, hz1, hz2⟩ := info_parts info_intq
  obtain ⟨p, c, q, d, rfl, hp, hq⟩ := h1
  obtain ⟨p', c', q', d', rfl, hp', hq'⟩ := h2
  obtain ⟨n, hn⟩ : ∃ n, n = l.length := ⟨_, rfl⟩
  obtain ⟨k, hk⟩ : ∃ k, k = m.length := ⟨_, rfl⟩
  rw [← hn, ← hk]
  rw [← hn, ← hk] at hb
  have hmm := @run_makeMap Tryz.prog
  have HN := Lib.hid hn
  have HK := Lib.hid hk
  have HP := Lib.hid hp
  have HQ := Lib.hid hq
  have HP' := Lib.hid hp'
  have HQ' := Lib.hid hq'
  have HL := Lib.hid hl
  have HM := Lib.hid hm
  have hbI : (n : Int) + k ≤ 1000000 := by omega
  clear hn hk hp hq hp' hq' hl hm
  go_enter Tryz.func29, Tryz.ntmps29
  go_wp2
  obtain ⟨B, hB⟩ : ∃ B, B = w.heap.size := ⟨_, rfl⟩
  rw [← hB]
  have HB := Lib.hid hB
  clear hmm
  go_loopw [8, 9] (fun iv jv wr => ∃ (i j : Nat) (don : List (Int × (Nat × Nat))), iv = .int .i64 (i : Nat) ∧ jv = .int .i64 (j : Nat) ∧ i ≤ n ∧ Hid (WI w wr B l m (.slice p n c) (.slice q n d) (.slice p' k c') (.slice q' k d') i j don)) (fun iv jv _ => (n - (intOf iv).toNat) + (k - (intOf jv).toNat))
  case atStart =>
    refine ⟨0, 0, [], rfl, rfl, Nat.zero_le _, ?_⟩
    show WI _ _ _ _ _ _ _ _ _ _ _ _
    have hsz : w.heap.size = B := by rw [HB.out]
    have b0 : Box2 (w.alloc (Obj.cells #[Value.slice p n c, Value.slice q n d] 37)) B 37 (.slice p n c) (.slice q n d) := by rw [HB.out]; exact Box2.new _ _ _ _
    have b1 : Box2 ((w.alloc (Obj.cells #[Value.slice p n c, Value.slice q n d] 37)).alloc (Obj.cells #[Value.slice p' k c', Value.slice q' k d'] 37)) (B + 1) 37 (.slice p' k c') (.slice q' k d') := by
      have h := Box2.new (w.alloc (Obj.cells #[Value.slice p n c, Value.slice q n d] 37)) 37 (.slice p' k c') (.slice q' k d')
      rw [World.size_alloc, hsz] at h; exact h
    have b2 : Box2 (((w.alloc (Obj.cells #[Value.slice p n c, Value.slice q n d] 37)).alloc (Obj.cells #[Value.slice p' k c', Value.slice q' k d'] 37)).alloc (.cells #[.slice none 0 0, .slice none 0 0] 37)) (B + 1 + 1) 37 (.slice none 0 0) (.slice none 0 0) := by
      have h := Box2.new ((w.alloc (Obj.cells #[Value.slice p n c, Value.slice q n d] 37)).alloc (Obj.cells #[Value.slice p' k c', Value.slice q' k d'] 37)) 37 (.slice none 0 0) (.slice none 0 0)
      rw [World.size_alloc, World.size_alloc, hsz] at h; exact h
    have b3 : Box2 ((((w.alloc (Obj.cells #[Value.slice p n c, Value.slice q n d] 37)).alloc (Obj.cells #[Value.slice p' k c', Value.slice q' k d'] 37)).alloc (.cells #[.slice none 0 0, .slice none 0 0] 37)).alloc (.cells #[.slice none 0 0, .slice none 0 0] 37)) (B + 1 + 1 + 1) 37 (.slice none 0 0) (.slice none 0 0) := by
      have h := Box2.new (((w.alloc (Obj.cells #[Value.slice p n c, Value.slice q n d] 37)).alloc (Obj.cells #[Value.slice p' k c', Value.slice q' k d'] 37)).alloc (.cells #[.slice none 0 0, .slice none 0 0] 37)) 37 (.slice none 0 0) (.slice none 0 0)
      rw [World.size_alloc, World.size_alloc, World.size_alloc, hsz] at h; exact h
    refine ⟨?_, ?_, (((b0.below (bl_alloc _ _)).below (bl_alloc _ _)).below (bl_alloc _ _)).below (bl_alloc _ _), ((b1.below (bl_alloc _ _)).below (bl_alloc _ _)).below (bl_alloc _ _), (b2.below (bl_alloc _ _)).below (bl_alloc _ _), by decide, ⟨.map [], ?_, mapIs_nil⟩, ⟨none, 0, none, 0, b3.below (bl_alloc _ _), ownQ_nil _ _, ownQ_nil _ _, fun g hg => by simp [Value.ownBlock] at hg⟩, bl_trans (bl_trans (bl_trans (bl_trans (bl_alloc _ _) (bl_alloc _ _)) (bl_alloc _ _)) (bl_alloc _ _)) (bl_alloc _ _)⟩
    · simp
    · simp only [List.drop_zero]
      obtain ⟨a, l', e1⟩ := HL.out.start
      obtain ⟨b, m', e2⟩ := HM.out.start
      have w1 := HL.out.wf
      have w2 := HM.out.wf
      rw [e1] at w1 ⊢
      rw [e2] at w2 ⊢
      exact .inr ⟨_, _, _, _, rfl, rfl, w1, w2, Wf.ends_ge w2, Wf.ends_ge w1⟩
    · have h := World.ownsMap_made ((((w.alloc (Obj.cells #[Value.slice p n c, Value.slice q n d] 37)).alloc (Obj.cells #[Value.slice p' k c', Value.slice q' k d'] 37)).alloc (.cells #[.slice none 0 0, .slice none 0 0] 37)).alloc (.cells #[.slice none 0 0, .slice none 0 0] 37)) Tryz.prog 95 (plainElem (H := Unit) Tryz.prog 3)
      simp only [World.size_alloc, hsz] at h
      exact h
  case round =>
    obtain ⟨i, j, don, rfl, rfl, hi, HW⟩ := hrel
    rename World => wr
    have hbs := HB.out
    clear hB
    have hB0 := HW.out.b0
    have hB1 := HW.out.b1
    have h00 := hB0.cell0
    have h01 := hB0.cell1
    have h10 := hB1.cell0
    have h11 := hB1.cell1
    clear hB0 hB1
    by_cases hin : i < n
    · have hil : i < l.length := by have := HN.out; omega
      have hiI : (i : Int) < n := by omega
      have HD : Hid (l.drop i = l[i] :: l.drop (i + 1)) := List.drop_eq_getElem_cons hil
      have hjl : j < m.length := by
        have hst := HW.out.st
        rw [HD.out] at hst
        rcases hst with ⟨e, _⟩ | ⟨_, _, q0, m0, _, e, _⟩
        · exact absurd e (List.cons_ne_nil _ _)
        · by_cases hj : j < m.length
          · exact hj
          · rw [List.drop_eq_nil_of_le (by omega)] at e; simp at e
      have hjk : j < k := by have := HK.out; omega
      have hjI : (j : Int) < k := by omega
      have HD' : Hid (m.drop j = m[j] :: m.drop (j + 1)) := List.drop_eq_getElem_cons hjl
      obtain ⟨x, a, hxa⟩ : ∃ x a, l[i] = (x, a) := ⟨_, _, rfl⟩
      obtain ⟨y, b, hyb⟩ : ∃ y b, m[j] = (y, b) := ⟨_, _, rfl⟩
      have hlow := HW.out.low
      obtain ⟨bp, op, rfl, hcp⟩ := slq_at (HP.out.below hlow) (show i < (l.map Prod.fst).length by simpa using hil)
      obtain ⟨bq, oq, rfl, hcq⟩ := slq_at (HQ.out.below hlow) (show i < (l.map fun x => (x.2 : Int)).length by simpa using hil)
      obtain ⟨bp', op', rfl, hcp'⟩ := slq_at (HP'.out.below hlow) (show j < (m.map Prod.fst).length by simpa using hjl)
      obtain ⟨bq', oq', rfl, hcq'⟩ := slq_at (HQ'.out.below hlow) (show j < (m.map fun x => (x.2 : Int)).length by simpa using hjl)
      have HLT : Hid (bp < B ∧ bp' < B) := by
        obtain ⟨b2, o2, e2, hc2⟩ := slq_at HP.out (show i < (l.map Prod.fst).length by simpa using hil)
        obtain ⟨b3, o3, e3, hc3⟩ := slq_at HP'.out (show j < (m.map Prod.fst).length by simpa using hjl)
        simp only [Option.some.injEq, Addr.mk.injEq, and_true] at e2 e3
        obtain ⟨rfl, rfl⟩ := e2
        obtain ⟨rfl, rfl⟩ := e3
        have := World.block_lt_of_cell? w _ hc2
        have := World.block_lt_of_cell? w _ hc3
        rw [hbs]
        exact ⟨by assumption, by assumption⟩
      rw [gq_get (by simpa using hil), List.getElem_map, hxa] at hcp hcq
      rw [gq_get (by simpa using hjl), List.getElem_map, hyb] at hcp' hcq'
      rw [hxa] at HD
      rw [hyb] at HD'
      have HX : Hid (gq (l.map Prod.fst) i = x) := by
        show _ = _
        rw [gq_get (by simpa using hil), List.getElem_map, hxa]
      have HY : Hid (gq (m.map Prod.fst) j = y) := by
        show _ = _
        rw [gq_get (by simpa using hjl), List.getElem_map, hyb]
      have HIL := Lib.hid hil
      have HJL := Lib.hid hjl
      simp only at hcp hcq hcp' hcq'
      obtain ⟨X, hX⟩ : ∃ X, X = Obj.cells #[Value.int IntKind.i64 0, Value.int IntKind.i64 0] 95 := ⟨_, rfl⟩
      have g01 := ((bl_alloc wr X).cell (World.block_lt_of_cell? wr _ h01)).trans h01
      have g11 := ((bl_alloc wr X).cell (World.block_lt_of_cell? wr _ h11)).trans h11
      have gcq := ((bl_alloc wr X).cell (World.block_lt_of_cell? wr _ hcq)).trans hcq
      have gcq' := ((bl_alloc wr X).cell (World.block_lt_of_cell? wr _ hcq')).trans hcq'
      subst hX
      clear hxa hyb hlow hil hjl hbs
      go_wp2
      go_region
      obtain ⟨D, hD, hDI⟩ := HW.out.map
      have hfew := HW.out.few
      have hsm : Sml (a, b) := by
        have h1 := nm_lt HL.out.nm a (List.mem_map.2 ⟨(x, a), by have := List.drop_subset i l; exact this (by rw [HD.out]; exact List.mem_cons_self), rfl⟩)
        have h2 := nm_lt HM.out.nm b (List.mem_map.2 ⟨(y, b), by have := List.drop_subset j m; exact this (by rw [HD'.out]; exact List.mem_cons_self), rfl⟩)
        have h3 := HL.out.few
        have h4 := HM.out.few
        constructor
        · show (a : Int) ≤ 1000000; omega
        · show (b : Int) ≤ 1000000; omega
      have HDM : Hid (∀ {dl : Nat}, dl = don.length → dl ≤ 1000000) := by
        intro dl e
        have h1 := mergeP_len _ l m (Nat.le_refl _)
        rw [HW.out.eq, List.length_append, ← HN.out, ← HK.out] at h1
        omega
      have HKEY := Lib.hid (kl_key hsm)
      obtain ⟨K, hKK⟩ : ∃ K, K = keys don := ⟨_, rfl⟩
      rw [← hKK] at hD hDI hfew
      obtain ⟨nk, hnk⟩ : ∃ nk, nk = K.length := ⟨_, rfl⟩
      rw [← hnk] at hD
      have hsz := hDI.size
      rw [← hnk] at hsz
      have HSZ := Lib.hid hsz
      have HDI := Lib.hid hDI
      have hD5 := (hD.alloc (.cells #[.int .i64 (a : Nat), .int .i64 (b : Nat)] 95)).drew
      have HD5 := Lib.hid hD5
      by_cases hmem : (a, b) ∈ K
      · have HAT := Lib.hid (hDI.look (a, b) hmem)
        have HHAS : Hid (Maps.has D (kl (a, b)) = true) := by
          show _ = _
          rw [hDI.has _ hsm]; simpa using hmem
        obtain ⟨num, hnum⟩ : ∃ num : Nat, num = ix K (a, b) := ⟨_, rfl⟩
        rw [← hnum] at HAT
        have hlt : num < 60 := by
          have := ix_lt hmem
          have := hfew
          omega
        have hltI : decide ((60 : Int) ≤ (num : Nat)) = false := by simp; omega
        have HMEM := Lib.hid hmem
        have HNUM := Lib.hid hnum
        have HKK := Lib.hid hKK
        have HNK := Lib.hid hnk
        have HFEW := Lib.hid hfew
        clear hmem hnum hKK hnk hfew hsm hsz hDI hD hD5
        go_wp2_with (at_lookup; refine wpList_lookup_num _ rfl _ _ _ rfl _ _ key_law und_map und_int (zero_int _) _ _ _ rfl HD5.out _ _ rfl HKEY.out _ true HAT.out HHAS.out ?_)
        obtain ⟨W1, hW1⟩ : ∃ W1, W1 = (wr.alloc (.cells #[.int .i64 (a : Nat), .int .i64 (b : Nat)] 95)).drew := ⟨_, rfl⟩
        rw [← hW1]
        have HWJ : Hid (WJ w W1 B (.slice (some ⟨bp, op, none⟩) n c) (.slice (some ⟨bq, oq, none⟩) n d) (.slice (some ⟨bp', op', none⟩) k c') (.slice (some ⟨bq', oq', none⟩) k d') don (a, b) num) := by
          have hbl : Below wr.heap.size wr W1 := by rw [hW1]; exact (bl_alloc _ _).drew
          obtain ⟨pc, cc, pn, cn, r1, r2, r3, r4⟩ := HW.out.rows
          have ek : keysOn (keys don) ((0 : Int), (a, b)) = K := by unfold keysOn; rw [if_pos (by rw [← HKK.out]; exact HMEM.out), HKK.out]
          refine ⟨HW.out.b0.below hbl, HW.out.b1.below hbl, HW.out.b2.below hbl, ⟨D, ?_, ?_⟩, ⟨pc, cc, pn, cn, r1.below hbl, ownQ_below r2 hbl, ownQ_below r3 hbl, r4⟩, bl_trans HW.out.low hbl, ?_⟩
          · rw [ek, ← HNK.out, hW1]; exact HD5.out
          · rw [ek]; exact HDI.out
          · rw [ek]; exact HNUM.out
        have H60 : Hid (num < 60) := hlt
        clear hW1 h00 h01 h10 h11 g01 g11 gcq gcq' hcp hcq hcp' hcq' HD5 HAT HHAS HSZ HDI HMEM HNUM HKK HNK HFEW HKEY
        obtain ⟨pc, cc, pn, cn, hb3, hoc, hon, hap⟩ := HWJ.out.rows
        have HB3 := Lib.hid hb3
        have HOC := Lib.hid hoc
        have HON := Lib.hid hon
        have HAP := Lib.hid hap
        have h00 := HWJ.out.b0.cell0
        have h10 := HWJ.out.b1.cell0
        have h30 := hb3.cell0
        have f30 := hb3.free 0
        obtain ⟨b2, o2, e2, hcp⟩ := slq_at (HP.out.below HWJ.out.low) (show i < (l.map Prod.fst).length by simpa using HIL.out)
        simp only [Option.some.injEq, Addr.mk.injEq, and_true] at e2
        obtain ⟨rfl, rfl⟩ := e2
        obtain ⟨b2, o2, e2, hcp'⟩ := slq_at (HP'.out.below HWJ.out.low) (show j < (m.map Prod.fst).length by simpa using HJL.out)
        simp only [Option.some.injEq, Addr.mk.injEq, and_true] at e2
        obtain ⟨rfl, rfl⟩ := e2
        rw [HX.out] at hcp
        rw [HY.out] at hcp'
        obtain ⟨dl, hdl⟩ : ∃ dl, dl = don.length := ⟨_, rfl⟩
        rw [← hdl] at hb3 h30 hoc hon HB3 HOC HON HAP
        have HDL := Lib.hid hdl
        have hdm : dl ≤ 1000000 := HDM.out hdl
        have hdmI : (dl : Int) ≤ 1000000 := by omega
        have hrow := ownQ_row hoc (show dl = (don.map Prod.fst).length by rw [List.length_map]; exact hdl)
        have HR := Lib.hid hrow
        have HNE : Hid ((Value.slice pc dl cc).ownBlock ≠ some (B + 1 + 1 + 1)) := ownQ_ne hoc (show W1.heap[B + 1 + 1 + 1]? = some _ from hb3) (by intro c fz e; injection e with _ h2 _; exact absurd h2 (by decide))
        have NB : Hid ((Value.slice pc dl cc).ownBlock ≠ some B ∧ (Value.slice pc dl cc).ownBlock ≠ some (B + 1) ∧ (Value.slice pc dl cc).ownBlock ≠ some bp ∧ (Value.slice pc dl cc).ownBlock ≠ some bp') := by
          have n0 := ownQ_ne hoc (show W1.heap[B]? = some _ from HWJ.out.b0) (by intro c fz e; injection e with _ h2 _; exact absurd h2 (by decide))
          have n1 := ownQ_ne hoc (show W1.heap[B + 1]? = some _ from HWJ.out.b1) (by intro c fz e; injection e with _ h2 _; exact absurd h2 (by decide))
          have lp := HLT.out.1
          have lp' := HLT.out.2
          exact ⟨n0, n1, fun e => by have := (hrow.lt _ e).1; omega, fun e => by have := (hrow.lt _ e).1; omega⟩
        have ln0 : B < W1.heap.size := World.block_lt_of_cell? W1 _ h00
        have ln1 : B + 1 < W1.heap.size := World.block_lt_of_cell? W1 _ h10
        have lnp : bp < W1.heap.size := World.block_lt_of_cell? W1 _ hcp
        have lnp' : bp' < W1.heap.size := World.block_lt_of_cell? W1 _ hcp'
        have hsz1 := hb3.lt
        have HS1 := Lib.hid (show B ≤ W1.heap.size by omega)
        clear hb3 hoc hon hap hdl hrow
        obtain ⟨mx, hmx⟩ : ∃ mx, (if x < y then y else x) = mx := ⟨_, rfl⟩
        have HMX : Hid (mx = max x y) := by show mx = _; rw [← hmx]; split <;> omega
        have q00 := ((bl_alloc W1 (.cells #[.int .i64 (mx)] 3)).cell (World.block_lt_of_cell? W1 _ h00)).trans h00
        have q10 := ((bl_alloc W1 (.cells #[.int .i64 (mx)] 3)).cell (World.block_lt_of_cell? W1 _ h10)).trans h10
        have q30 := ((bl_alloc W1 (.cells #[.int .i64 (mx)] 3)).cell (World.block_lt_of_cell? W1 _ h30)).trans h30
        have qcp := ((bl_alloc W1 (.cells #[.int .i64 (mx)] 3)).cell (World.block_lt_of_cell? W1 _ hcp)).trans hcp
        have qcp' := ((bl_alloc W1 (.cells #[.int .i64 (mx)] 3)).cell (World.block_lt_of_cell? W1 _ hcp')).trans hcp'
        refine wp_region_K (S := fun (W : World) => W.cell? ⟨B, 0, none⟩ = some (.slice (some ⟨bp, op, none⟩) n c) ∧ W.cell? ⟨B + 1, 0, none⟩ = some (.slice (some ⟨bp', op', none⟩) k c') ∧ W.cell? ⟨bp, op + i, none⟩ = some (.int .i64 x) ∧ W.cell? ⟨bp', op' + j, none⟩ = some (.int .i64 y) ∧ W.cell? ⟨B + 1 + 1 + 1, 0, none⟩ = some (.slice pc dl cc)) 16 (by kernel_rfl) ?_
        have hHeld : (fun (W : World) => W.cell? ⟨B, 0, none⟩ = some (.slice (some ⟨bp, op, none⟩) n c) ∧ W.cell? ⟨B + 1, 0, none⟩ = some (.slice (some ⟨bp', op', none⟩) k c') ∧ W.cell? ⟨bp, op + i, none⟩ = some (.int .i64 x) ∧ W.cell? ⟨bp', op' + j, none⟩ = some (.int .i64 y) ∧ W.cell? ⟨B + 1 + 1 + 1, 0, none⟩ = some (.slice pc dl cc)) W1.drew := ⟨h00, h10, hcp, hcp', h30⟩
        refine anyK_take (i := 0) (oi := { dst := some 49, op := Op.fieldAddr 37 (Operand.tmp 6) 0, type := 0, pos := "pieces.go:86", after := #[], guard := none }) (u := ?_) rfl (by kernel_rfl) (fun _ _ _ h => h) (Or.inl ⟨by kernel_rfl, ?_⟩) hHeld ?_
        rotate_left
        focus (intro w hSw; (try dsimp only at hSw); go_simp; try with_reducible rfl)
        try simp only [Act.put, List.setIfInBounds_toArray, List.set_cons_zero, List.set_cons_succ]
        refine anyK_take (i := 1) (oi := { dst := some 50, op := Op.load 35 (Operand.tmp 49), type := 35, pos := "pieces.go:86", after := #[{ on := 0, ground := Ground.data }], guard := none }) (u := ?_) rfl (by kernel_rfl) (fun _ _ _ h => h) (Or.inl ⟨by kernel_rfl, ?_⟩) hHeld ?_
        rotate_left
        focus (intro w hSw; (try dsimp only at hSw); go_simp; try with_reducible rfl)
        try simp only [Act.put, List.setIfInBounds_toArray, List.set_cons_zero, List.set_cons_succ]
        refine anyK_take (i := 2) (oi := { dst := some 51, op := Op.fieldAddr 37 (Operand.tmp 2) 0, type := 0, pos := "pieces.go:86", after := #[], guard := none }) (u := ?_) rfl (by kernel_rfl) (fun _ _ _ h => h) (Or.inl ⟨by kernel_rfl, ?_⟩) hHeld ?_
        rotate_left
        focus (intro w hSw; (try dsimp only at hSw); go_simp; try with_reducible rfl)
        try simp only [Act.put, List.setIfInBounds_toArray, List.set_cons_zero, List.set_cons_succ]
        refine anyK_take (i := 3) (oi := { dst := some 52, op := Op.load 35 (Operand.tmp 51), type := 35, pos := "pieces.go:86", after := #[{ on := 2, ground := Ground.data }], guard := none }) (u := ?_) rfl (by kernel_rfl) (fun _ _ _ h => h) (Or.inl ⟨by kernel_rfl, ?_⟩) hHeld ?_
        rotate_left
        focus (intro w hSw; (try dsimp only at hSw); go_simp; try with_reducible rfl)
        try simp only [Act.put, List.setIfInBounds_toArray, List.set_cons_zero, List.set_cons_succ]
        refine anyK_take (i := 4) (oi := { dst := some 53, op := Op.move (Operand.tmp 8), type := 3, pos := "pieces.go:86", after := #[], guard := none }) (u := ?_) rfl (by kernel_rfl) (fun _ _ _ h => h) (Or.inl ⟨by kernel_rfl, ?_⟩) hHeld ?_
        rotate_left
        focus (intro w hSw; (try dsimp only at hSw); go_simp; try with_reducible rfl)
        try simp only [Act.put, List.setIfInBounds_toArray, List.set_cons_zero, List.set_cons_succ]
        refine anyK_take (i := 5) (oi := { dst := some 54, op := Op.indexAddr 35 (Operand.tmp 52) (Operand.tmp 53), type := 0, pos := "pieces.go:86", after := #[{ on := 3, ground := Ground.data }, { on := 4, ground := Ground.data }], guard := none }) (u := ?_) rfl (by kernel_rfl) (fun _ _ _ h => h) (Or.inl ⟨by kernel_rfl, ?_⟩) hHeld ?_
        rotate_left
        focus (intro w hSw; (try dsimp only at hSw); go_simp; try with_reducible rfl)
        try simp only [Act.put, List.setIfInBounds_toArray, List.set_cons_zero, List.set_cons_succ]
        refine anyK_take (i := 6) (oi := { dst := some 55, op := Op.load 3 (Operand.tmp 54), type := 3, pos := "pieces.go:86", after := #[{ on := 5, ground := Ground.data }], guard := none }) (u := ?_) rfl (by kernel_rfl) (fun _ _ _ h => h) (Or.inl ⟨by kernel_rfl, ?_⟩) hHeld ?_
        rotate_left
        focus (intro w hSw; (try dsimp only at hSw); go_simp; try with_reducible rfl)
        try simp only [Act.put, List.setIfInBounds_toArray, List.set_cons_zero, List.set_cons_succ]
        refine anyK_take (i := 7) (oi := { dst := some 56, op := Op.fieldAddr 37 (Operand.tmp 3) 0, type := 0, pos := "pieces.go:86", after := #[], guard := none }) (u := ?_) rfl (by kernel_rfl) (fun _ _ _ h => h) (Or.inl ⟨by kernel_rfl, ?_⟩) hHeld ?_
        rotate_left
        focus (intro w hSw; (try dsimp only at hSw); go_simp; try with_reducible rfl)
        try simp only [Act.put, List.setIfInBounds_toArray, List.set_cons_zero, List.set_cons_succ]
        refine anyK_take (i := 8) (oi := { dst := some 57, op := Op.load 35 (Operand.tmp 56), type := 35, pos := "pieces.go:86", after := #[{ on := 7, ground := Ground.data }], guard := none }) (u := ?_) rfl (by kernel_rfl) (fun _ _ _ h => h) (Or.inl ⟨by kernel_rfl, ?_⟩) hHeld ?_
        rotate_left
        focus (intro w hSw; (try dsimp only at hSw); go_simp; try with_reducible rfl)
        try simp only [Act.put, List.setIfInBounds_toArray, List.set_cons_zero, List.set_cons_succ]
        refine anyK_take (i := 9) (oi := { dst := some 58, op := Op.move (Operand.tmp 9), type := 3, pos := "pieces.go:86", after := #[], guard := none }) (u := ?_) rfl (by kernel_rfl) (fun _ _ _ h => h) (Or.inl ⟨by kernel_rfl, ?_⟩) hHeld ?_
        rotate_left
        focus (intro w hSw; (try dsimp only at hSw); go_simp; try with_reducible rfl)
        try simp only [Act.put, List.setIfInBounds_toArray, List.set_cons_zero, List.set_cons_succ]
        refine anyK_take (i := 10) (oi := { dst := some 59, op := Op.indexAddr 35 (Operand.tmp 57) (Operand.tmp 58), type := 0, pos := "pieces.go:86", after := #[{ on := 8, ground := Ground.data }, { on := 9, ground := Ground.data }], guard := none }) (u := ?_) rfl (by kernel_rfl) (fun _ _ _ h => h) (Or.inl ⟨by kernel_rfl, ?_⟩) hHeld ?_
        rotate_left
        focus (intro w hSw; (try dsimp only at hSw); go_simp; try with_reducible rfl)
        try simp only [Act.put, List.setIfInBounds_toArray, List.set_cons_zero, List.set_cons_succ]
        refine anyK_take (i := 11) (oi := { dst := some 60, op := Op.load 3 (Operand.tmp 59), type := 3, pos := "pieces.go:86", after := #[{ on := 10, ground := Ground.data }], guard := none }) (u := ?_) rfl (by kernel_rfl) (fun _ _ _ h => h) (Or.inl ⟨by kernel_rfl, ?_⟩) hHeld ?_
        rotate_left
        focus (intro w hSw; (try dsimp only at hSw); go_simp; try with_reducible rfl)
        try simp only [Act.put, List.setIfInBounds_toArray, List.set_cons_zero, List.set_cons_succ]
        refine anyK_take (i := 12) (oi := { dst := some 61, op := Op.call { callee := Callee.builtin Builtin.max, args := #[Operand.tmp 55, Operand.tmp 60], argTypes := #[3, 3] }, type := 3, pos := "pieces.go:86", after := #[{ on := 6, ground := Ground.data }, { on := 11, ground := Ground.data }], guard := none }) (u := ?_) rfl (by kernel_rfl) (fun _ _ _ h => h) (Or.inl ⟨by kernel_rfl, ?_⟩) hHeld ?_
        rotate_left
        focus (intro w hSw; (try dsimp only at hSw); go_simp; try with_reducible rfl)
        try simp only [Act.put, List.setIfInBounds_toArray, List.set_cons_zero, List.set_cons_succ]
        refine anyK_one (i := 13) (o := { dst := some 62, op := Op.buildSlice 35 1 #[(0, Operand.tmp 61)], type := 35, pos := "pieces.go:86", after := #[{ on := 12, ground := Ground.data }], guard := none }) (by kernel_rfl) rfl (fun K hK => ?_)
        go_simp
        refine hK.out _ _ (fun _ => ⟨q00, q10, qcp, qcp', q30⟩) ?_
        clear hK K hHeld
        have hHeld : (fun (W : World) => W.cell? ⟨B, 0, none⟩ = some (.slice (some ⟨bp, op, none⟩) n c) ∧ W.cell? ⟨B + 1, 0, none⟩ = some (.slice (some ⟨bp', op', none⟩) k c') ∧ W.cell? ⟨bp, op + i, none⟩ = some (.int .i64 x) ∧ W.cell? ⟨bp', op' + j, none⟩ = some (.int .i64 y) ∧ W.cell? ⟨B + 1 + 1 + 1, 0, none⟩ = some (.slice pc dl cc)) (W1.alloc (.cells #[.int .i64 mx] 3)).drew := ⟨q00, q10, qcp, qcp', q30⟩
        try simp only [Act.put, List.setIfInBounds_toArray, List.set_cons_zero, List.set_cons_succ]
        refine anyK_one (i := 14) (o := { dst := some 63, op := Op.call { callee := Callee.builtin Builtin.append, args := #[Operand.tmp 50, Operand.tmp 62], argTypes := #[35, 35] }, type := 35, pos := "pieces.go:86", after := #[{ on := 1, ground := Ground.data }, { on := 13, ground := Ground.data }], guard := none }) (by kernel_rfl) rfl (fun K hK => ?_)
        refine step_append_lies _ (by rfl) _ _ _ (by rfl) B 3 i0 _ 1 8 Tryz.underlying35 hinf hz0 hz1 hz2 rfl (by omega) (.slice pc dl cc) dl _ (by rfl) ((HR.out.alloc _).drew) ⟨W1.heap.size, 0, none⟩ 1 1 [.int .i64 mx] (by rfl) (by rfl) (World.news_of_block (cs := #[.int .i64 mx]) (t := 3) (fr := (0, 0)) (heap_alloc_new W1 _)) (by simp [Value.oneCell']) (by omega) (by simp only [maxLen]; omega) (by omega) (by have := HS1.out; simp; omega) (W1.heap.size + 1) (by simp) ?_
        intro gg cap w2 hown2 hgrow2 hat2 hlt2
        have hbw : Box2 w2 (B + 1 + 1 + 1) 37 (.slice pc dl cc) (.slice pn dl cn) := Box2.kept (show Box2 ((W1.alloc (.cells #[.int .i64 mx] 3)).drew) (B + 1 + 1 + 1) 37 (.slice pc dl cc) (.slice pn dl cn) from HB3.out.below (bl_alloc _ _).drew) hgrow2 (Ne.symm HNE.out)
        have hc2 := hbw.cell0
        have hf2 := hbw.free 0
        have HBW := Lib.hid hbw
        have v00 := (hgrow2.cell_far ⟨B, 0, none⟩ (by show B < _; simp; omega) (Ne.symm NB.out.1)).trans q00
        have v10 := (hgrow2.cell_far ⟨B + 1, 0, none⟩ (by show B + 1 < _; simp; omega) (Ne.symm NB.out.2.1)).trans q10
        have vcp := (hgrow2.cell_far ⟨bp, op + i, none⟩ (by show bp < _; simp; omega) (Ne.symm NB.out.2.2.1)).trans qcp
        have vcp' := (hgrow2.cell_far ⟨bp', op' + j, none⟩ (by show bp' < _; simp; omega) (Ne.symm NB.out.2.2.2)).trans qcp'
        have HA := Lib.hid (aft_first (w := W1) HDL.out hbw HR.out HON.out HAP.out hown2 hgrow2 hat2 HS1.out)
        refine hK.out _ _ (fun _ => ⟨v00, v10, vcp, vcp', hc2⟩) ?_
        clear hK K hHeld hbw hown2 hgrow2 hat2
        have hHeld : (fun (W : World) => W.cell? ⟨B, 0, none⟩ = some (.slice (some ⟨bp, op, none⟩) n c) ∧ W.cell? ⟨B + 1, 0, none⟩ = some (.slice (some ⟨bp', op', none⟩) k c') ∧ W.cell? ⟨bp, op + i, none⟩ = some (.int .i64 x) ∧ W.cell? ⟨bp', op' + j, none⟩ = some (.int .i64 y) ∧ W.cell? ⟨B + 1 + 1 + 1, 0, none⟩ = some (.slice pc dl cc)) w2 := ⟨v00, v10, vcp, vcp', hc2⟩
        try simp only [Act.put, List.setIfInBounds_toArray, List.set_cons_zero, List.set_cons_succ]
        refine anyK_take (i := 15) (oi := { dst := some 64, op := Op.fieldAddr 37 (Operand.tmp 6) 0, type := 0, pos := "pieces.go:86", after := #[{ on := 0, ground := Ground.phase }, { on := 1, ground := Ground.phase }, { on := 2, ground := Ground.phase }, { on := 3, ground := Ground.phase }, { on := 4, ground := Ground.phase }, { on := 5, ground := Ground.phase }, { on := 6, ground := Ground.phase }, { on := 7, ground := Ground.phase }, { on := 8, ground := Ground.phase }, { on := 9, ground := Ground.phase }, { on := 10, ground := Ground.phase }, { on := 11, ground := Ground.phase }, { on := 12, ground := Ground.phase }, { on := 13, ground := Ground.phase }, { on := 14, ground := Ground.phase }], guard := none }) (u := ?_) rfl (by kernel_rfl) (fun _ _ _ h => h) (Or.inl ⟨by kernel_rfl, ?_⟩) hHeld ?_
        rotate_left
        focus (intro w hSw; (try dsimp only at hSw); go_simp; try with_reducible rfl)
        try simp only [Act.put, List.setIfInBounds_toArray, List.set_cons_zero, List.set_cons_succ]
        refine anyK_one (i := 16) (o := { dst := none, op := Op.store 35 (Operand.tmp 64) (Operand.tmp 63), type := 0, pos := "pieces.go:86", after := #[{ on := 15, ground := Ground.data }, { on := 14, ground := Ground.data }, { on := 14, ground := Ground.chain }, { on := 0, ground := Ground.phase }, { on := 1, ground := Ground.phase }, { on := 2, ground := Ground.phase }, { on := 3, ground := Ground.phase }, { on := 4, ground := Ground.phase }, { on := 5, ground := Ground.phase }, { on := 6, ground := Ground.phase }, { on := 7, ground := Ground.phase }, { on := 8, ground := Ground.phase }, { on := 9, ground := Ground.phase }, { on := 10, ground := Ground.phase }, { on := 11, ground := Ground.phase }, { on := 12, ground := Ground.phase }, { on := 13, ground := Ground.phase }, { on := 14, ground := Ground.phase }], guard := none }) (by kernel_rfl) rfl (fun K hK => ?_)
        go_simp
        refine hK.out _ _ (fun h => absurd h (by decide)) ?_
        clear hK K hHeld v00 v10 vcp vcp' hc2 hf2 HBW hlt2 q00 q10 q30 qcp qcp' h00 h10 h30 f30 hcp hcp' hmx
        try simp only [Act.put, List.setIfInBounds_toArray, List.set_cons_zero, List.set_cons_succ]
        refine anyK_done (by kernel_rfl) ?_ _
        obtain ⟨W3, hW3⟩ : ∃ W3, W3 = w2.setCell ⟨B + 1 + 1 + 1, 0, none⟩ (.slice (some ⟨gg, 0, none⟩) (dl + 1) cap) := ⟨_, rfl⟩
        rw [← hW3] at HA ⊢
        clear hW3
        have h31 := HA.out.box.cell1
        have hlen2 : dl = ((numd don).map fun x => (x.2 : Int)).length := by rw [List.length_map]; unfold numd; rw [List.length_map]; exact HDL.out
        have HR2 := Lib.hid (ownQ_row HA.out.two hlen2)
        have HL2 := Lib.hid hlen2
        have HNE2 : Hid ((Value.slice pn dl cn).ownBlock ≠ some (B + 1 + 1 + 1)) := ownQ_ne HA.out.two (show W3.heap[B + 1 + 1 + 1]? = some _ from HA.out.box) (by intro c fz e; injection e with _ h2 _; exact absurd h2 (by decide))
        have HS3 : Hid (B ≤ W3.heap.size) := by have := HA.out.box.lt; show _ ≤ _; omega
        have HSS : Hid (W1.heap.size ≤ W3.heap.size) := (HA.out.low W1 (Below.refl _ _)).size
        clear hlen2
        go_wp2_with (at_builtin; refine wpList_append_lies _ rfl _ _ 32 rfl B 3 i0 (.int .i64 0) 1 8 Tryz.underlying32 hinf hz0 hz1 hz2 rfl (by decide) (.slice pn dl cn) dl _ rfl (HR2.out.alloc _) ⟨W3.heap.size, 0, none⟩ 1 1 [.int .i64 (num : Nat)] rfl rfl (cells_one_q _ _ _) (by simp [Value.oneCell']) (by omega) (by simp only [maxLen]; omega) (by omega) (by have := HS3.out; simp; omega) (W3.heap.size + 1) (by simp) ?_; intro g2 cap2 w4 hown4 hgrow4 hat4 hlt4; have hbw4 : Box2 w4 (B + 1 + 1 + 1) 37 (.slice (some ⟨gg, 0, none⟩) (dl + 1) cap) (.slice pn dl cn) := Box2.kept (HA.out.box.below (bl_alloc W3 (.cells #[.int .i64 (num : Nat)] 3))) hgrow4 (Ne.symm HNE2.out); have hc4 := hbw4.cell1; have hf4 := hbw4.free 1; have HBW4 := Lib.hid hbw4; have HA4 := Lib.hid (aft_second HA.out HL2.out HR2.out hbw4 hown4 hgrow4 hat4 HS3.out HSS.out); clear hbw4 hown4 hgrow4 hat4 hlt4)
        obtain ⟨W5, hW5⟩ : ∃ W5, W5 = w4.setCell ⟨B + 1 + 1 + 1, 1, none⟩ (.slice (some ⟨g2, 0, none⟩) (dl + 1) cap2) := ⟨_, rfl⟩
        rw [← hW5] at HA4 ⊢
        clear hW5 h31 hc4 hf4 HA HBW4 HNE2 HR2 HL2 HS3 HSS ln0 ln1 lnp lnp' hsz1
        have HL5 : Hid (Below w.heap.size w W5) := by
          have h := HA4.out.low w (by rw [HB.out]; exact HWJ.out.low)
          rw [HB.out] at h
          exact h
        have k0 : Box2 W5 B 37 _ _ := HWJ.out.b0.at (HA4.out.same B HWJ.out.b0.lt (by omega) (ni_of (show W1.heap[B]? = some _ from HWJ.out.b0) (by decide)))
        have k1 : Box2 W5 (B + 1) 37 _ _ := HWJ.out.b1.at (HA4.out.same (B + 1) HWJ.out.b1.lt (by omega) (ni_of (show W1.heap[B + 1]? = some _ from HWJ.out.b1) (by decide)))
        have h00 := k0.cell0
        have h10 := k1.cell0
        clear k0 k1
        obtain ⟨e1, he1⟩ : ∃ e1, e1 = endQ (l.map Prod.fst) i := ⟨_, rfl⟩
        obtain ⟨e2, he2⟩ : ∃ e2, e2 = endQ (m.map Prod.fst) j := ⟨_, rfl⟩
        have HLA : Hid (∀ r, Calls Tryz.prog 30 #[.slice (some ⟨bp, op, none⟩) n c, .int .i64 (i : Nat)] (W5.drewN r) fun e w' => e = .returned (.int .i64 e1) ∧ w' = W5.drewN r) := by
          intro r
          have h := last_any (some ⟨bp, op, none⟩) c n i (l.map Prod.fst) (W5.drewN r) (by rw [List.length_map]; exact HN.out) ((HP.out.below HL5.out).below (drewN_below _ _)) hin (by omega) (good_inQ HL.out)
          rw [he1]; exact h.mono fun _ _ h => ⟨h.1, h.2.symm⟩
        have HLB : Hid (∀ r, Calls Tryz.prog 30 #[.slice (some ⟨bp', op', none⟩) k c', .int .i64 (j : Nat)] (W5.drewN r) fun e w' => e = .returned (.int .i64 e2) ∧ w' = W5.drewN r) := by
          intro r
          have h := last_any (some ⟨bp', op', none⟩) c' k j (m.map Prod.fst) (W5.drewN r) (by rw [List.length_map]; exact HK.out) ((HP'.out.below HL5.out).below (drewN_below _ _)) hjk (by omega) (good_inQ HM.out)
          rw [he2]; exact h.mono fun _ _ h => ⟨h.1, h.2.symm⟩
        have HE1 : Hid (e1 = ends (l.drop i)) := by rw [he1]; exact endQ_ends HIL.out
        have HE2 : Hid (e2 = ends (m.drop j)) := by rw [he2]; exact endQ_ends HJL.out
        have HNEXT : Hid (∀ (i' j' r : Nat), i' = (if e1 ≤ e2 then i + 1 else i) → j' = (if e2 ≤ e1 then j + 1 else j) → WI w (W5.drewN r) B l m (.slice (some ⟨bp, op, none⟩) n c) (.slice (some ⟨bq, oq, none⟩) n d) (.slice (some ⟨bp', op', none⟩) k c') (.slice (some ⟨bq', oq', none⟩) k d') i' j' (don ++ [(max x y, (a, b))])) := by
          intro i' j' r hi hj
          rw [HE1.out, HE2.out] at hi hj
          have ha := HA4.out
          rw [HMX.out] at ha
          exact (wi_next HW.out HWJ.out HDL.out ha HB.out H60.out (merge_at HW.out.eq HW.out.st HD.out HD'.out hi hj)).drew r
        clear he1 he2 HE1 HE2 HA4 HL5 HMX HDL HB3 HOC HON HAP HR HNE HS1 NB hdm hdmI
        go_quiet ((go_at_call 30; first | (with_reducible exact (HLA.out _).mono fun _ _ h => ⟨h.1, _, h.2⟩) | (with_reducible exact (HLB.out _).mono fun _ _ h => ⟨h.1, _, h.2⟩)))
        by_cases c1 : e1 ≤ e2
        · by_cases c2 : e2 ≤ e1
          · go_wp2
            go_roundw
            case rel => exact ⟨i + 1, j + 1, _, by go_num, by go_num, by omega, HNEXT.out _ _ _ (by rw [if_pos c1]) (by rw [if_pos c2])⟩
            case measure => simp [intOf]; omega
          · have c2' : e1 < e2 := by omega
            go_wp2
            go_roundw
            case rel => exact ⟨i + 1, j, _, by go_num, rfl, by omega, HNEXT.out _ _ _ (by rw [if_pos c1]) (by rw [if_neg c2])⟩
            case measure => simp [intOf]; omega
        · have c1' : e2 < e1 := by omega
          go_wp2
          go_roundw
          case rel => exact ⟨i, j + 1, _, rfl, by go_num, by omega, HNEXT.out _ _ _ (by rw [if_neg c1]) (by rw [if_pos (by omega)])⟩
          case measure => simp [intOf]; omega
      · have hno : Maps.has D (kl (a, b)) = false := by rw [hDI.has _ hsm]; simpa using hmem
        have HAT : Hid (D.atKey (kl (a, b)) (.lit (.int .i64 0)) = .lit (.int .i64 0)) := atKey_of_not_has hno _
        have HHAS := Lib.hid hno
        obtain ⟨num, hq⟩ : ∃ num, num = nk := ⟨_, rfl⟩
        subst hq
        have HPUT : Hid (MapIs (D.put (kl (a, b)) (.lit (.int .i64 (num : Nat)))) (K ++ [(a, b)])) := by
          have h := hDI.put hsm hmem
          rw [← hnk] at h
          exact h
        have hnm : num ≤ 60 := by omega
        have EK : Hid (keysOn (keys don) ((0 : Int), (a, b)) = K ++ [(a, b)]) := by
          show keysOn _ _ = _
          unfold keysOn
          rw [← hKK, if_neg hmem]
        have HIX : Hid (num = ix (keysOn (keys don) ((0 : Int), (a, b))) (a, b)) := by
          rw [EK.out]
          show num = _
          rw [ix_snoc_new hmem]; exact hnk
        have HNK := Lib.hid hnk
        have HDD := Lib.hid hD
        have hb2 := HW.out.b2
        have hB4 := hD.lt
        have HB4 := Lib.hid hB4
        clear hmem hno hKK hnk hfew hsm hsz hDI hD hD5 hB4
        by_cases h60 : num < 60
        · have hltI : decide ((60 : Int) ≤ (num : Nat)) = false := by simp; omega
          clear hb2
          go_wp2_with (first
            | (at_lookup; refine wpList_lookup_num _ rfl _ _ _ rfl _ _ key_law und_map und_int (zero_int _) _ _ _ rfl HD5.out _ _ rfl HKEY.out 0 false HAT.out HHAS.out ?_)
            | (at_len; refine wpList_len_num _ rfl _ _ rfl _ _ und_map _ _ _ _ rfl HD5.out num HSZ.out ?_)
            | (at_mapUpdate; refine wpList_mapUpdate_own _ rfl _ _ _ _ rfl _ _ key_law und_map _ _ _ _ rfl HD5.out (by unfold maxLen; omega) _ _ _ rfl rfl HKEY.out _ [] (plainElem_int und_int (WalkArith.wf_i64 (by omega))) ?_; intro W1 hown1 hgrow1; have HOW1 := Lib.hid hown1; have HGR1 := Lib.hid hgrow1; clear hown1 hgrow1))
          have HWJ : Hid (WJ w W1 B (.slice (some ⟨bp, op, none⟩) n c) (.slice (some ⟨bq, oq, none⟩) n d) (.slice (some ⟨bp', op', none⟩) k c') (.slice (some ⟨bq', oq', none⟩) k d') don (a, b) num) := by
            have hbl : Below wr.heap.size wr (wr.alloc (.cells #[.int .i64 (a : Nat), .int .i64 (b : Nat)] 95)).drew := (bl_alloc _ _).drew
            obtain ⟨pc, cc, pn, cn, r1, r2, r3, r4⟩ := HW.out.rows
            have hg := HGR1.out
            have nm1 := ownQ_notmap (ownQ_below r2 hbl) HD5.out
            have nm2 := ownQ_notmap (ownQ_below r3 hbl) HD5.out
            refine ⟨(HW.out.b0.below hbl).kept hg (by simp; omega), (HW.out.b1.below hbl).kept hg (by simp), (HW.out.b2.below hbl).kept hg (by simp), ⟨D.put (kl (a, b)) (.lit (.int .i64 (num : Nat))), ?_, ?_⟩, ⟨pc, cc, pn, cn, (r1.below hbl).kept hg (by simp), ownQ_kept (ownQ_below r2 hbl) hg (.inr nm1), ownQ_kept (ownQ_below r3 hbl) hg (.inr nm2), r4⟩, ?_, ?_⟩
            · rw [EK.out, List.length_append, ← HNK.out]; exact HOW1.out
            · rw [EK.out]; exact HPUT.out
            · have hl := HW.out.low
              have h4 := HB4.out
              refine (bl_trans hl hbl |>.grown hg ?_ fun k hk => ?_)
              · have := hl.size; simp; omega
              · have := HB.out
                simp only [Option.some.injEq] at hk
                omega
            · exact HIX.out
          have H60 : Hid (num < 60) := h60
          clear h00 h01 h10 h11 g01 g11 gcq gcq' hcp hcq hcp' hcq' HD5 HAT HHAS HSZ HDI HKEY HPUT EK HIX HNK HDD HB4 HOW1 HGR1
          obtain ⟨pc, cc, pn, cn, hb3, hoc, hon, hap⟩ := HWJ.out.rows
          have HB3 := Lib.hid hb3
          have HOC := Lib.hid hoc
          have HON := Lib.hid hon
          have HAP := Lib.hid hap
          have h00 := HWJ.out.b0.cell0
          have h10 := HWJ.out.b1.cell0
          have h30 := hb3.cell0
          have f30 := hb3.free 0
          obtain ⟨b2, o2, e2, hcp⟩ := slq_at (HP.out.below HWJ.out.low) (show i < (l.map Prod.fst).length by simpa using HIL.out)
          simp only [Option.some.injEq, Addr.mk.injEq, and_true] at e2
          obtain ⟨rfl, rfl⟩ := e2
          obtain ⟨b2, o2, e2, hcp'⟩ := slq_at (HP'.out.below HWJ.out.low) (show j < (m.map Prod.fst).length by simpa using HJL.out)
          simp only [Option.some.injEq, Addr.mk.injEq, and_true] at e2
          obtain ⟨rfl, rfl⟩ := e2
          rw [HX.out] at hcp
          rw [HY.out] at hcp'
          obtain ⟨dl, hdl⟩ : ∃ dl, dl = don.length := ⟨_, rfl⟩
          rw [← hdl] at hb3 h30 hoc hon HB3 HOC HON HAP
          have HDL := Lib.hid hdl
          have hdm : dl ≤ 1000000 := HDM.out hdl
          have hdmI : (dl : Int) ≤ 1000000 := by omega
          have hrow := ownQ_row hoc (show dl = (don.map Prod.fst).length by rw [List.length_map]; exact hdl)
          have HR := Lib.hid hrow
          have HNE : Hid ((Value.slice pc dl cc).ownBlock ≠ some (B + 1 + 1 + 1)) := ownQ_ne hoc (show W1.heap[B + 1 + 1 + 1]? = some _ from hb3) (by intro c fz e; injection e with _ h2 _; exact absurd h2 (by decide))
          have NB : Hid ((Value.slice pc dl cc).ownBlock ≠ some B ∧ (Value.slice pc dl cc).ownBlock ≠ some (B + 1) ∧ (Value.slice pc dl cc).ownBlock ≠ some bp ∧ (Value.slice pc dl cc).ownBlock ≠ some bp') := by
            have n0 := ownQ_ne hoc (show W1.heap[B]? = some _ from HWJ.out.b0) (by intro c fz e; injection e with _ h2 _; exact absurd h2 (by decide))
            have n1 := ownQ_ne hoc (show W1.heap[B + 1]? = some _ from HWJ.out.b1) (by intro c fz e; injection e with _ h2 _; exact absurd h2 (by decide))
            have lp := HLT.out.1
            have lp' := HLT.out.2
            exact ⟨n0, n1, fun e => by have := (hrow.lt _ e).1; omega, fun e => by have := (hrow.lt _ e).1; omega⟩
          have ln0 : B < W1.heap.size := World.block_lt_of_cell? W1 _ h00
          have ln1 : B + 1 < W1.heap.size := World.block_lt_of_cell? W1 _ h10
          have lnp : bp < W1.heap.size := World.block_lt_of_cell? W1 _ hcp
          have lnp' : bp' < W1.heap.size := World.block_lt_of_cell? W1 _ hcp'
          have hsz1 := hb3.lt
          have HS1 := Lib.hid (show B ≤ W1.heap.size by omega)
          clear hb3 hoc hon hap hdl hrow
          obtain ⟨mx, hmx⟩ : ∃ mx, (if x < y then y else x) = mx := ⟨_, rfl⟩
          have HMX : Hid (mx = max x y) := by show mx = _; rw [← hmx]; split <;> omega
          have q00 := ((bl_alloc W1 (.cells #[.int .i64 (mx)] 3)).cell (World.block_lt_of_cell? W1 _ h00)).trans h00
          have q10 := ((bl_alloc W1 (.cells #[.int .i64 (mx)] 3)).cell (World.block_lt_of_cell? W1 _ h10)).trans h10
          have q30 := ((bl_alloc W1 (.cells #[.int .i64 (mx)] 3)).cell (World.block_lt_of_cell? W1 _ h30)).trans h30
          have qcp := ((bl_alloc W1 (.cells #[.int .i64 (mx)] 3)).cell (World.block_lt_of_cell? W1 _ hcp)).trans hcp
          have qcp' := ((bl_alloc W1 (.cells #[.int .i64 (mx)] 3)).cell (World.block_lt_of_cell? W1 _ hcp')).trans hcp'
          refine wp_region_K (S := fun (W : World) => W.cell? ⟨B, 0, none⟩ = some (.slice (some ⟨bp, op, none⟩) n c) ∧ W.cell? ⟨B + 1, 0, none⟩ = some (.slice (some ⟨bp', op', none⟩) k c') ∧ W.cell? ⟨bp, op + i, none⟩ = some (.int .i64 x) ∧ W.cell? ⟨bp', op' + j, none⟩ = some (.int .i64 y) ∧ W.cell? ⟨B + 1 + 1 + 1, 0, none⟩ = some (.slice pc dl cc)) 16 (by kernel_rfl) ?_
          have hHeld : (fun (W : World) => W.cell? ⟨B, 0, none⟩ = some (.slice (some ⟨bp, op, none⟩) n c) ∧ W.cell? ⟨B + 1, 0, none⟩ = some (.slice (some ⟨bp', op', none⟩) k c') ∧ W.cell? ⟨bp, op + i, none⟩ = some (.int .i64 x) ∧ W.cell? ⟨bp', op' + j, none⟩ = some (.int .i64 y) ∧ W.cell? ⟨B + 1 + 1 + 1, 0, none⟩ = some (.slice pc dl cc)) W1.drew := ⟨h00, h10, hcp, hcp', h30⟩
          refine anyK_take (i := 0) (oi := { dst := some 49, op := Op.fieldAddr 37 (Operand.tmp 6) 0, type := 0, pos := "pieces.go:86", after := #[], guard := none }) (u := ?_) rfl (by kernel_rfl) (fun _ _ _ h => h) (Or.inl ⟨by kernel_rfl, ?_⟩) hHeld ?_
          rotate_left
          focus (intro w hSw; (try dsimp only at hSw); go_simp; try with_reducible rfl)
          try simp only [Act.put, List.setIfInBounds_toArray, List.set_cons_zero, List.set_cons_succ]
          refine anyK_take (i := 1) (oi := { dst := some 50, op := Op.load 35 (Operand.tmp 49), type := 35, pos := "pieces.go:86", after := #[{ on := 0, ground := Ground.data }], guard := none }) (u := ?_) rfl (by kernel_rfl) (fun _ _ _ h => h) (Or.inl ⟨by kernel_rfl, ?_⟩) hHeld ?_
          rotate_left
          focus (intro w hSw; (try dsimp only at hSw); go_simp; try with_reducible rfl)
          try simp only [Act.put, List.setIfInBounds_toArray, List.set_cons_zero, List.set_cons_succ]
          refine anyK_take (i := 2) (oi := { dst := some 51, op := Op.fieldAddr 37 (Operand.tmp 2) 0, type := 0, pos := "pieces.go:86", after := #[], guard := none }) (u := ?_) rfl (by kernel_rfl) (fun _ _ _ h => h) (Or.inl ⟨by kernel_rfl, ?_⟩) hHeld ?_
          rotate_left
          focus (intro w hSw; (try dsimp only at hSw); go_simp; try with_reducible rfl)
          try simp only [Act.put, List.setIfInBounds_toArray, List.set_cons_zero, List.set_cons_succ]
          refine anyK_take (i := 3) (oi := { dst := some 52, op := Op.load 35 (Operand.tmp 51), type := 35, pos := "pieces.go:86", after := #[{ on := 2, ground := Ground.data }], guard := none }) (u := ?_) rfl (by kernel_rfl) (fun _ _ _ h => h) (Or.inl ⟨by kernel_rfl, ?_⟩) hHeld ?_
          rotate_left
          focus (intro w hSw; (try dsimp only at hSw); go_simp; try with_reducible rfl)
          try simp only [Act.put, List.setIfInBounds_toArray, List.set_cons_zero, List.set_cons_succ]
          refine anyK_take (i := 4) (oi := { dst := some 53, op := Op.move (Operand.tmp 8), type := 3, pos := "pieces.go:86", after := #[], guard := none }) (u := ?_) rfl (by kernel_rfl) (fun _ _ _ h => h) (Or.inl ⟨by kernel_rfl, ?_⟩) hHeld ?_
          rotate_left
          focus (intro w hSw; (try dsimp only at hSw); go_simp; try with_reducible rfl)
          try simp only [Act.put, List.setIfInBounds_toArray, List.set_cons_zero, List.set_cons_succ]
          refine anyK_take (i := 5) (oi := { dst := some 54, op := Op.indexAddr 35 (Operand.tmp 52) (Operand.tmp 53), type := 0, pos := "pieces.go:86", after := #[{ on := 3, ground := Ground.data }, { on := 4, ground := Ground.data }], guard := none }) (u := ?_) rfl (by kernel_rfl) (fun _ _ _ h => h) (Or.inl ⟨by kernel_rfl, ?_⟩) hHeld ?_
          rotate_left
          focus (intro w hSw; (try dsimp only at hSw); go_simp; try with_reducible rfl)
          try simp only [Act.put, List.setIfInBounds_toArray, List.set_cons_zero, List.set_cons_succ]
          refine anyK_take (i := 6) (oi := { dst := some 55, op := Op.load 3 (Operand.tmp 54), type := 3, pos := "pieces.go:86", after := #[{ on := 5, ground := Ground.data }], guard := none }) (u := ?_) rfl (by kernel_rfl) (fun _ _ _ h => h) (Or.inl ⟨by kernel_rfl, ?_⟩) hHeld ?_
          rotate_left
          focus (intro w hSw; (try dsimp only at hSw); go_simp; try with_reducible rfl)
          try simp only [Act.put, List.setIfInBounds_toArray, List.set_cons_zero, List.set_cons_succ]
          refine anyK_take (i := 7) (oi := { dst := some 56, op := Op.fieldAddr 37 (Operand.tmp 3) 0, type := 0, pos := "pieces.go:86", after := #[], guard := none }) (u := ?_) rfl (by kernel_rfl) (fun _ _ _ h => h) (Or.inl ⟨by kernel_rfl, ?_⟩) hHeld ?_
          rotate_left
          focus (intro w hSw; (try dsimp only at hSw); go_simp; try with_reducible rfl)
          try simp only [Act.put, List.setIfInBounds_toArray, List.set_cons_zero, List.set_cons_succ]
          refine anyK_take (i := 8) (oi := { dst := some 57, op := Op.load 35 (Operand.tmp 56), type := 35, pos := "pieces.go:86", after := #[{ on := 7, ground := Ground.data }], guard := none }) (u := ?_) rfl (by kernel_rfl) (fun _ _ _ h => h) (Or.inl ⟨by kernel_rfl, ?_⟩) hHeld ?_
          rotate_left
          focus (intro w hSw; (try dsimp only at hSw); go_simp; try with_reducible rfl)
          try simp only [Act.put, List.setIfInBounds_toArray, List.set_cons_zero, List.set_cons_succ]
          refine anyK_take (i := 9) (oi := { dst := some 58, op := Op.move (Operand.tmp 9), type := 3, pos := "pieces.go:86", after := #[], guard := none }) (u := ?_) rfl (by kernel_rfl) (fun _ _ _ h => h) (Or.inl ⟨by kernel_rfl, ?_⟩) hHeld ?_
          rotate_left
          focus (intro w hSw; (try dsimp only at hSw); go_simp; try with_reducible rfl)
          try simp only [Act.put, List.setIfInBounds_toArray, List.set_cons_zero, List.set_cons_succ]
          refine anyK_take (i := 10) (oi := { dst := some 59, op := Op.indexAddr 35 (Operand.tmp 57) (Operand.tmp 58), type := 0, pos := "pieces.go:86", after := #[{ on := 8, ground := Ground.data }, { on := 9, ground := Ground.data }], guard := none }) (u := ?_) rfl (by kernel_rfl) (fun _ _ _ h => h) (Or.inl ⟨by kernel_rfl, ?_⟩) hHeld ?_
          rotate_left
          focus (intro w hSw; (try dsimp only at hSw); go_simp; try with_reducible rfl)
          try simp only [Act.put, List.setIfInBounds_toArray, List.set_cons_zero, List.set_cons_succ]
          refine anyK_take (i := 11) (oi := { dst := some 60, op := Op.load 3 (Operand.tmp 59), type := 3, pos := "pieces.go:86", after := #[{ on := 10, ground := Ground.data }], guard := none }) (u := ?_) rfl (by kernel_rfl) (fun _ _ _ h => h) (Or.inl ⟨by kernel_rfl, ?_⟩) hHeld ?_
          rotate_left
          focus (intro w hSw; (try dsimp only at hSw); go_simp; try with_reducible rfl)
          try simp only [Act.put, List.setIfInBounds_toArray, List.set_cons_zero, List.set_cons_succ]
          refine anyK_take (i := 12) (oi := { dst := some 61, op := Op.call { callee := Callee.builtin Builtin.max, args := #[Operand.tmp 55, Operand.tmp 60], argTypes := #[3, 3] }, type := 3, pos := "pieces.go:86", after := #[{ on := 6, ground := Ground.data }, { on := 11, ground := Ground.data }], guard := none }) (u := ?_) rfl (by kernel_rfl) (fun _ _ _ h => h) (Or.inl ⟨by kernel_rfl, ?_⟩) hHeld ?_
          rotate_left
          focus (intro w hSw; (try dsimp only at hSw); go_simp; try with_reducible rfl)
          try simp only [Act.put, List.setIfInBounds_toArray, List.set_cons_zero, List.set_cons_succ]
          refine anyK_one (i := 13) (o := { dst := some 62, op := Op.buildSlice 35 1 #[(0, Operand.tmp 61)], type := 35, pos := "pieces.go:86", after := #[{ on := 12, ground := Ground.data }], guard := none }) (by kernel_rfl) rfl (fun K hK => ?_)
          go_simp
          refine hK.out _ _ (fun _ => ⟨q00, q10, qcp, qcp', q30⟩) ?_
          clear hK K hHeld
          have hHeld : (fun (W : World) => W.cell? ⟨B, 0, none⟩ = some (.slice (some ⟨bp, op, none⟩) n c) ∧ W.cell? ⟨B + 1, 0, none⟩ = some (.slice (some ⟨bp', op', none⟩) k c') ∧ W.cell? ⟨bp, op + i, none⟩ = some (.int .i64 x) ∧ W.cell? ⟨bp', op' + j, none⟩ = some (.int .i64 y) ∧ W.cell? ⟨B + 1 + 1 + 1, 0, none⟩ = some (.slice pc dl cc)) (W1.alloc (.cells #[.int .i64 mx] 3)).drew := ⟨q00, q10, qcp, qcp', q30⟩
          try simp only [Act.put, List.setIfInBounds_toArray, List.set_cons_zero, List.set_cons_succ]
          refine anyK_one (i := 14) (o := { dst := some 63, op := Op.call { callee := Callee.builtin Builtin.append, args := #[Operand.tmp 50, Operand.tmp 62], argTypes := #[35, 35] }, type := 35, pos := "pieces.go:86", after := #[{ on := 1, ground := Ground.data }, { on := 13, ground := Ground.data }], guard := none }) (by kernel_rfl) rfl (fun K hK => ?_)
          refine step_append_lies _ (by rfl) _ _ _ (by rfl) B 3 i0 _ 1 8 Tryz.underlying35 hinf hz0 hz1 hz2 rfl (by omega) (.slice pc dl cc) dl _ (by rfl) ((HR.out.alloc _).drew) ⟨W1.heap.size, 0, none⟩ 1 1 [.int .i64 mx] (by rfl) (by rfl) (World.news_of_block (cs := #[.int .i64 mx]) (t := 3) (fr := (0, 0)) (heap_alloc_new W1 _)) (by simp [Value.oneCell']) (by omega) (by simp only [maxLen]; omega) (by omega) (by have := HS1.out; simp; omega) (W1.heap.size + 1) (by simp) ?_
          intro gg cap w2 hown2 hgrow2 hat2 hlt2
          have hbw : Box2 w2 (B + 1 + 1 + 1) 37 (.slice pc dl cc) (.slice pn dl cn) := Box2.kept (show Box2 ((W1.alloc (.cells #[.int .i64 mx] 3)).drew) (B + 1 + 1 + 1) 37 (.slice pc dl cc) (.slice pn dl cn) from HB3.out.below (bl_alloc _ _).drew) hgrow2 (Ne.symm HNE.out)
          have hc2 := hbw.cell0
          have hf2 := hbw.free 0
          have HBW := Lib.hid hbw
          have v00 := (hgrow2.cell_far ⟨B, 0, none⟩ (by show B < _; simp; omega) (Ne.symm NB.out.1)).trans q00
          have v10 := (hgrow2.cell_far ⟨B + 1, 0, none⟩ (by show B + 1 < _; simp; omega) (Ne.symm NB.out.2.1)).trans q10
          have vcp := (hgrow2.cell_far ⟨bp, op + i, none⟩ (by show bp < _; simp; omega) (Ne.symm NB.out.2.2.1)).trans qcp
          have vcp' := (hgrow2.cell_far ⟨bp', op' + j, none⟩ (by show bp' < _; simp; omega) (Ne.symm NB.out.2.2.2)).trans qcp'
          have HA := Lib.hid (aft_first (w := W1) HDL.out hbw HR.out HON.out HAP.out hown2 hgrow2 hat2 HS1.out)
          refine hK.out _ _ (fun _ => ⟨v00, v10, vcp, vcp', hc2⟩) ?_
          clear hK K hHeld hbw hown2 hgrow2 hat2
          have hHeld : (fun (W : World) => W.cell? ⟨B, 0, none⟩ = some (.slice (some ⟨bp, op, none⟩) n c) ∧ W.cell? ⟨B + 1, 0, none⟩ = some (.slice (some ⟨bp', op', none⟩) k c') ∧ W.cell? ⟨bp, op + i, none⟩ = some (.int .i64 x) ∧ W.cell? ⟨bp', op' + j, none⟩ = some (.int .i64 y) ∧ W.cell? ⟨B + 1 + 1 + 1, 0, none⟩ = some (.slice pc dl cc)) w2 := ⟨v00, v10, vcp, vcp', hc2⟩
          try simp only [Act.put, List.setIfInBounds_toArray, List.set_cons_zero, List.set_cons_succ]
          refine anyK_take (i := 15) (oi := { dst := some 64, op := Op.fieldAddr 37 (Operand.tmp 6) 0, type := 0, pos := "pieces.go:86", after := #[{ on := 0, ground := Ground.phase }, { on := 1, ground := Ground.phase }, { on := 2, ground := Ground.phase }, { on := 3, ground := Ground.phase }, { on := 4, ground := Ground.phase }, { on := 5, ground := Ground.phase }, { on := 6, ground := Ground.phase }, { on := 7, ground := Ground.phase }, { on := 8, ground := Ground.phase }, { on := 9, ground := Ground.phase }, { on := 10, ground := Ground.phase }, { on := 11, ground := Ground.phase }, { on := 12, ground := Ground.phase }, { on := 13, ground := Ground.phase }, { on := 14, ground := Ground.phase }], guard := none }) (u := ?_) rfl (by kernel_rfl) (fun _ _ _ h => h) (Or.inl ⟨by kernel_rfl, ?_⟩) hHeld ?_
          rotate_left
          focus (intro w hSw; (try dsimp only at hSw); go_simp; try with_reducible rfl)
          try simp only [Act.put, List.setIfInBounds_toArray, List.set_cons_zero, List.set_cons_succ]
          refine anyK_one (i := 16) (o := { dst := none, op := Op.store 35 (Operand.tmp 64) (Operand.tmp 63), type := 0, pos := "pieces.go:86", after := #[{ on := 15, ground := Ground.data }, { on := 14, ground := Ground.data }, { on := 14, ground := Ground.chain }, { on := 0, ground := Ground.phase }, { on := 1, ground := Ground.phase }, { on := 2, ground := Ground.phase }, { on := 3, ground := Ground.phase }, { on := 4, ground := Ground.phase }, { on := 5, ground := Ground.phase }, { on := 6, ground := Ground.phase }, { on := 7, ground := Ground.phase }, { on := 8, ground := Ground.phase }, { on := 9, ground := Ground.phase }, { on := 10, ground := Ground.phase }, { on := 11, ground := Ground.phase }, { on := 12, ground := Ground.phase }, { on := 13, ground := Ground.phase }, { on := 14, ground := Ground.phase }], guard := none }) (by kernel_rfl) rfl (fun K hK => ?_)
          go_simp
          refine hK.out _ _ (fun h => absurd h (by decide)) ?_
          clear hK K hHeld v00 v10 vcp vcp' hc2 hf2 HBW hlt2 q00 q10 q30 qcp qcp' h00 h10 h30 f30 hcp hcp' hmx
          try simp only [Act.put, List.setIfInBounds_toArray, List.set_cons_zero, List.set_cons_succ]
          refine anyK_done (by kernel_rfl) ?_ _
          obtain ⟨W3, hW3⟩ : ∃ W3, W3 = w2.setCell ⟨B + 1 + 1 + 1, 0, none⟩ (.slice (some ⟨gg, 0, none⟩) (dl + 1) cap) := ⟨_, rfl⟩
          rw [← hW3] at HA ⊢
          clear hW3
          have h31 := HA.out.box.cell1
          have hlen2 : dl = ((numd don).map fun x => (x.2 : Int)).length := by rw [List.length_map]; unfold numd; rw [List.length_map]; exact HDL.out
          have HR2 := Lib.hid (ownQ_row HA.out.two hlen2)
          have HL2 := Lib.hid hlen2
          have HNE2 : Hid ((Value.slice pn dl cn).ownBlock ≠ some (B + 1 + 1 + 1)) := ownQ_ne HA.out.two (show W3.heap[B + 1 + 1 + 1]? = some _ from HA.out.box) (by intro c fz e; injection e with _ h2 _; exact absurd h2 (by decide))
          have HS3 : Hid (B ≤ W3.heap.size) := by have := HA.out.box.lt; show _ ≤ _; omega
          have HSS : Hid (W1.heap.size ≤ W3.heap.size) := (HA.out.low W1 (Below.refl _ _)).size
          clear hlen2
          go_wp2_with (at_builtin; refine wpList_append_lies _ rfl _ _ 32 rfl B 3 i0 (.int .i64 0) 1 8 Tryz.underlying32 hinf hz0 hz1 hz2 rfl (by decide) (.slice pn dl cn) dl _ rfl (HR2.out.alloc _) ⟨W3.heap.size, 0, none⟩ 1 1 [.int .i64 (num : Nat)] rfl rfl (cells_one_q _ _ _) (by simp [Value.oneCell']) (by omega) (by simp only [maxLen]; omega) (by omega) (by have := HS3.out; simp; omega) (W3.heap.size + 1) (by simp) ?_; intro g2 cap2 w4 hown4 hgrow4 hat4 hlt4; have hbw4 : Box2 w4 (B + 1 + 1 + 1) 37 (.slice (some ⟨gg, 0, none⟩) (dl + 1) cap) (.slice pn dl cn) := Box2.kept (HA.out.box.below (bl_alloc W3 (.cells #[.int .i64 (num : Nat)] 3))) hgrow4 (Ne.symm HNE2.out); have hc4 := hbw4.cell1; have hf4 := hbw4.free 1; have HBW4 := Lib.hid hbw4; have HA4 := Lib.hid (aft_second HA.out HL2.out HR2.out hbw4 hown4 hgrow4 hat4 HS3.out HSS.out); clear hbw4 hown4 hgrow4 hat4 hlt4)
          obtain ⟨W5, hW5⟩ : ∃ W5, W5 = w4.setCell ⟨B + 1 + 1 + 1, 1, none⟩ (.slice (some ⟨g2, 0, none⟩) (dl + 1) cap2) := ⟨_, rfl⟩
          rw [← hW5] at HA4 ⊢
          clear hW5 h31 hc4 hf4 HA HBW4 HNE2 HR2 HL2 HS3 HSS ln0 ln1 lnp lnp' hsz1
          have HL5 : Hid (Below w.heap.size w W5) := by
            have h := HA4.out.low w (by rw [HB.out]; exact HWJ.out.low)
            rw [HB.out] at h
            exact h
          have k0 : Box2 W5 B 37 _ _ := HWJ.out.b0.at (HA4.out.same B HWJ.out.b0.lt (by omega) (ni_of (show W1.heap[B]? = some _ from HWJ.out.b0) (by decide)))
          have k1 : Box2 W5 (B + 1) 37 _ _ := HWJ.out.b1.at (HA4.out.same (B + 1) HWJ.out.b1.lt (by omega) (ni_of (show W1.heap[B + 1]? = some _ from HWJ.out.b1) (by decide)))
          have h00 := k0.cell0
          have h10 := k1.cell0
          clear k0 k1
          obtain ⟨e1, he1⟩ : ∃ e1, e1 = endQ (l.map Prod.fst) i := ⟨_, rfl⟩
          obtain ⟨e2, he2⟩ : ∃ e2, e2 = endQ (m.map Prod.fst) j := ⟨_, rfl⟩
          have HLA : Hid (∀ r, Calls Tryz.prog 30 #[.slice (some ⟨bp, op, none⟩) n c, .int .i64 (i : Nat)] (W5.drewN r) fun e w' => e = .returned (.int .i64 e1) ∧ w' = W5.drewN r) := by
            intro r
            have h := last_any (some ⟨bp, op, none⟩) c n i (l.map Prod.fst) (W5.drewN r) (by rw [List.length_map]; exact HN.out) ((HP.out.below HL5.out).below (drewN_below _ _)) hin (by omega) (good_inQ HL.out)
            rw [he1]; exact h.mono fun _ _ h => ⟨h.1, h.2.symm⟩
          have HLB : Hid (∀ r, Calls Tryz.prog 30 #[.slice (some ⟨bp', op', none⟩) k c', .int .i64 (j : Nat)] (W5.drewN r) fun e w' => e = .returned (.int .i64 e2) ∧ w' = W5.drewN r) := by
            intro r
            have h := last_any (some ⟨bp', op', none⟩) c' k j (m.map Prod.fst) (W5.drewN r) (by rw [List.length_map]; exact HK.out) ((HP'.out.below HL5.out).below (drewN_below _ _)) hjk (by omega) (good_inQ HM.out)
            rw [he2]; exact h.mono fun _ _ h => ⟨h.1, h.2.symm⟩
          have HE1 : Hid (e1 = ends (l.drop i)) := by rw [he1]; exact endQ_ends HIL.out
          have HE2 : Hid (e2 = ends (m.drop j)) := by rw [he2]; exact endQ_ends HJL.out
          have HNEXT : Hid (∀ (i' j' r : Nat), i' = (if e1 ≤ e2 then i + 1 else i) → j' = (if e2 ≤ e1 then j + 1 else j) → WI w (W5.drewN r) B l m (.slice (some ⟨bp, op, none⟩) n c) (.slice (some ⟨bq, oq, none⟩) n d) (.slice (some ⟨bp', op', none⟩) k c') (.slice (some ⟨bq', oq', none⟩) k d') i' j' (don ++ [(max x y, (a, b))])) := by
            intro i' j' r hi hj
            rw [HE1.out, HE2.out] at hi hj
            have ha := HA4.out
            rw [HMX.out] at ha
            exact (wi_next HW.out HWJ.out HDL.out ha HB.out H60.out (merge_at HW.out.eq HW.out.st HD.out HD'.out hi hj)).drew r
          clear he1 he2 HE1 HE2 HA4 HL5 HMX HDL HB3 HOC HON HAP HR HNE HS1 NB hdm hdmI
          go_quiet ((go_at_call 30; first | (with_reducible exact (HLA.out _).mono fun _ _ h => ⟨h.1, _, h.2⟩) | (with_reducible exact (HLB.out _).mono fun _ _ h => ⟨h.1, _, h.2⟩)))
          by_cases c1 : e1 ≤ e2
          · by_cases c2 : e2 ≤ e1
            · go_wp2
              go_roundw
              case rel => exact ⟨i + 1, j + 1, _, by go_num, by go_num, by omega, HNEXT.out _ _ _ (by rw [if_pos c1]) (by rw [if_pos c2])⟩
              case measure => simp [intOf]; omega
            · have c2' : e1 < e2 := by omega
              go_wp2
              go_roundw
              case rel => exact ⟨i + 1, j, _, by go_num, rfl, by omega, HNEXT.out _ _ _ (by rw [if_pos c1]) (by rw [if_neg c2])⟩
              case measure => simp [intOf]; omega
          · have c1' : e2 < e1 := by omega
            go_wp2
            go_roundw
            case rel => exact ⟨i, j + 1, _, rfl, by go_num, by omega, HNEXT.out _ _ _ (by rw [if_neg c1]) (by rw [if_pos (by omega)])⟩
            case measure => simp [intOf]; omega
        · have hltI : decide ((60 : Int) ≤ (num : Nat)) = true := by simp; omega
          have HB2 := Lib.hid hb2
          have HN60 : Hid (num = 60) := by show _ = _; omega
          have hne4 : B + 1 + 1 ≠ B + 1 + 1 + 1 + 1 := by omega
          clear hb2
          go_wp2_with (first
            | (at_lookup; refine wpList_lookup_num _ rfl _ _ _ rfl _ _ key_law und_map und_int (zero_int _) _ _ _ rfl HD5.out _ _ rfl HKEY.out 0 false HAT.out HHAS.out ?_)
            | (at_len; refine wpList_len_num _ rfl _ _ rfl _ _ und_map _ _ _ _ rfl HD5.out num HSZ.out ?_)
            | (at_mapUpdate; refine wpList_mapUpdate_own _ rfl _ _ _ _ rfl _ _ key_law und_map _ _ _ _ rfl HD5.out (by unfold maxLen; omega) _ _ _ rfl rfl HKEY.out _ [] (plainElem_int und_int (WalkArith.wf_i64 (by omega))) ?_; intro W1 hown1 hgrow1; have HGR1 := Lib.hid hgrow1; have k2 := (HB2.out.below (bl_alloc wr (.cells #[.int .i64 (a : Nat), .int .i64 (b : Nat)] 95)).drew).kept hgrow1 (by simp); have k20 := k2.cell0; have k21 := k2.cell1; have f20 := k2.free 0; have f21 := k2.free 1; have K2 := Lib.hid k2; clear hown1 hgrow1 k2))
          have KC := K2.out.set0 (.slice none 0 0)
          have KD := KC.set1 (.slice none 0 0)
          have d0 := KD.cell0
          have d1 := KD.cell1
          refine bodyPost_ret (v := .tuple #[.agg #[.slice none 0 0, .slice none 0 0], .bool false]) (by simp [results, Tryz.f29, go_sem, d0, d1]) rfl ⟨?_, .inl ⟨rfl, ?_⟩⟩
          · have hl := HW.out.low
            have h4 := HB4.out
            have hbe := HB.out
            refine ((bl_trans hl (bl_alloc wr (.cells #[.int .i64 (a : Nat), .int .i64 (b : Nat)] 95)).drew |>.grown HGR1.out ?_ fun k hk => ?_).setCell ?_ _).setCell ?_ _
            · have := hl.size; simp; omega
            · simp only [Option.some.injEq] at hk
              omega
            · show _ ≤ B + 1 + 1; omega
            · show _ ≤ B + 1 + 1; omega
          · have hmg := (merge_at HW.out.eq HW.out.st HD.out HD'.out rfl rfl).1
            refine more_merge HL.out HM.out hmg ?_
            rw [keys_snoc]
            show 60 < (keysOn (keys don) ((0 : Int), (a, b))).length
            rw [EK.out, List.length_append, ← HNK.out, HN60.out]; simp
    · have hge : (n : Int) ≤ i := by omega
      have HIN : Hid (i = n) := by show _ = _; omega
      have HDON : Hid (mergeP l m = don) := by
        have h := HW.out.eq
        rw [List.drop_eq_nil_of_le (by rw [HIN.out, HN.out]; exact Nat.le_refl _), mergeP_nil, List.append_nil] at h
        exact h
      obtain ⟨pc, cc, pn, cn, hb3, hoc, hon, hap⟩ := HW.out.rows
      have hb2 := HW.out.b2
      have h30 := hb3.cell0
      have h31 := hb3.cell1
      have f20 := hb2.free 0
      have f21 := hb2.free 1
      have h20 := hb2.cell0
      have h21 := hb2.cell1
      obtain ⟨dl, hdl⟩ : ∃ dl, dl = don.length := ⟨_, rfl⟩
      rw [← hdl] at hb3 hoc hon hap h30 h31
      have HDL := Lib.hid hdl
      have KC := Lib.hid (hb2.set0 (.slice pc dl cc))
      have KD := Lib.hid (KC.out.set1 (.slice pn dl cn))
      have HOC := Lib.hid hoc
      have HON := Lib.hid hon
      clear hb2 hb3 hoc hon hap hdl hin hbs h01 h10 h11
      go_wp2
      have d0 := KD.out.cell0
      have d1 := KD.out.cell1
      refine bodyPost_ret (v := .tuple #[.agg #[.slice pc dl cc, .slice pn dl cn], .bool true]) (by simp [results, Tryz.f29, go_sem, d0, d1]) rfl ⟨?_, .inr ⟨_, _, numd (mergeP l m), rfl, ?_, good_merge HL.out HM.out ?_, ?_⟩⟩
      · have hbe := HB.out
        refine (HW.out.low.setCell ?_ _).setCell ?_ _
        · show _ ≤ B + 1 + 1; omega
        · show _ ≤ B + 1 + 1; omega
      · rw [HDON.out]
        have hni : NotInt wr (B + 1 + 1) := ni_of (show wr.heap[B + 1 + 1]? = some _ from HW.out.b2) (by decide)
        have hni2 : NotInt (wr.setCell ⟨B + 1 + 1, 0, none⟩ (.slice pc dl cc)) (B + 1 + 1) := ni_of (show (wr.setCell ⟨B + 1 + 1, 0, none⟩ (.slice pc dl cc)).heap[B + 1 + 1]? = some _ from KC.out) (by decide)
        have e1 : dl = (numd don).length := by unfold numd; rw [List.length_map]; exact HDL.out
        have o1 := ownQ_set (ownQ_set HOC.out hni 0 (.slice pc dl cc)) hni2 1 (.slice pn dl cn)
        have o2 := ownQ_set (ownQ_set HON.out hni 0 (.slice pc dl cc)) hni2 1 (.slice pn dl cn)
        obtain ⟨p1, k1, e2, _, _, s1⟩ := ownQ_form o1
        obtain ⟨p2, k2, e3, _, _, s2⟩ := ownQ_form o2
        simp only [Value.slice.injEq] at e2 e3
        obtain ⟨rfl, _, rfl⟩ := e2
        obtain ⟨rfl, _, rfl⟩ := e3
        refine ⟨pc, cc, pn, cn, by rw [e1], ?_, s2⟩
        have e4 : (numd don).map Prod.fst = don.map Prod.fst := by unfold numd; rw [List.map_map]; rfl
        rw [e4]; exact s1
      · rw [HDON.out]; exact HW.out.few
      · have h := (merge_good HL.out HM.out).2.2.1
        unfold numd; rw [List.length_map]; exact h
end Go.Proofs.YtildfjlaieaadaaGreat
