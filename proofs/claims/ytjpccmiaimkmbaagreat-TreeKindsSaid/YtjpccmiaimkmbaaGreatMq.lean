/- The walk of awake. -/
import Derived.Test.YtjpccmiaimkmbaaGreatMp

namespace Go.Proofs.YtjpccmiaimkmbaaGreat
open Go.RowKit Tnr Tnt

theorem kinds_small {ys : List NV} {L : List Nd} (h : nds ys = L) (hL : ∀ d ∈ L, 0 ≤ d.kind ∧ d.kind < 256) : KindsIn ys := fun x hx => hL x.nd (h ▸ List.mem_map.2 ⟨x, hx, rfl⟩)
theorem small_e : smallNds exT := by unfold smallNds; decide
theorem range_e : ∀ d ∈ exT, 0 ≤ d.kind ∧ d.kind < 256 := by decide
theorem two_of {ts : List TV} {A B : List Nd} (h : treesN ts = [A, B]) : ∃ t0 t1, ts = [t0, t1] ∧ nds t0.ys = A ∧ nds t1.ys = B := by
  match ts, h with
  | [t0, t1], h =>
    simp only [treesN, List.map_cons, List.map_nil, List.cons.injEq, and_true] at h
    exact ⟨t0, t1, rfl, h.1, h.2⟩
  | [], h => simp [treesN] at h
  | [_], h => simp [treesN] at h
  | _ :: _ :: _ :: _, h => simp [treesN] at h
set_option maxHeartbeats 6400000 in
set_option maxRecDepth 100000 in
theorem awake_any (w : World) : Calls Tryz.prog 6 #[] w fun e w' => e = .returned (.bool true) ∧ Below w.heap.size w w' := by
  have HE := Lib.hid (example_any w)
  go_enter Tryz.func6, Tryz.ntmps6
  go_wp2_with fail
  refine (HE.out).mono ?_
  rintro e u1 ⟨q, cq, ys, g, rfl, ht1, hg1, hb1⟩
  have hx3 : (3 : Nat) < ys.length := by rw [← ht1.len]; omega
  obtain ⟨bq, oq, rfl, hc3, hn3⟩ := ht1.nodes.at hx3
  have hkl : (gn ys 3).nd.kids = [1, 2] := by rw [gn_nds, ht1.nds]; exact last_ex
  obtain ⟨pk, hpk⟩ : ∃ p, p = (gn ys 3).pk := ⟨_, rfl⟩
  obtain ⟨ck, hck⟩ : ∃ p, p = (gn ys 3).ck := ⟨_, rfl⟩
  have ck3 := hc3.2.2.1
  have hkz := hn3.kids
  rw [← hpk] at ck3 hkz
  rw [← hck, hkl] at ck3
  rw [hkl] at hkz
  obtain ⟨u2, hu2⟩ : ∃ W, W = u1.alloc (.cells #[.slice (some ⟨bq, oq, none⟩) 4 cq, .slice (some ⟨g, 0, none⟩) 1 1] 34) := ⟨_, rfl⟩
  obtain ⟨b1, hb1e⟩ : ∃ b, b = u1.heap.size := ⟨_, rfl⟩
  have hb2 : Below u1.heap.size u1 u2 := by rw [hu2]; exact bl_alloc _ _
  have hX2 : Bx u2 b1 34 #[.slice (some ⟨bq, oq, none⟩) 4 cq, .slice (some ⟨g, 0, none⟩) 1 1] := by rw [hu2, hb1e]; exact Bx.new u1 _ _
  have k0 : u2.cell? ⟨b1, 0, none⟩ = some (.slice (some ⟨bq, oq, none⟩) 4 cq) := hX2.cell rfl
  have k1 : u2.cell? ⟨b1, 1, none⟩ = some (.slice (some ⟨g, 0, none⟩) 1 1) := hX2.cell rfl
  have hfew := ht1.few small_e
  have HKD := Lib.hid (kids_any (some ⟨bq, oq, none⟩) 4 cq ys (.slice (some ⟨g, 0, none⟩) 1 1) u2 ht1.len (by omega) ht1.le ht1.max (ht1.nodes.below hb2) hfew)
  have HU2 := Lib.hid (And.intro hu2 hb1e)
  have HX2 := Lib.hid hX2
  have HT2 := Lib.hid (ht1.below hb2)
  have HG2 := Lib.hid (hg1.below hb2)
  have HB2 := Lib.hid (hb1.trans (hb2.mono hb1.size))
  have HK2 := Lib.hid (And.intro (cell_below ck3 hb2) (SlZ.below hkz hb2))
  clear hpk hck hc3 hn3 hkl hx3 hb2 ht1 hg1 hb1 ck3 hkz hu2 hX2 hfew hb1e
  go_wp2_with fail
  rw [← HU2.out.2, show u1.alloc (.cells #[.slice (some ⟨bq, oq, none⟩) 4 cq, .slice (some ⟨g, 0, none⟩) 1 1] 34) = u2 from HU2.out.1.symm]
  refine (HKD.out).mono ?_
  rintro e u3 ⟨qk, mk, cqk, ts, hmk, rfl, hot, htn, hna, hb3⟩
  rw [HT2.out.nds, kids_ex] at htn
  obtain ⟨t0, t1, rfl, hn0, hn1⟩ := two_of htn
  have hmk2 : mk = 2 := hmk
  subst hmk2
  obtain ⟨p', c', e', _, _, _, hst⟩ := hot.form
  obtain ⟨rfl, _, rfl⟩ : qk = p' ∧ True ∧ cqk = c' := by simpa using e'
  obtain ⟨bk, ok, rfl, hk0, hk1, _⟩ := hst.at (k := 0) (by simp)
  obtain ⟨bk', ok', e2, hk2, hk3, _⟩ := hst.at (k := 1) (by simp)
  cases e2
  have hna0 := hna t0 (by simp)
  have hna1 := hna t1 (by simp)
  have th0 : TH u3 t0.q t0.ys.length t0.cq t0.ys gT := th_own rfl (hot.all t0 (by simp)) hn0
  have th1 : TH u3 t1.q t1.ys.length t1.cq t1.ys bT := th_own rfl (hot.all t1 (by simp)) hn1
  obtain ⟨q0, hq0⟩ : ∃ z, z = t0.q := ⟨_, rfl⟩
  obtain ⟨m0, hm0⟩ : ∃ z, z = t0.ys.length := ⟨_, rfl⟩
  obtain ⟨c0, hc0⟩ : ∃ z, z = t0.cq := ⟨_, rfl⟩
  obtain ⟨q1, hq1⟩ : ∃ z, z = t1.q := ⟨_, rfl⟩
  obtain ⟨m1, hm1⟩ : ∃ z, z = t1.ys.length := ⟨_, rfl⟩
  obtain ⟨c1, hc1⟩ : ∃ z, z = t1.cq := ⟨_, rfl⟩
  have j0 : u3.cell? ⟨bk, ok, none⟩ = some (.slice q0 m0 c0) := by rw [hq0, hm0, hc0]; exact hk0
  have j1 : u3.cell? ⟨bk, ok + 1, none⟩ = some (.slice none 0 0) := by have h : u3.cell? ⟨bk, ok + 1, none⟩ = some (.slice t0.na t0.nn t0.nc) := hk1; rw [hna0.1, hna0.2.1, hna0.2.2] at h; exact h
  have j2 : u3.cell? ⟨bk, ok + 2, none⟩ = some (.slice q1 m1 c1) := by rw [hq1, hm1, hc1]; exact hk2
  have j3 : u3.cell? ⟨bk, ok + 3, none⟩ = some (.slice none 0 0) := by have h : u3.cell? ⟨bk, ok + 3, none⟩ = some (.slice t1.na t1.nn t1.nc) := hk3; rw [hna1.1, hna1.2.1, hna1.2.2] at h; exact h
  rw [← hq0, ← hm0, ← hc0] at th0
  rw [← hq1, ← hm1, ← hc1] at th1
  have hX3 := HX2.out.below hb3
  have k0 : u3.cell? ⟨b1, 0, none⟩ = some (.slice (some ⟨bq, oq, none⟩) 4 cq) := hX3.cell rfl
  have k1 : u3.cell? ⟨b1, 1, none⟩ = some (.slice (some ⟨g, 0, none⟩) 1 1) := hX3.cell rfl
  have HGR := Lib.hid (groups_any (some ⟨bq, oq, none⟩) 4 cq ys (some ⟨g, 0, none⟩) 1 1 u3 HT2.out.len (by omega) (HT2.out.nodes.below hb3))
  have HJ := Lib.hid (And.intro j0 (And.intro j1 (And.intro j2 j3)))
  have HTT := Lib.hid (And.intro th0 th1)
  have HX3 := Lib.hid hX3
  have HB3 := Lib.hid (HB2.out.trans (hb3.mono HB2.out.size))
  have HT3 := Lib.hid (HT2.out.below hb3)
  have HG3 := Lib.hid (HG2.out.below hb3)
  have HK3 := Lib.hid (And.intro (cell_below HK2.out.1 hb3) (SlZ.below HK2.out.2 hb3))
  rw [grL_nds, HT2.out.nds, gr_ex, show mnL [1] = 1 from rfl, show mxL [1] = 1 from rfl] at HGR
  clear HX2 HB2 HT2 HG2 HK2 hot htn hna hb3 hst hk0 hk1 hk2 hk3 hna0 hna1 hn0 hn1 th0 th1 hq0 hm0 hc0 hq1 hm1 hc1 j0 j1 j2 j3 hX3 e' hmk
  go_wp2_with fail
  refine (HGR.out).mono ?_
  rintro e u4 ⟨rfl, hb4⟩
  have hbd : Below u3.heap.size u3 u4.drew := hb4.drew
  obtain ⟨W0, hW0⟩ : ∃ W, W = u4.drew := ⟨_, rfl⟩
  rw [← hW0] at hbd
  have hX4 := HX3.out.below hbd
  have hS : (fun (V : World) => V.cell? ⟨b1, 0, none⟩ = some (.slice (some ⟨bq, oq, none⟩) 4 cq) ∧ V.cell? ⟨b1, 1, none⟩ = some (.slice (some ⟨g, 0, none⟩) 1 1) ∧ V.cell? ⟨bq, oq + 29, none⟩ = some (.slice pk 2 ck) ∧ V.cell? ⟨bk, ok, none⟩ = some (.slice q0 m0 c0) ∧ V.cell? ⟨bk, ok + 1, none⟩ = some (.slice none 0 0) ∧ V.cell? ⟨bk, ok + 2, none⟩ = some (.slice q1 m1 c1) ∧ V.cell? ⟨bk, ok + 3, none⟩ = some (.slice none 0 0)) W0 := ⟨hX4.cell rfl, hX4.cell rfl, cell_below HK3.out.1 hbd, cell_below HJ.out.1 hbd, cell_below HJ.out.2.1 hbd, cell_below HJ.out.2.2.1 hbd, cell_below HJ.out.2.2.2 hbd⟩
  have HBL := Lib.hid (HB3.out.trans (hbd.mono HB3.out.size))
  have HBW0 : Hid (Below W0.heap.size W0 W0) := Below.refl _ _
  have hT4 := HT3.out.below hbd
  have hg4 := HG3.out.below hbd
  have hX : SlX W0 (some ⟨g, 0, none⟩) [emp] := .inr ⟨g, 0, rfl, fun i hi => by
    have : i = 0 := by simpa using hi
    subst this
    exact hg4.cell rfl⟩
  have hkz4 := SlZ.below HK3.out.2 hbd
  have hfew := hT4.few small_e
  have HSI : Hid (∀ V b, Below W0.heap.size W0 V → Bx V b 3 #[.int .i64 1, .int .i64 2] → Calls Tryz.prog 27 #[.slice pk 2 ck, .slice (some ⟨b, 0, none⟩) 2 2] V fun e w' => e = .returned (.bool true) ∧ Below V.heap.size V w') := fun V b hV hb =>
    (sameZ_any pk (some ⟨b, 0, none⟩) ck 2 [1, 2] [1, 2] V (hkz4.below hV) (.inr ⟨b, 0, rfl, fun i hi => by
      have : i = 0 ∨ i = 1 := by have : i < 2 := hi; omega
      rcases this with rfl | rfl <;> exact hb.cell rfl⟩) (by decide) (by decide)).mono fun e w' ⟨h1, k, h2⟩ => ⟨h1.trans (by simp), h2 ▸ drewN_below V k⟩
  have HRI : Hid (∀ V, Below W0.heap.size W0 V → Calls Tryz.prog 28 #[.agg #[.slice (some ⟨bq, oq, none⟩) 4 cq, .slice (some ⟨g, 0, none⟩) 1 1]] V fun e w' => e = .returned (.bool true) ∧ Below V.heap.size V w') := fun V hV => by
    have h := rightT_any (some ⟨bq, oq, none⟩) 4 cq ys (some ⟨g, 0, none⟩) 1 1 [emp] V hT4.len (by omega) (hT4.nodes.below hV) hfew (kinds_small hT4.nds range_e) rfl (by omega) (hX.below hV)
    rw [rightT_nds, hT4.nds, right_ex] at h; exact h
  have HSP : Hid (∀ V, Below W0.heap.size W0 V → Calls Tryz.prog 29 #[.agg #[.slice (some ⟨bq, oq, none⟩) 4 cq, .slice (some ⟨g, 0, none⟩) 1 1]] V fun e w' => e = .returned (.bool true) ∧ Below V.heap.size V w') := fun V hV => by
    have h := spreadT_any (some ⟨bq, oq, none⟩) 4 cq ys (some ⟨g, 0, none⟩) 1 1 [emp] V hT4.len (by omega) (hT4.nodes.below hV) hfew (kinds_small hT4.nds range_e) rfl (by omega) (hX.below hV)
    rw [spreadT_nds, hT4.nds, spread_ex] at h; exact h
  have HDP : Hid (∀ V, Below W0.heap.size W0 V → Calls Tryz.prog 30 #[.agg #[.slice (some ⟨bq, oq, none⟩) 4 cq, .slice (some ⟨g, 0, none⟩) 1 1]] V fun e w' => e = .returned (.int .i64 3) ∧ Below V.heap.size V w') := fun V hV => by
    have h := deepT_any (some ⟨bq, oq, none⟩) 4 cq ys (.slice (some ⟨g, 0, none⟩) 1 1) V hT4.len (by omega) (hT4.nodes.below hV) hfew
    rw [hT4.nds, deep_ex] at h; exact h
  have ht0 := HTT.out.1.below hbd
  have ht1 := HTT.out.2.below hbd
  have HSA : Hid (∀ V q' m' c' ys', Below W0.heap.size W0 V → TH V q' m' c' ys' gT → Calls Tryz.prog 11 #[.agg #[.slice q0 m0 c0, .slice none 0 0], .agg #[.slice q' m' c', .slice none 0 0]] V fun e w' => e = .returned (.bool true) ∧ Below V.heap.size V w') := fun V q' m' c' ys' hV hT => by
    have h := same6_any q0 q' none none m0 m' c0 c' 0 0 0 0 t0.ys ys' [] [] V ht0.len hT.len (by rw [ht0.leng]; decide) (ht0.nodes.below hV) hT.nodes (ht0.few small_g) (hT.few small_g) rfl rfl (by omega) (by omega) (.inl rfl) (.inl rfl)
    rw [show sameT t0.ys ys' [] [] = true by unfold sameT; rw [ht0.nds, hT.nds, sameX_self]; simp] at h; exact h
  have HSB : Hid (∀ V q' m' c' ys', Below W0.heap.size W0 V → TH V q' m' c' ys' bT → Calls Tryz.prog 11 #[.agg #[.slice q1 m1 c1, .slice none 0 0], .agg #[.slice q' m' c', .slice none 0 0]] V fun e w' => e = .returned (.bool true) ∧ Below V.heap.size V w') := fun V q' m' c' ys' hV hT => by
    have h := same6_any q1 q' none none m1 m' c1 c' 0 0 0 0 t1.ys ys' [] [] V ht1.len hT.len (by rw [ht1.leng]; decide) (ht1.nodes.below hV) hT.nodes (ht1.few small_b) (hT.few small_b) rfl rfl (by omega) (by omega) (.inl rfl) (.inl rfl)
    rw [show sameT t1.ys ys' [] [] = true by unfold sameT; rw [ht1.nds, hT.nds, sameX_self]; simp] at h; exact h
  have HW0 := Lib.hid hW0
  clear hb4 hbd hX4 hT4 hg4 hX hkz4 hfew ht0 ht1 hW0 HKD HGR HE k0 k1
  have hS0 := hS
  clear hS
  go_wp2
  refine wp_region_L (S := fun (V : World) => V.cell? ⟨b1, 0, none⟩ = some (.slice (some ⟨bq, oq, none⟩) 4 cq) ∧ V.cell? ⟨b1, 1, none⟩ = some (.slice (some ⟨g, 0, none⟩) 1 1) ∧ V.cell? ⟨bq, oq + 29, none⟩ = some (.slice pk 2 ck) ∧ V.cell? ⟨bk, ok, none⟩ = some (.slice q0 m0 c0) ∧ V.cell? ⟨bk, ok + 1, none⟩ = some (.slice none 0 0) ∧ V.cell? ⟨bk, ok + 2, none⟩ = some (.slice q1 m1 c1) ∧ V.cell? ⟨bk, ok + 3, none⟩ = some (.slice none 0 0)) (S2 := fun (V : World) => V.cell? ⟨b1, 0, none⟩ = some (.slice (some ⟨bq, oq, none⟩) 4 cq) ∧ V.cell? ⟨b1, 1, none⟩ = some (.slice (some ⟨g, 0, none⟩) 1 1) ∧ V.cell? ⟨bq, oq + 29, none⟩ = some (.slice pk 2 ck) ∧ V.cell? ⟨bk, ok, none⟩ = some (.slice q0 m0 c0) ∧ V.cell? ⟨bk, ok + 1, none⟩ = some (.slice none 0 0) ∧ V.cell? ⟨bk, ok + 2, none⟩ = some (.slice q1 m1 c1) ∧ V.cell? ⟨bk, ok + 3, none⟩ = some (.slice none 0 0)) 58 58 (by kernel_rfl) ?_
  rw [← HW0.out]
  have hS := hS0
  have hS2 := hS0
  clear hS0
  refine anyL_take1 (i := 0) (oi := ⟨some 13, Op.fieldAddr 34 (.tmp 1) 0, 0, "law.go:36", #[], none⟩) (u := ?_) rfl (by kernel_rfl) (fun _ _ _ h => h) (Or.inl ⟨by kernel_rfl, ?_⟩) ⟨fun _ => hS, fun _ => hS2⟩ ?_
  rotate_left
  focus (intro w hSw; (try dsimp only at hSw); go_simp; with_reducible rfl)
  try simp only [Act.put, sb0, sb1, sb2]
  refine anyL_take1 (i := 1) (oi := ⟨some 14, Op.load 31 (.tmp 13), 31, "law.go:36", #[⟨0, .data⟩], none⟩) (u := ?_) rfl (by kernel_rfl) (fun _ _ _ h => h) (Or.inl ⟨by kernel_rfl, ?_⟩) ⟨fun _ => hS, fun _ => hS2⟩ ?_
  rotate_left
  focus (intro w hSw; (try dsimp only at hSw); go_simp; with_reducible rfl)
  try simp only [Act.put, sb0, sb1, sb2]
  refine anyL_take1 (i := 2) (oi := ⟨some 15, Op.call { callee := Callee.builtin Builtin.len, args := #[.tmp 14], argTypes := #[31] }, 3, "law.go:36", #[⟨1, .data⟩], none⟩) (u := ?_) rfl (by kernel_rfl) (fun _ _ _ h => h) (Or.inl ⟨by kernel_rfl, ?_⟩) ⟨fun _ => hS, fun _ => hS2⟩ ?_
  rotate_left
  focus (intro w hSw; (try dsimp only at hSw); go_simp; with_reducible rfl)
  try simp only [Act.put, sb0, sb1, sb2]
  refine anyL_take1 (i := 3) (oi := ⟨some 16, Op.binOp BinOp.eql 3 (.tmp 15) (.const (.int .i64 4)) 3, 4, "law.go:36", #[⟨2, .data⟩], none⟩) (u := ?_) rfl (by kernel_rfl) (fun _ _ _ h => h) (Or.inl ⟨by kernel_rfl, ?_⟩) ⟨fun _ => hS, fun _ => hS2⟩ ?_
  rotate_left
  focus (intro w hSw; (try dsimp only at hSw); go_simp; with_reducible rfl)
  try simp only [Act.put, sb0, sb1, sb2]
  refine anyL_take1 (i := 4) (oi := ⟨some 17, Op.move (.tmp 16), 4, "law.go:36", #[⟨3, .data⟩], none⟩) (u := ?_) rfl (by kernel_rfl) (fun _ _ _ h => h) (Or.inl ⟨by kernel_rfl, ?_⟩) ⟨fun _ => hS, fun _ => hS2⟩ ?_
  rotate_left
  focus (intro w hSw; (try dsimp only at hSw); go_simp; with_reducible rfl)
  try simp only [Act.put, sb0, sb1, sb2]
  refine anyL_take1 (i := 5) (oi := ⟨some 18, Op.fieldAddr 34 (.tmp 1) 0, 0, "law.go:36", #[⟨4, .guard⟩], some (4, true)⟩) (u := ?_) rfl (by kernel_rfl) (fun _ _ _ h => h) (Or.inl ⟨by kernel_rfl, ?_⟩) ⟨fun _ => hS, fun _ => hS2⟩ ?_
  rotate_left
  focus (intro w hSw; (try dsimp only at hSw); go_simp; with_reducible rfl)
  try simp only [Act.put, sb0, sb1, sb2]
  refine anyL_take1 (i := 6) (oi := ⟨some 19, Op.load 31 (.tmp 18), 31, "law.go:36", #[⟨5, .data⟩, ⟨4, .guard⟩], some (4, true)⟩) (u := ?_) rfl (by kernel_rfl) (fun _ _ _ h => h) (Or.inl ⟨by kernel_rfl, ?_⟩) ⟨fun _ => hS, fun _ => hS2⟩ ?_
  rotate_left
  focus (intro w hSw; (try dsimp only at hSw); go_simp; with_reducible rfl)
  try simp only [Act.put, sb0, sb1, sb2]
  refine anyL_take1 (i := 7) (oi := ⟨some 20, Op.indexAddr 31 (.tmp 19) (.const (.int .i64 3)), 0, "law.go:36", #[⟨6, .data⟩, ⟨4, .guard⟩], some (4, true)⟩) (u := ?_) rfl (by kernel_rfl) (fun _ _ _ h => h) (Or.inl ⟨by kernel_rfl, ?_⟩) ⟨fun _ => hS, fun _ => hS2⟩ ?_
  rotate_left
  focus (intro w hSw; (try dsimp only at hSw); go_simp; with_reducible rfl)
  try simp only [Act.put, sb0, sb1, sb2]
  refine anyL_take1 (i := 8) (oi := ⟨some 21, Op.fieldAddr 28 (.tmp 20) 2, 0, "law.go:36", #[⟨7, .data⟩, ⟨4, .guard⟩], some (4, true)⟩) (u := ?_) rfl (by kernel_rfl) (fun _ _ _ h => h) (Or.inl ⟨by kernel_rfl, ?_⟩) ⟨fun _ => hS, fun _ => hS2⟩ ?_
  rotate_left
  focus (intro w hSw; (try dsimp only at hSw); go_simp; with_reducible rfl)
  try simp only [Act.put, sb0, sb1, sb2]
  refine anyL_take1 (i := 9) (oi := ⟨some 22, Op.load 24 (.tmp 21), 24, "law.go:36", #[⟨8, .data⟩, ⟨4, .guard⟩], some (4, true)⟩) (u := ?_) rfl (by kernel_rfl) (fun _ _ _ h => h) (Or.inl ⟨by kernel_rfl, ?_⟩) ⟨fun _ => hS, fun _ => hS2⟩ ?_
  rotate_left
  focus (intro w hSw; (try dsimp only at hSw); go_simp; with_reducible rfl)
  try simp only [Act.put, sb0, sb1, sb2]
  refine anyL_one (i := 10) (o := ⟨some 23, Op.buildSlice 24 2 #[(0, .const (.int .i64 1)), (1, .const (.int .i64 2))], 24, "law.go:36", #[⟨4, .guard⟩], some (4, true)⟩) (by kernel_rfl) rfl (fun K hK => ?_)
  go_simp
  obtain ⟨w1, hww1⟩ : ∃ W, W = W0.alloc (.cells #[.int .i64 1, .int .i64 2] 3) := ⟨_, rfl⟩
  rw [← hww1]
  have hbw1 : Below W0.heap.size W0 w1 := by rw [hww1]; exact bl_alloc _ _
  have HXw1 : Hid (Bx w1 W0.heap.size 3 #[.int .i64 1, .int .i64 2]) := by show Bx _ _ _ _; rw [hww1]; exact Bx.new _ _ _
  have HCw1 := Lib.hid hbw1
  clear hww1
  have HBw1 := Lib.hid (HBW0.out.trans (hbw1.mono HBW0.out.size))
  have hSw1 : (fun (V : World) => V.cell? ⟨b1, 0, none⟩ = some (.slice (some ⟨bq, oq, none⟩) 4 cq) ∧ V.cell? ⟨b1, 1, none⟩ = some (.slice (some ⟨g, 0, none⟩) 1 1) ∧ V.cell? ⟨bq, oq + 29, none⟩ = some (.slice pk 2 ck) ∧ V.cell? ⟨bk, ok, none⟩ = some (.slice q0 m0 c0) ∧ V.cell? ⟨bk, ok + 1, none⟩ = some (.slice none 0 0) ∧ V.cell? ⟨bk, ok + 2, none⟩ = some (.slice q1 m1 c1) ∧ V.cell? ⟨bk, ok + 3, none⟩ = some (.slice none 0 0)) w1 := ⟨cell_below hS.1 hbw1, cell_below hS.2.1 hbw1, cell_below hS.2.2.1 hbw1, cell_below hS.2.2.2.1 hbw1, cell_below hS.2.2.2.2.1 hbw1, cell_below hS.2.2.2.2.2.1 hbw1, cell_below hS.2.2.2.2.2.2 hbw1⟩
  refine hK.out _ _ ⟨fun _ => hSw1, fun _ => hSw1⟩ ?_
  clear hK K hS hS2 hbw1
  have hS := hSw1
  have hS2 := hSw1
  clear hSw1
  try simp only [Act.put, sb0, sb1, sb2]
  refine anyL_one (i := 11) (o := ⟨some 24, Op.call { callee := Callee.value (.func 27), args := #[.tmp 22, .tmp 23], argTypes := #[24, 24] }, 4, "law.go:36", #[⟨9, .data⟩, ⟨10, .data⟩, ⟨4, .chain⟩, ⟨4, .guard⟩], some (4, true)⟩) (by kernel_rfl) rfl (fun K hK => ?_)
  go_simp
  refine (HSI.out w1 _ HBw1.out HXw1.out).mono ?_
  rintro e w2 ⟨rfl, hbw2⟩
  have HBw2 := Lib.hid (HBw1.out.trans (hbw2.mono HBw1.out.size))
  have hSw2 : (fun (V : World) => V.cell? ⟨b1, 0, none⟩ = some (.slice (some ⟨bq, oq, none⟩) 4 cq) ∧ V.cell? ⟨b1, 1, none⟩ = some (.slice (some ⟨g, 0, none⟩) 1 1) ∧ V.cell? ⟨bq, oq + 29, none⟩ = some (.slice pk 2 ck) ∧ V.cell? ⟨bk, ok, none⟩ = some (.slice q0 m0 c0) ∧ V.cell? ⟨bk, ok + 1, none⟩ = some (.slice none 0 0) ∧ V.cell? ⟨bk, ok + 2, none⟩ = some (.slice q1 m1 c1) ∧ V.cell? ⟨bk, ok + 3, none⟩ = some (.slice none 0 0)) w2 := ⟨cell_below hS.1 hbw2, cell_below hS.2.1 hbw2, cell_below hS.2.2.1 hbw2, cell_below hS.2.2.2.1 hbw2, cell_below hS.2.2.2.2.1 hbw2, cell_below hS.2.2.2.2.2.1 hbw2, cell_below hS.2.2.2.2.2.2 hbw2⟩
  refine hK.out _ _ ⟨fun _ => hSw2, fun _ => hSw2⟩ ?_
  clear hK K hS hS2 hbw2
  have hS := hSw2
  have hS2 := hSw2
  clear hSw2
  try simp only [Act.put, sb0, sb1, sb2]
  refine anyL_take1 (i := 12) (oi := ⟨some 25, Op.pick (.tmp 17) (.tmp 24) (.const (Value.bool false)), 4, "law.go:36", #[⟨4, .data⟩, ⟨11, .data⟩], none⟩) (u := ?_) rfl (by kernel_rfl) (fun _ _ _ h => h) (Or.inl ⟨by kernel_rfl, ?_⟩) ⟨fun _ => hS, fun _ => hS2⟩ ?_
  rotate_left
  focus (intro w hSw; (try dsimp only at hSw); go_simp; with_reducible rfl)
  try simp only [Act.put, sb0, sb1, sb2]
  refine anyL_take1 (i := 13) (oi := ⟨some 26, Op.move (.tmp 25), 4, "law.go:36", #[⟨12, .data⟩, ⟨11, .chain⟩], none⟩) (u := ?_) rfl (by kernel_rfl) (fun _ _ _ h => h) (Or.inl ⟨by kernel_rfl, ?_⟩) ⟨fun _ => hS, fun _ => hS2⟩ ?_
  rotate_left
  focus (intro w hSw; (try dsimp only at hSw); go_simp; with_reducible rfl)
  try simp only [Act.put, sb0, sb1, sb2]
  refine anyL_take1 (i := 14) (oi := ⟨some 27, Op.load 34 (.tmp 1), 34, "law.go:36", #[⟨13, .guard⟩], some (13, true)⟩) (u := ?_) rfl (by kernel_rfl) (fun _ _ _ h => h) (Or.inl ⟨by kernel_rfl, ?_⟩) ⟨fun _ => hS, fun _ => hS2⟩ ?_
  rotate_left
  focus (intro w hSw; (try dsimp only at hSw); go_simp; with_reducible rfl)
  try simp only [Act.put, sb0, sb1, sb2]
  refine anyL_one (i := 15) (o := ⟨some 28, Op.call ⟨.value (.func 28), #[.tmp 27], #[34]⟩, 4, "law.go:36", #[⟨14, .data⟩, ⟨13, .chain⟩, ⟨13, .guard⟩], some (13, true)⟩) (by kernel_rfl) rfl (fun K hK => ?_)
  go_simp
  refine (HRI.out w2 HBw2.out).mono ?_
  rintro e w3 ⟨rfl, hbw3⟩
  have HBw3 := Lib.hid (HBw2.out.trans (hbw3.mono HBw2.out.size))
  have hSw3 : (fun (V : World) => V.cell? ⟨b1, 0, none⟩ = some (.slice (some ⟨bq, oq, none⟩) 4 cq) ∧ V.cell? ⟨b1, 1, none⟩ = some (.slice (some ⟨g, 0, none⟩) 1 1) ∧ V.cell? ⟨bq, oq + 29, none⟩ = some (.slice pk 2 ck) ∧ V.cell? ⟨bk, ok, none⟩ = some (.slice q0 m0 c0) ∧ V.cell? ⟨bk, ok + 1, none⟩ = some (.slice none 0 0) ∧ V.cell? ⟨bk, ok + 2, none⟩ = some (.slice q1 m1 c1) ∧ V.cell? ⟨bk, ok + 3, none⟩ = some (.slice none 0 0)) w3 := ⟨cell_below hS.1 hbw3, cell_below hS.2.1 hbw3, cell_below hS.2.2.1 hbw3, cell_below hS.2.2.2.1 hbw3, cell_below hS.2.2.2.2.1 hbw3, cell_below hS.2.2.2.2.2.1 hbw3, cell_below hS.2.2.2.2.2.2 hbw3⟩
  refine hK.out _ _ ⟨fun _ => hSw3, fun _ => hSw3⟩ ?_
  clear hK K hS hS2 hbw3
  have hS := hSw3
  have hS2 := hSw3
  clear hSw3
  try simp only [Act.put, sb0, sb1, sb2]
  refine anyL_take1 (i := 16) (oi := ⟨some 29, Op.pick (.tmp 26) (.tmp 28) (.const (Value.bool false)), 4, "law.go:36", #[⟨13, .data⟩, ⟨15, .data⟩], none⟩) (u := ?_) rfl (by kernel_rfl) (fun _ _ _ h => h) (Or.inl ⟨by kernel_rfl, ?_⟩) ⟨fun _ => hS, fun _ => hS2⟩ ?_
  rotate_left
  focus (intro w hSw; (try dsimp only at hSw); go_simp; with_reducible rfl)
  try simp only [Act.put, sb0, sb1, sb2]
  refine anyL_take1 (i := 17) (oi := ⟨some 30, Op.move (.tmp 29), 4, "law.go:36", #[⟨16, .data⟩, ⟨15, .chain⟩], none⟩) (u := ?_) rfl (by kernel_rfl) (fun _ _ _ h => h) (Or.inl ⟨by kernel_rfl, ?_⟩) ⟨fun _ => hS, fun _ => hS2⟩ ?_
  rotate_left
  focus (intro w hSw; (try dsimp only at hSw); go_simp; with_reducible rfl)
  try simp only [Act.put, sb0, sb1, sb2]
  refine anyL_take1 (i := 18) (oi := ⟨some 31, Op.load 34 (.tmp 1), 34, "law.go:36", #[⟨17, .guard⟩], some (17, true)⟩) (u := ?_) rfl (by kernel_rfl) (fun _ _ _ h => h) (Or.inl ⟨by kernel_rfl, ?_⟩) ⟨fun _ => hS, fun _ => hS2⟩ ?_
  rotate_left
  focus (intro w hSw; (try dsimp only at hSw); go_simp; with_reducible rfl)
  try simp only [Act.put, sb0, sb1, sb2]
  refine anyL_one (i := 19) (o := ⟨some 32, Op.call ⟨.value (.func 29), #[.tmp 31], #[34]⟩, 4, "law.go:36", #[⟨18, .data⟩, ⟨17, .chain⟩, ⟨17, .guard⟩], some (17, true)⟩) (by kernel_rfl) rfl (fun K hK => ?_)
  go_simp
  refine (HSP.out w3 HBw3.out).mono ?_
  rintro e w4 ⟨rfl, hbw4⟩
  have HBw4 := Lib.hid (HBw3.out.trans (hbw4.mono HBw3.out.size))
  have hSw4 : (fun (V : World) => V.cell? ⟨b1, 0, none⟩ = some (.slice (some ⟨bq, oq, none⟩) 4 cq) ∧ V.cell? ⟨b1, 1, none⟩ = some (.slice (some ⟨g, 0, none⟩) 1 1) ∧ V.cell? ⟨bq, oq + 29, none⟩ = some (.slice pk 2 ck) ∧ V.cell? ⟨bk, ok, none⟩ = some (.slice q0 m0 c0) ∧ V.cell? ⟨bk, ok + 1, none⟩ = some (.slice none 0 0) ∧ V.cell? ⟨bk, ok + 2, none⟩ = some (.slice q1 m1 c1) ∧ V.cell? ⟨bk, ok + 3, none⟩ = some (.slice none 0 0)) w4 := ⟨cell_below hS.1 hbw4, cell_below hS.2.1 hbw4, cell_below hS.2.2.1 hbw4, cell_below hS.2.2.2.1 hbw4, cell_below hS.2.2.2.2.1 hbw4, cell_below hS.2.2.2.2.2.1 hbw4, cell_below hS.2.2.2.2.2.2 hbw4⟩
  refine hK.out _ _ ⟨fun _ => hSw4, fun _ => hSw4⟩ ?_
  clear hK K hS hS2 hbw4
  have hS := hSw4
  have hS2 := hSw4
  clear hSw4
  try simp only [Act.put, sb0, sb1, sb2]
  refine anyL_take1 (i := 20) (oi := ⟨some 33, Op.pick (.tmp 30) (.tmp 32) (.const (Value.bool false)), 4, "law.go:36", #[⟨17, .data⟩, ⟨19, .data⟩], none⟩) (u := ?_) rfl (by kernel_rfl) (fun _ _ _ h => h) (Or.inl ⟨by kernel_rfl, ?_⟩) ⟨fun _ => hS, fun _ => hS2⟩ ?_
  rotate_left
  focus (intro w hSw; (try dsimp only at hSw); go_simp; with_reducible rfl)
  try simp only [Act.put, sb0, sb1, sb2]
  refine anyL_take1 (i := 21) (oi := ⟨some 34, Op.move (.tmp 33), 4, "law.go:36", #[⟨20, .data⟩, ⟨19, .chain⟩], none⟩) (u := ?_) rfl (by kernel_rfl) (fun _ _ _ h => h) (Or.inl ⟨by kernel_rfl, ?_⟩) ⟨fun _ => hS, fun _ => hS2⟩ ?_
  rotate_left
  focus (intro w hSw; (try dsimp only at hSw); go_simp; with_reducible rfl)
  try simp only [Act.put, sb0, sb1, sb2]
  refine anyL_take1 (i := 22) (oi := ⟨some 35, Op.load 34 (.tmp 1), 34, "law.go:36", #[⟨21, .guard⟩], some (21, true)⟩) (u := ?_) rfl (by kernel_rfl) (fun _ _ _ h => h) (Or.inl ⟨by kernel_rfl, ?_⟩) ⟨fun _ => hS, fun _ => hS2⟩ ?_
  rotate_left
  focus (intro w hSw; (try dsimp only at hSw); go_simp; with_reducible rfl)
  try simp only [Act.put, sb0, sb1, sb2]
  refine anyL_one (i := 23) (o := ⟨some 36, Op.call ⟨.value (.func 30), #[.tmp 35], #[34]⟩, 3, "law.go:36", #[⟨22, .data⟩, ⟨21, .chain⟩, ⟨21, .guard⟩], some (21, true)⟩) (by kernel_rfl) rfl (fun K hK => ?_)
  go_simp
  refine (HDP.out w4 HBw4.out).mono ?_
  rintro e w5 ⟨rfl, hbw5⟩
  have HBw5 := Lib.hid (HBw4.out.trans (hbw5.mono HBw4.out.size))
  have hSw5 : (fun (V : World) => V.cell? ⟨b1, 0, none⟩ = some (.slice (some ⟨bq, oq, none⟩) 4 cq) ∧ V.cell? ⟨b1, 1, none⟩ = some (.slice (some ⟨g, 0, none⟩) 1 1) ∧ V.cell? ⟨bq, oq + 29, none⟩ = some (.slice pk 2 ck) ∧ V.cell? ⟨bk, ok, none⟩ = some (.slice q0 m0 c0) ∧ V.cell? ⟨bk, ok + 1, none⟩ = some (.slice none 0 0) ∧ V.cell? ⟨bk, ok + 2, none⟩ = some (.slice q1 m1 c1) ∧ V.cell? ⟨bk, ok + 3, none⟩ = some (.slice none 0 0)) w5 := ⟨cell_below hS.1 hbw5, cell_below hS.2.1 hbw5, cell_below hS.2.2.1 hbw5, cell_below hS.2.2.2.1 hbw5, cell_below hS.2.2.2.2.1 hbw5, cell_below hS.2.2.2.2.2.1 hbw5, cell_below hS.2.2.2.2.2.2 hbw5⟩
  refine hK.out _ _ ⟨fun _ => hSw5, fun _ => hSw5⟩ ?_
  clear hK K hS hS2 hbw5
  have hS := hSw5
  have hS2 := hSw5
  clear hSw5
  try simp only [Act.put, sb0, sb1, sb2]
  refine anyL_take1 (i := 24) (oi := ⟨some 37, Op.binOp BinOp.eql 3 (.tmp 36) (.const (.int .i64 3)) 3, 4, "law.go:36", #[⟨23, .data⟩, ⟨21, .guard⟩], some (21, true)⟩) (u := ?_) rfl (by kernel_rfl) (fun _ _ _ h => h) (Or.inl ⟨by kernel_rfl, ?_⟩) ⟨fun _ => hS, fun _ => hS2⟩ ?_
  rotate_left
  focus (intro w hSw; (try dsimp only at hSw); go_simp; with_reducible rfl)
  try simp only [Act.put, sb0, sb1, sb2]
  refine anyL_take1 (i := 25) (oi := ⟨some 38, Op.pick (.tmp 34) (.tmp 37) (.const (Value.bool false)), 4, "law.go:36", #[⟨21, .data⟩, ⟨24, .data⟩], none⟩) (u := ?_) rfl (by kernel_rfl) (fun _ _ _ h => h) (Or.inl ⟨by kernel_rfl, ?_⟩) ⟨fun _ => hS, fun _ => hS2⟩ ?_
  rotate_left
  focus (intro w hSw; (try dsimp only at hSw); go_simp; with_reducible rfl)
  try simp only [Act.put, sb0, sb1, sb2]
  refine anyL_take1 (i := 26) (oi := ⟨some 39, Op.move (.tmp 38), 4, "law.go:36", #[⟨25, .data⟩, ⟨23, .chain⟩], none⟩) (u := ?_) rfl (by kernel_rfl) (fun _ _ _ h => h) (Or.inl ⟨by kernel_rfl, ?_⟩) ⟨fun _ => hS, fun _ => hS2⟩ ?_
  rotate_left
  focus (intro w hSw; (try dsimp only at hSw); go_simp; with_reducible rfl)
  try simp only [Act.put, sb0, sb1, sb2]
  refine anyL_take1 (i := 27) (oi := ⟨some 40, Op.move (.tmp 2), 29, "law.go:36", #[⟨26, .guard⟩], some (26, true)⟩) (u := ?_) rfl (by kernel_rfl) (fun _ _ _ h => h) (Or.inl ⟨by kernel_rfl, ?_⟩) ⟨fun _ => hS, fun _ => hS2⟩ ?_
  rotate_left
  focus (intro w hSw; (try dsimp only at hSw); go_simp; with_reducible rfl)
  try simp only [Act.put, sb0, sb1, sb2]
  refine anyL_take1 (i := 28) (oi := ⟨some 41, Op.call { callee := Callee.builtin Builtin.len, args := #[.tmp 40], argTypes := #[29] }, 3, "law.go:36", #[⟨27, .data⟩, ⟨26, .guard⟩], some (26, true)⟩) (u := ?_) rfl (by kernel_rfl) (fun _ _ _ h => h) (Or.inl ⟨by kernel_rfl, ?_⟩) ⟨fun _ => hS, fun _ => hS2⟩ ?_
  rotate_left
  focus (intro w hSw; (try dsimp only at hSw); go_simp; with_reducible rfl)
  try simp only [Act.put, sb0, sb1, sb2]
  refine anyL_take1 (i := 29) (oi := ⟨some 42, Op.binOp BinOp.eql 3 (.tmp 41) (.const (.int .i64 2)) 3, 4, "law.go:36", #[⟨28, .data⟩, ⟨26, .guard⟩], some (26, true)⟩) (u := ?_) rfl (by kernel_rfl) (fun _ _ _ h => h) (Or.inl ⟨by kernel_rfl, ?_⟩) ⟨fun _ => hS, fun _ => hS2⟩ ?_
  rotate_left
  focus (intro w hSw; (try dsimp only at hSw); go_simp; with_reducible rfl)
  try simp only [Act.put, sb0, sb1, sb2]
  refine anyL_take1 (i := 30) (oi := ⟨some 43, Op.pick (.tmp 39) (.tmp 42) (.const (Value.bool false)), 4, "law.go:36", #[⟨26, .data⟩, ⟨29, .data⟩], none⟩) (u := ?_) rfl (by kernel_rfl) (fun _ _ _ h => h) (Or.inl ⟨by kernel_rfl, ?_⟩) ⟨fun _ => hS, fun _ => hS2⟩ ?_
  rotate_left
  focus (intro w hSw; (try dsimp only at hSw); go_simp; with_reducible rfl)
  try simp only [Act.put, sb0, sb1, sb2]
  refine anyL_take1 (i := 31) (oi := ⟨some 44, Op.move (.tmp 43), 4, "law.go:36", #[⟨30, .data⟩, ⟨26, .chain⟩], none⟩) (u := ?_) rfl (by kernel_rfl) (fun _ _ _ h => h) (Or.inl ⟨by kernel_rfl, ?_⟩) ⟨fun _ => hS, fun _ => hS2⟩ ?_
  rotate_left
  focus (intro w hSw; (try dsimp only at hSw); go_simp; with_reducible rfl)
  try simp only [Act.put, sb0, sb1, sb2]
  refine anyL_take1 (i := 32) (oi := ⟨some 45, Op.move (.tmp 2), 29, "law.go:36", #[⟨31, .guard⟩], some (31, true)⟩) (u := ?_) rfl (by kernel_rfl) (fun _ _ _ h => h) (Or.inl ⟨by kernel_rfl, ?_⟩) ⟨fun _ => hS, fun _ => hS2⟩ ?_
  rotate_left
  focus (intro w hSw; (try dsimp only at hSw); go_simp; with_reducible rfl)
  try simp only [Act.put, sb0, sb1, sb2]
  refine anyL_take1 (i := 33) (oi := ⟨some 46, Op.indexAddr 29 (.tmp 45) (.const (.int .i64 0)), 0, "law.go:36", #[⟨32, .data⟩, ⟨31, .guard⟩], some (31, true)⟩) (u := ?_) rfl (by kernel_rfl) (fun _ _ _ h => h) (Or.inl ⟨by kernel_rfl, ?_⟩) ⟨fun _ => hS, fun _ => hS2⟩ ?_
  rotate_left
  focus (intro w hSw; (try dsimp only at hSw); go_simp; with_reducible rfl)
  try simp only [Act.put, sb0, sb1, sb2]
  refine anyL_take1 (i := 34) (oi := ⟨some 47, Op.load 34 (.tmp 46), 34, "law.go:36", #[⟨33, .data⟩, ⟨31, .guard⟩], some (31, true)⟩) (u := ?_) rfl (by kernel_rfl) (fun _ _ _ h => h) (Or.inl ⟨by kernel_rfl, ?_⟩) ⟨fun _ => hS, fun _ => hS2⟩ ?_
  rotate_left
  focus (intro w hSw; (try dsimp only at hSw); go_simp; with_reducible rfl)
  try simp only [Act.put, sb0, sb1, sb2]
  refine anyL_one (i := 35) (o := ⟨some 48, Op.call ⟨.value (.func 31), #[.const (.int .i64 1)], #[3]⟩, 28, "law.go:36", #[⟨31, .chain⟩, ⟨31, .guard⟩], some (31, true)⟩) (by kernel_rfl) rfl (fun K hK => ?_)
  go_simp
  refine (group6_any 1 w5).mono ?_
  rintro e w6 ⟨x6, rfl, hx6, ix6, hbw6⟩
  have Hx6 := Lib.hid (And.intro hx6 ix6)
  clear hx6 ix6
  have HBw6 := Lib.hid (HBw5.out.trans (hbw6.mono HBw5.out.size))
  have hSw6 : (fun (V : World) => V.cell? ⟨b1, 0, none⟩ = some (.slice (some ⟨bq, oq, none⟩) 4 cq) ∧ V.cell? ⟨b1, 1, none⟩ = some (.slice (some ⟨g, 0, none⟩) 1 1) ∧ V.cell? ⟨bq, oq + 29, none⟩ = some (.slice pk 2 ck) ∧ V.cell? ⟨bk, ok, none⟩ = some (.slice q0 m0 c0) ∧ V.cell? ⟨bk, ok + 1, none⟩ = some (.slice none 0 0) ∧ V.cell? ⟨bk, ok + 2, none⟩ = some (.slice q1 m1 c1) ∧ V.cell? ⟨bk, ok + 3, none⟩ = some (.slice none 0 0)) w6 := ⟨cell_below hS.1 hbw6, cell_below hS.2.1 hbw6, cell_below hS.2.2.1 hbw6, cell_below hS.2.2.2.1 hbw6, cell_below hS.2.2.2.2.1 hbw6, cell_below hS.2.2.2.2.2.1 hbw6, cell_below hS.2.2.2.2.2.2 hbw6⟩
  refine hK.out _ _ ⟨fun _ => hSw6, fun _ => hSw6⟩ ?_
  clear hK K hS hS2 hbw6
  have hS := hSw6
  have hS2 := hSw6
  clear hSw6
  try simp only [Act.put, sb0, sb1, sb2]
  refine anyL_one (i := 36) (o := ⟨some 49, Op.call ⟨.value (.func 20), #[.const (.int .i64 97)], #[3]⟩, 28, "law.go:36", #[⟨35, .chain⟩, ⟨31, .guard⟩], some (31, true)⟩) (by kernel_rfl) rfl (fun K hK => ?_)
  go_simp
  refine (set6_any 97 w6).mono ?_
  rintro e w7 ⟨x7, rfl, hx7, ix7, hbw7⟩
  have Hx7 := Lib.hid (And.intro hx7 ix7)
  clear hx7 ix7
  have HN67 := Lib.hid hbw7
  have HBw7 := Lib.hid (HBw6.out.trans (hbw7.mono HBw6.out.size))
  have hSw7 : (fun (V : World) => V.cell? ⟨b1, 0, none⟩ = some (.slice (some ⟨bq, oq, none⟩) 4 cq) ∧ V.cell? ⟨b1, 1, none⟩ = some (.slice (some ⟨g, 0, none⟩) 1 1) ∧ V.cell? ⟨bq, oq + 29, none⟩ = some (.slice pk 2 ck) ∧ V.cell? ⟨bk, ok, none⟩ = some (.slice q0 m0 c0) ∧ V.cell? ⟨bk, ok + 1, none⟩ = some (.slice none 0 0) ∧ V.cell? ⟨bk, ok + 2, none⟩ = some (.slice q1 m1 c1) ∧ V.cell? ⟨bk, ok + 3, none⟩ = some (.slice none 0 0)) w7 := ⟨cell_below hS.1 hbw7, cell_below hS.2.1 hbw7, cell_below hS.2.2.1 hbw7, cell_below hS.2.2.2.1 hbw7, cell_below hS.2.2.2.2.1 hbw7, cell_below hS.2.2.2.2.2.1 hbw7, cell_below hS.2.2.2.2.2.2 hbw7⟩
  refine hK.out _ _ ⟨fun _ => hSw7, fun _ => hSw7⟩ ?_
  clear hK K hS hS2 hbw7
  have hS := hSw7
  have hS2 := hSw7
  clear hSw7
  try simp only [Act.put, sb0, sb1, sb2]
  refine anyL_one (i := 37) (o := ⟨some 50, Op.call { callee := Callee.value (.func 9), args := #[.tmp 49, .const (Value.slice none 0 0)], argTypes := #[28, 29] }, 34, "law.go:36", #[⟨36, .data⟩, ⟨36, .chain⟩, ⟨31, .guard⟩], some (31, true)⟩) (by kernel_rfl) rfl (fun K hK => ?_)
  go_simp
  refine (join0 x7 (setNd 97) w7 Hx7.out.2 Hx7.out.1 (by decide)).mono ?_
  rintro e w8 ⟨q8, m8, c8, ys8, rfl, th8, hbw8⟩
  have HT8 := Lib.hid th8
  clear th8
  have HN68 := Lib.hid (HN67.out.trans (hbw8.mono HN67.out.size))
  have HBw8 := Lib.hid (HBw7.out.trans (hbw8.mono HBw7.out.size))
  have hSw8 : (fun (V : World) => V.cell? ⟨b1, 0, none⟩ = some (.slice (some ⟨bq, oq, none⟩) 4 cq) ∧ V.cell? ⟨b1, 1, none⟩ = some (.slice (some ⟨g, 0, none⟩) 1 1) ∧ V.cell? ⟨bq, oq + 29, none⟩ = some (.slice pk 2 ck) ∧ V.cell? ⟨bk, ok, none⟩ = some (.slice q0 m0 c0) ∧ V.cell? ⟨bk, ok + 1, none⟩ = some (.slice none 0 0) ∧ V.cell? ⟨bk, ok + 2, none⟩ = some (.slice q1 m1 c1) ∧ V.cell? ⟨bk, ok + 3, none⟩ = some (.slice none 0 0)) w8 := ⟨cell_below hS.1 hbw8, cell_below hS.2.1 hbw8, cell_below hS.2.2.1 hbw8, cell_below hS.2.2.2.1 hbw8, cell_below hS.2.2.2.2.1 hbw8, cell_below hS.2.2.2.2.2.1 hbw8, cell_below hS.2.2.2.2.2.2 hbw8⟩
  refine hK.out _ _ ⟨fun _ => hSw8, fun _ => hSw8⟩ ?_
  clear hK K hS hS2 hbw8
  have hS := hSw8
  have hS2 := hSw8
  clear hSw8
  try simp only [Act.put, sb0, sb1, sb2]
  refine anyL_one (i := 38) (o := ⟨some 51, Op.buildSlice 29 1 #[(0, .tmp 50)], 29, "law.go:36", #[⟨37, .data⟩, ⟨31, .guard⟩], some (31, true)⟩) (by kernel_rfl) rfl (fun K hK => ?_)
  go_simp
  obtain ⟨w9, hww9⟩ : ∃ W, W = w8.alloc (.cells #[.slice q8 m8 c8, .slice none 0 0] 34) := ⟨_, rfl⟩
  rw [← hww9]
  have hbw9 : Below w8.heap.size w8 w9 := by rw [hww9]; exact bl_alloc _ _
  have HXw9 : Hid (Bx w9 w8.heap.size 34 #[.slice q8 m8 c8, .slice none 0 0]) := by show Bx _ _ _ _; rw [hww9]; exact Bx.new _ _ _
  have HCw9 := Lib.hid hbw9
  clear hww9
  have HN69 := Lib.hid (HN68.out.trans (hbw9.mono HN68.out.size))
  have HBw9 := Lib.hid (HBw8.out.trans (hbw9.mono HBw8.out.size))
  have hSw9 : (fun (V : World) => V.cell? ⟨b1, 0, none⟩ = some (.slice (some ⟨bq, oq, none⟩) 4 cq) ∧ V.cell? ⟨b1, 1, none⟩ = some (.slice (some ⟨g, 0, none⟩) 1 1) ∧ V.cell? ⟨bq, oq + 29, none⟩ = some (.slice pk 2 ck) ∧ V.cell? ⟨bk, ok, none⟩ = some (.slice q0 m0 c0) ∧ V.cell? ⟨bk, ok + 1, none⟩ = some (.slice none 0 0) ∧ V.cell? ⟨bk, ok + 2, none⟩ = some (.slice q1 m1 c1) ∧ V.cell? ⟨bk, ok + 3, none⟩ = some (.slice none 0 0)) w9 := ⟨cell_below hS.1 hbw9, cell_below hS.2.1 hbw9, cell_below hS.2.2.1 hbw9, cell_below hS.2.2.2.1 hbw9, cell_below hS.2.2.2.2.1 hbw9, cell_below hS.2.2.2.2.2.1 hbw9, cell_below hS.2.2.2.2.2.2 hbw9⟩
  refine hK.out _ _ ⟨fun _ => hSw9, fun _ => hSw9⟩ ?_
  clear hK K hS hS2 hbw9
  have hS := hSw9
  have hS2 := hSw9
  clear hSw9
  try simp only [Act.put, sb0, sb1, sb2]
  refine anyL_one (i := 39) (o := ⟨some 52, Op.call { callee := Callee.value (.func 9), args := #[.tmp 48, .tmp 51], argTypes := #[28, 29] }, 34, "law.go:36", #[⟨35, .data⟩, ⟨38, .data⟩, ⟨37, .chain⟩, ⟨31, .guard⟩], some (31, true)⟩) (by kernel_rfl) rfl (fun K hK => ?_)
  go_simp
  refine (join1 x6 (groupNd 1) w8.heap.size 1 q8 m8 c8 ys8 aT w9 (Hx6.out.2.below HN69.out) Hx6.out.1 (by decide) (HT8.out.below HCw9.out) HXw9.out (HT8.out.few small_a) (by rw [HT8.out.leng]; decide)).mono ?_
  rintro e w10 ⟨q10, m10, c10, ys10, rfl, th10, hbw10⟩
  have HT10 := Lib.hid th10
  clear th10
  have HBw10 := Lib.hid (HBw9.out.trans (hbw10.mono HBw9.out.size))
  have hSw10 : (fun (V : World) => V.cell? ⟨b1, 0, none⟩ = some (.slice (some ⟨bq, oq, none⟩) 4 cq) ∧ V.cell? ⟨b1, 1, none⟩ = some (.slice (some ⟨g, 0, none⟩) 1 1) ∧ V.cell? ⟨bq, oq + 29, none⟩ = some (.slice pk 2 ck) ∧ V.cell? ⟨bk, ok, none⟩ = some (.slice q0 m0 c0) ∧ V.cell? ⟨bk, ok + 1, none⟩ = some (.slice none 0 0) ∧ V.cell? ⟨bk, ok + 2, none⟩ = some (.slice q1 m1 c1) ∧ V.cell? ⟨bk, ok + 3, none⟩ = some (.slice none 0 0)) w10 := ⟨cell_below hS.1 hbw10, cell_below hS.2.1 hbw10, cell_below hS.2.2.1 hbw10, cell_below hS.2.2.2.1 hbw10, cell_below hS.2.2.2.2.1 hbw10, cell_below hS.2.2.2.2.2.1 hbw10, cell_below hS.2.2.2.2.2.2 hbw10⟩
  refine hK.out _ _ ⟨fun _ => hSw10, fun _ => hSw10⟩ ?_
  clear hK K hS hS2 hbw10
  have hS := hSw10
  have hS2 := hSw10
  clear hSw10
  try simp only [Act.put, sb0, sb1, sb2]
  refine anyL_one (i := 40) (o := ⟨some 53, Op.call ⟨.value (.func 11), #[.tmp 47, .tmp 52], #[34, 34]⟩, 4, "law.go:36", #[⟨34, .data⟩, ⟨39, .data⟩, ⟨39, .chain⟩, ⟨31, .guard⟩], some (31, true)⟩) (by kernel_rfl) rfl (fun K hK => ?_)
  go_simp
  refine (HSA.out w10 q10 m10 c10 ys10 HBw10.out HT10.out).mono ?_
  rintro e w11 ⟨rfl, hbw11⟩
  have HBw11 := Lib.hid (HBw10.out.trans (hbw11.mono HBw10.out.size))
  have hSw11 : (fun (V : World) => V.cell? ⟨b1, 0, none⟩ = some (.slice (some ⟨bq, oq, none⟩) 4 cq) ∧ V.cell? ⟨b1, 1, none⟩ = some (.slice (some ⟨g, 0, none⟩) 1 1) ∧ V.cell? ⟨bq, oq + 29, none⟩ = some (.slice pk 2 ck) ∧ V.cell? ⟨bk, ok, none⟩ = some (.slice q0 m0 c0) ∧ V.cell? ⟨bk, ok + 1, none⟩ = some (.slice none 0 0) ∧ V.cell? ⟨bk, ok + 2, none⟩ = some (.slice q1 m1 c1) ∧ V.cell? ⟨bk, ok + 3, none⟩ = some (.slice none 0 0)) w11 := ⟨cell_below hS.1 hbw11, cell_below hS.2.1 hbw11, cell_below hS.2.2.1 hbw11, cell_below hS.2.2.2.1 hbw11, cell_below hS.2.2.2.2.1 hbw11, cell_below hS.2.2.2.2.2.1 hbw11, cell_below hS.2.2.2.2.2.2 hbw11⟩
  refine hK.out _ _ ⟨fun _ => hSw11, fun _ => hSw11⟩ ?_
  clear hK K hS hS2 hbw11
  have hS := hSw11
  have hS2 := hSw11
  clear hSw11
  try simp only [Act.put, sb0, sb1, sb2]
  refine anyL_take1 (i := 41) (oi := ⟨some 54, Op.pick (.tmp 44) (.tmp 53) (.const (Value.bool false)), 4, "law.go:36", #[⟨31, .data⟩, ⟨40, .data⟩], none⟩) (u := ?_) rfl (by kernel_rfl) (fun _ _ _ h => h) (Or.inl ⟨by kernel_rfl, ?_⟩) ⟨fun _ => hS, fun _ => hS2⟩ ?_
  rotate_left
  focus (intro w hSw; (try dsimp only at hSw); go_simp; with_reducible rfl)
  try simp only [Act.put, sb0, sb1, sb2]
  refine anyL_take1 (i := 42) (oi := ⟨some 55, Op.move (.tmp 54), 4, "law.go:36", #[⟨41, .data⟩, ⟨40, .chain⟩], none⟩) (u := ?_) rfl (by kernel_rfl) (fun _ _ _ h => h) (Or.inl ⟨by kernel_rfl, ?_⟩) ⟨fun _ => hS, fun _ => hS2⟩ ?_
  rotate_left
  focus (intro w hSw; (try dsimp only at hSw); go_simp; with_reducible rfl)
  try simp only [Act.put, sb0, sb1, sb2]
  refine anyL_take1 (i := 43) (oi := ⟨some 56, Op.move (.tmp 2), 29, "law.go:36", #[⟨42, .guard⟩], some (42, true)⟩) (u := ?_) rfl (by kernel_rfl) (fun _ _ _ h => h) (Or.inl ⟨by kernel_rfl, ?_⟩) ⟨fun _ => hS, fun _ => hS2⟩ ?_
  rotate_left
  focus (intro w hSw; (try dsimp only at hSw); go_simp; with_reducible rfl)
  try simp only [Act.put, sb0, sb1, sb2]
  refine anyL_take1 (i := 44) (oi := ⟨some 57, Op.indexAddr 29 (.tmp 56) (.const (.int .i64 1)), 0, "law.go:36", #[⟨43, .data⟩, ⟨42, .guard⟩], some (42, true)⟩) (u := ?_) rfl (by kernel_rfl) (fun _ _ _ h => h) (Or.inl ⟨by kernel_rfl, ?_⟩) ⟨fun _ => hS, fun _ => hS2⟩ ?_
  rotate_left
  focus (intro w hSw; (try dsimp only at hSw); go_simp; with_reducible rfl)
  try simp only [Act.put, sb0, sb1, sb2]
  refine anyL_take1 (i := 45) (oi := ⟨some 58, Op.load 34 (.tmp 57), 34, "law.go:36", #[⟨44, .data⟩, ⟨42, .guard⟩], some (42, true)⟩) (u := ?_) rfl (by kernel_rfl) (fun _ _ _ h => h) (Or.inl ⟨by kernel_rfl, ?_⟩) ⟨fun _ => hS, fun _ => hS2⟩ ?_
  rotate_left
  focus (intro w hSw; (try dsimp only at hSw); go_simp; with_reducible rfl)
  try simp only [Act.put, sb0, sb1, sb2]
  refine anyL_one (i := 46) (o := ⟨some 59, Op.call ⟨.value (.func 20), #[.const (.int .i64 98)], #[3]⟩, 28, "law.go:36", #[⟨42, .chain⟩, ⟨42, .guard⟩], some (42, true)⟩) (by kernel_rfl) rfl (fun K hK => ?_)
  go_simp
  refine (set6_any 98 w11).mono ?_
  rintro e w12 ⟨x12, rfl, hx12, ix12, hbw12⟩
  have Hx12 := Lib.hid (And.intro hx12 ix12)
  clear hx12 ix12
  have HBw12 := Lib.hid (HBw11.out.trans (hbw12.mono HBw11.out.size))
  have hSw12 : (fun (V : World) => V.cell? ⟨b1, 0, none⟩ = some (.slice (some ⟨bq, oq, none⟩) 4 cq) ∧ V.cell? ⟨b1, 1, none⟩ = some (.slice (some ⟨g, 0, none⟩) 1 1) ∧ V.cell? ⟨bq, oq + 29, none⟩ = some (.slice pk 2 ck) ∧ V.cell? ⟨bk, ok, none⟩ = some (.slice q0 m0 c0) ∧ V.cell? ⟨bk, ok + 1, none⟩ = some (.slice none 0 0) ∧ V.cell? ⟨bk, ok + 2, none⟩ = some (.slice q1 m1 c1) ∧ V.cell? ⟨bk, ok + 3, none⟩ = some (.slice none 0 0)) w12 := ⟨cell_below hS.1 hbw12, cell_below hS.2.1 hbw12, cell_below hS.2.2.1 hbw12, cell_below hS.2.2.2.1 hbw12, cell_below hS.2.2.2.2.1 hbw12, cell_below hS.2.2.2.2.2.1 hbw12, cell_below hS.2.2.2.2.2.2 hbw12⟩
  refine hK.out _ _ ⟨fun _ => hSw12, fun _ => hSw12⟩ ?_
  clear hK K hS hS2 hbw12
  have hS := hSw12
  have hS2 := hSw12
  clear hSw12
  try simp only [Act.put, sb0, sb1, sb2]
  refine anyL_one (i := 47) (o := ⟨some 60, Op.call { callee := Callee.value (.func 9), args := #[.tmp 59, .const (Value.slice none 0 0)], argTypes := #[28, 29] }, 34, "law.go:36", #[⟨46, .data⟩, ⟨46, .chain⟩, ⟨42, .guard⟩], some (42, true)⟩) (by kernel_rfl) rfl (fun K hK => ?_)
  go_simp
  refine (join0 x12 (setNd 98) w12 Hx12.out.2 Hx12.out.1 (by decide)).mono ?_
  rintro e w13 ⟨q13, m13, c13, ys13, rfl, th13, hbw13⟩
  have HT13 := Lib.hid th13
  clear th13
  have HBw13 := Lib.hid (HBw12.out.trans (hbw13.mono HBw12.out.size))
  have hSw13 : (fun (V : World) => V.cell? ⟨b1, 0, none⟩ = some (.slice (some ⟨bq, oq, none⟩) 4 cq) ∧ V.cell? ⟨b1, 1, none⟩ = some (.slice (some ⟨g, 0, none⟩) 1 1) ∧ V.cell? ⟨bq, oq + 29, none⟩ = some (.slice pk 2 ck) ∧ V.cell? ⟨bk, ok, none⟩ = some (.slice q0 m0 c0) ∧ V.cell? ⟨bk, ok + 1, none⟩ = some (.slice none 0 0) ∧ V.cell? ⟨bk, ok + 2, none⟩ = some (.slice q1 m1 c1) ∧ V.cell? ⟨bk, ok + 3, none⟩ = some (.slice none 0 0)) w13 := ⟨cell_below hS.1 hbw13, cell_below hS.2.1 hbw13, cell_below hS.2.2.1 hbw13, cell_below hS.2.2.2.1 hbw13, cell_below hS.2.2.2.2.1 hbw13, cell_below hS.2.2.2.2.2.1 hbw13, cell_below hS.2.2.2.2.2.2 hbw13⟩
  refine hK.out _ _ ⟨fun _ => hSw13, fun _ => hSw13⟩ ?_
  clear hK K hS hS2 hbw13
  have hS := hSw13
  have hS2 := hSw13
  clear hSw13
  try simp only [Act.put, sb0, sb1, sb2]
  refine anyL_one (i := 48) (o := ⟨some 61, Op.call ⟨.value (.func 11), #[.tmp 58, .tmp 60], #[34, 34]⟩, 4, "law.go:36", #[⟨45, .data⟩, ⟨47, .data⟩, ⟨47, .chain⟩, ⟨42, .guard⟩], some (42, true)⟩) (by kernel_rfl) rfl (fun K hK => ?_)
  go_simp
  refine (HSB.out w13 q13 m13 c13 ys13 HBw13.out HT13.out).mono ?_
  rintro e w14 ⟨rfl, hbw14⟩
  have HBw14 := Lib.hid (HBw13.out.trans (hbw14.mono HBw13.out.size))
  have hSw14 : (fun (V : World) => V.cell? ⟨b1, 0, none⟩ = some (.slice (some ⟨bq, oq, none⟩) 4 cq) ∧ V.cell? ⟨b1, 1, none⟩ = some (.slice (some ⟨g, 0, none⟩) 1 1) ∧ V.cell? ⟨bq, oq + 29, none⟩ = some (.slice pk 2 ck) ∧ V.cell? ⟨bk, ok, none⟩ = some (.slice q0 m0 c0) ∧ V.cell? ⟨bk, ok + 1, none⟩ = some (.slice none 0 0) ∧ V.cell? ⟨bk, ok + 2, none⟩ = some (.slice q1 m1 c1) ∧ V.cell? ⟨bk, ok + 3, none⟩ = some (.slice none 0 0)) w14 := ⟨cell_below hS.1 hbw14, cell_below hS.2.1 hbw14, cell_below hS.2.2.1 hbw14, cell_below hS.2.2.2.1 hbw14, cell_below hS.2.2.2.2.1 hbw14, cell_below hS.2.2.2.2.2.1 hbw14, cell_below hS.2.2.2.2.2.2 hbw14⟩
  refine hK.out _ _ ⟨fun _ => hSw14, fun _ => hSw14⟩ ?_
  clear hK K hS hS2 hbw14
  have hS := hSw14
  have hS2 := hSw14
  clear hSw14
  try simp only [Act.put, sb0, sb1, sb2]
  refine anyL_take1 (i := 49) (oi := ⟨some 62, Op.pick (.tmp 55) (.tmp 61) (.const (Value.bool false)), 4, "law.go:36", #[⟨42, .data⟩, ⟨48, .data⟩], none⟩) (u := ?_) rfl (by kernel_rfl) (fun _ _ _ h => h) (Or.inl ⟨by kernel_rfl, ?_⟩) ⟨fun _ => hS, fun _ => hS2⟩ ?_
  rotate_left
  focus (intro w hSw; (try dsimp only at hSw); go_simp; with_reducible rfl)
  try simp only [Act.put, sb0, sb1, sb2]
  refine anyL_take1 (i := 50) (oi := ⟨some 63, Op.move (.tmp 62), 4, "law.go:36", #[⟨49, .data⟩, ⟨48, .chain⟩], none⟩) (u := ?_) rfl (by kernel_rfl) (fun _ _ _ h => h) (Or.inl ⟨by kernel_rfl, ?_⟩) ⟨fun _ => hS, fun _ => hS2⟩ ?_
  rotate_left
  focus (intro w hSw; (try dsimp only at hSw); go_simp; with_reducible rfl)
  try simp only [Act.put, sb0, sb1, sb2]
  refine anyL_take1 (i := 51) (oi := ⟨some 64, Op.move (.tmp 3), 3, "law.go:36", #[⟨50, .guard⟩], some (50, true)⟩) (u := ?_) rfl (by kernel_rfl) (fun _ _ _ h => h) (Or.inl ⟨by kernel_rfl, ?_⟩) ⟨fun _ => hS, fun _ => hS2⟩ ?_
  rotate_left
  focus (intro w hSw; (try dsimp only at hSw); go_simp; with_reducible rfl)
  try simp only [Act.put, sb0, sb1, sb2]
  refine anyL_take1 (i := 52) (oi := ⟨some 65, Op.binOp BinOp.eql 3 (.tmp 64) (.const (.int .i64 1)) 3, 4, "law.go:36", #[⟨51, .data⟩, ⟨50, .guard⟩], some (50, true)⟩) (u := ?_) rfl (by kernel_rfl) (fun _ _ _ h => h) (Or.inl ⟨by kernel_rfl, ?_⟩) ⟨fun _ => hS, fun _ => hS2⟩ ?_
  rotate_left
  focus (intro w hSw; (try dsimp only at hSw); go_simp; with_reducible rfl)
  try simp only [Act.put, sb0, sb1, sb2]
  refine anyL_take1 (i := 53) (oi := ⟨some 66, Op.pick (.tmp 63) (.tmp 65) (.const (Value.bool false)), 4, "law.go:36", #[⟨50, .data⟩, ⟨52, .data⟩], none⟩) (u := ?_) rfl (by kernel_rfl) (fun _ _ _ h => h) (Or.inl ⟨by kernel_rfl, ?_⟩) ⟨fun _ => hS, fun _ => hS2⟩ ?_
  rotate_left
  focus (intro w hSw; (try dsimp only at hSw); go_simp; with_reducible rfl)
  try simp only [Act.put, sb0, sb1, sb2]
  refine anyL_take1 (i := 54) (oi := ⟨some 67, Op.move (.tmp 66), 4, "law.go:36", #[⟨53, .data⟩, ⟨50, .chain⟩], none⟩) (u := ?_) rfl (by kernel_rfl) (fun _ _ _ h => h) (Or.inl ⟨by kernel_rfl, ?_⟩) ⟨fun _ => hS, fun _ => hS2⟩ ?_
  rotate_left
  focus (intro w hSw; (try dsimp only at hSw); go_simp; with_reducible rfl)
  try simp only [Act.put, sb0, sb1, sb2]
  refine anyL_take1 (i := 55) (oi := ⟨some 68, Op.move (.tmp 4), 3, "law.go:36", #[⟨54, .guard⟩], some (54, true)⟩) (u := ?_) rfl (by kernel_rfl) (fun _ _ _ h => h) (Or.inl ⟨by kernel_rfl, ?_⟩) ⟨fun _ => hS, fun _ => hS2⟩ ?_
  rotate_left
  focus (intro w hSw; (try dsimp only at hSw); go_simp; with_reducible rfl)
  try simp only [Act.put, sb0, sb1, sb2]
  refine anyL_take1 (i := 56) (oi := ⟨some 69, Op.binOp BinOp.eql 3 (.tmp 68) (.const (.int .i64 1)) 3, 4, "law.go:36", #[⟨55, .data⟩, ⟨54, .guard⟩], some (54, true)⟩) (u := ?_) rfl (by kernel_rfl) (fun _ _ _ h => h) (Or.inl ⟨by kernel_rfl, ?_⟩) ⟨fun _ => hS, fun _ => hS2⟩ ?_
  rotate_left
  focus (intro w hSw; (try dsimp only at hSw); go_simp; with_reducible rfl)
  try simp only [Act.put, sb0, sb1, sb2]
  refine anyL_take1 (i := 57) (oi := ⟨some 70, Op.pick (.tmp 67) (.tmp 69) (.const (Value.bool false)), 4, "law.go:36", #[⟨54, .data⟩, ⟨56, .data⟩], none⟩) (u := ?_) rfl (by kernel_rfl) (fun _ _ _ h => h) (Or.inl ⟨by kernel_rfl, ?_⟩) ⟨fun _ => hS, fun _ => hS2⟩ ?_
  rotate_left
  focus (intro w hSw; (try dsimp only at hSw); go_simp; with_reducible rfl)
  try simp only [Act.put, sb0, sb1, sb2]
  refine anyL_one (i := 58) (o := ⟨some 0, Op.assign (.tmp 70), 4, "law.go:36", #[⟨57, .data⟩, ⟨54, .chain⟩, ⟨0, .phase⟩, ⟨1, .phase⟩, ⟨2, .phase⟩, ⟨3, .phase⟩, ⟨4, .phase⟩, ⟨5, .phase⟩, ⟨6, .phase⟩, ⟨7, .phase⟩, ⟨8, .phase⟩, ⟨9, .phase⟩, ⟨10, .phase⟩, ⟨11, .phase⟩, ⟨12, .phase⟩, ⟨13, .phase⟩, ⟨14, .phase⟩, ⟨15, .phase⟩, ⟨16, .phase⟩, ⟨17, .phase⟩, ⟨18, .phase⟩, ⟨19, .phase⟩, ⟨20, .phase⟩, ⟨21, .phase⟩, ⟨22, .phase⟩, ⟨23, .phase⟩, ⟨24, .phase⟩, ⟨25, .phase⟩, ⟨26, .phase⟩, ⟨27, .phase⟩, ⟨28, .phase⟩, ⟨29, .phase⟩, ⟨30, .phase⟩, ⟨31, .phase⟩, ⟨32, .phase⟩, ⟨33, .phase⟩, ⟨34, .phase⟩, ⟨35, .phase⟩, ⟨36, .phase⟩, ⟨37, .phase⟩, ⟨38, .phase⟩, ⟨39, .phase⟩, ⟨40, .phase⟩, ⟨41, .phase⟩, ⟨42, .phase⟩, ⟨43, .phase⟩, ⟨44, .phase⟩, ⟨45, .phase⟩, ⟨46, .phase⟩, ⟨47, .phase⟩, ⟨48, .phase⟩, ⟨49, .phase⟩, ⟨50, .phase⟩, ⟨51, .phase⟩, ⟨52, .phase⟩, ⟨53, .phase⟩, ⟨54, .phase⟩, ⟨55, .phase⟩, ⟨56, .phase⟩, ⟨57, .phase⟩], none⟩) (by kernel_rfl) rfl (fun K hK => ?_)
  go_simp
  refine hK.out _ _ ⟨fun h => absurd h (by decide), fun h => absurd h (by decide)⟩ ?_
  clear hK K hS hS2
  try simp only [Act.put, sb0, sb1, sb2]
  refine anyL_done (by kernel_rfl) (show onlyN _ .normal _ _ from ?_) _
  dsimp only [onlyN]
  go_wp2
  go_ret
  exact ⟨rfl, HBL.out.trans (HBw14.out.mono HBL.out.size)⟩
end Go.Proofs.YtjpccmiaimkmbaaGreat
