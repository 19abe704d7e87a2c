/- The walk of bySet: the classes by one set. -/
import Derived.Test.YtildfjlaieaadaaGreatRl
import Derived.Test.YtildfjlaieaadaaGreatQf2

namespace Go.Proofs.YtildfjlaieaadaaGreat
open Go.RowKit Tnr

theorem joinq_one (p : Option Addr) (c m : Nat) (l r : List R) (W : World) (hr : r = cn l) (hm : m = l.length) (hp : SlR W p l) (hl : l.length ≤ 50000) :
    Calls Tryz.prog 39 #[.slice (some ⟨W.heap.size, 0, none⟩) 1 1] (W.alloc (.cells #[.slice p m c] 29)) fun e w' => ∃ q cq, e = .returned (.slice q r.length cq) ∧ OwnR w' W.heap.size (.slice q r.length cq) r ∧ Below W.heap.size W w' := by
  subst hm
  have h := join_any (some ⟨W.heap.size, 0, none⟩) 1 1 [(p, c, l)] r (W.alloc (.cells #[.slice p l.length c] 29)) (by rw [flat_one]; exact hr) rfl (sls_new (fun x hx => by simp only [List.mem_singleton] at hx; subst hx; exact hp) rfl) (by rw [flat_one]; omega) (by simp)
  refine Calls.mono h ?_
  rintro e w' ⟨q, cq, h1, h2, h3⟩
  exact ⟨q, cq, h1, ownR_down h2 (by simp), bl_trans (bl_alloc _ _) h3⟩
/-- the cuts of the first ranges. -/
def cutsK (l : List R) (k : Nat) : List Int := 0 :: (cutsR (l.take k)).filter okCut
theorem cutsK_succ {l : List R} {k : Nat} (h : k < l.length) : cutsK l (k + 1) = (cutsK l k ++ (if okCut (gr l k).1 then [(gr l k).1] else [])) ++ (if okCut ((gr l k).2 + 1) then [(gr l k).2 + 1] else []) := by
  unfold cutsK
  rw [take_gr h]
  unfold cutsR
  rw [List.flatMap_append, List.filter_append, List.cons_append, List.cons_append, List.append_assoc]
  congr 2
  simp only [List.flatMap_cons, List.flatMap_nil, List.append_nil, List.filter_cons, List.filter_nil]
  split <;> split <;> rfl
theorem cutsK_length (l : List R) (k : Nat) : (cutsK l k).length ≤ 2 * l.length + 1 := by
  unfold cutsK
  rw [List.length_cons]
  have h1 := List.length_filter_le okCut (cutsR (l.take k))
  rw [cutsR_length, List.length_take] at h1
  omega
theorem range_ne {c : Array Value} {fz : Nat × Nat} {cs : Array Value} {f : Nat × Nat} : (Obj.cells c 28 fz) ≠ .cells cs 3 f := by
  intro e; injection e with _ h2 _; exact absurd h2 (by decide)
theorem cls_ne {c : Array Value} {fz : Nat × Nat} {cs : Array Value} {f : Nat × Nat} : (Obj.cells c 37 fz) ≠ .cells cs 3 f := by
  intro e; injection e with _ h2 _; exact absurd h2 (by decide)
theorem Box2.ni {W : World} {b : Nat} {T : TypeId} {u v : Value} (h : Box2 W b T u v) (hT : T ≠ 3) : NotInt W b := by
  intro c fz e
  rw [show W.heap[b]? = _ from h] at e
  simp only [Option.some.injEq] at e
  injection e with _ h2 _; exact hT h2
/-- a row of ranges stays while only rows of numbers, and one box, are written. -/
theorem ownR_stays {w w' : World} {B b : Nat} {v : Value} {l : List R} {u x : Value} (h : OwnR w B v l) (hb : Box2 w b 37 u x) (hs : ∀ k, k < w.heap.size → k ≠ b → NotInt w k → w'.heap[k]? = w.heap[k]?) : OwnR w' B v l := by
  have hne := ownR_ne h (show w.heap[b]? = some _ from hb) (by decide)
  obtain ⟨h1, h2⟩ := h
  refine ⟨h1, ?_⟩
  rcases h2 with h2 | ⟨g, cap, cur, rfl, hg, hh, r⟩
  · exact .inl h2
  · refine .inr ⟨g, cap, cur, rfl, hg, (hs g (lt_of_block hh) (fun e => hne (by rw [e]; rfl)) (fun c fz e => ?_)).trans hh, r⟩
    rw [hh] at e
    simp only [Option.some.injEq] at e
    exact range_ne e

theorem rf_in : ∀ {l : List R} {a : Int}, RF a l → -2 ≤ a → In l
  | [], _, _, _ => in_nil
  | r :: l, a, h, ha => by
    obtain ⟨h1, h2, h3, h4⟩ := h
    intro x hx
    rcases List.mem_cons.1 hx with rfl | hx
    · exact ⟨by omega, h2, h3⟩
    · exact rf_in h4 (by omega) x hx
theorem alt_snd : ∀ (t : List Int) (k : Nat), (alt k t).map (fun x => (x.2 : Int)) = (List.range' k t.length).map fun i : Nat => (i : Int) % 2
  | [], _ => rfl
  | x :: t, k => by
    rw [alt, List.map_cons, alt_snd t, List.length_cons, List.range'_succ, List.map_cons]
    congr 1
/-- the first classes of pieces by turns. -/
def ofs (j : Nat) : List Int := (List.range' 0 j).map fun i : Nat => (i : Int) % 2
theorem ofs_succ (j : Nat) : ofs (j + 1) = ofs j ++ [(j : Int) % 2] := by
  unfold ofs
  rw [List.range'_concat, List.map_append]
  simp
theorem ofs_length (j : Nat) : (ofs j).length = j := by unfold ofs; simp
set_option maxHeartbeats 3200000 in
set_option maxRecDepth 100000 in
theorem bySet_any (p : Option Addr) (c m : Nat) (l r : List R) (w : World) (hr : r = cn l) (hm : m = l.length) (hp : SlR w p l) (hl : l.length ≤ 20000) :
    Calls Tryz.prog 28 #[.slice p m c] w fun e w' => ∃ v, e = .returned v ∧ ClsAt w' v (setP r) ∧ Below w.heap.size w w' := by
  obtain ⟨i0, hinf, hz0, hz1, hz2⟩ := info_parts info_intq
  obtain ⟨B, hB⟩ : ∃ B, B = w.heap.size := ⟨_, rfl⟩
  have hW1 : Box2 (((w.alloc (.cells #[.slice none 0 0, .slice none 0 0] 37)).alloc (.cells #[.int .i64 0] 3)).alloc (.cells #[.slice (some ⟨w.heap.size + 1, 0, none⟩) 1 1, .slice none 0 0] 37)) B 37 (.slice none 0 0) (.slice none 0 0) := by
    rw [hB]
    exact ((Box2.new w _ _ _).below (bl_alloc _ _)).below (bl_alloc _ _)
  have hW2 : Box2 (((w.alloc (.cells #[.slice none 0 0, .slice none 0 0] 37)).alloc (.cells #[.int .i64 0] 3)).alloc (.cells #[.slice (some ⟨w.heap.size + 1, 0, none⟩) 1 1, .slice none 0 0] 37)) (B + 1 + 1) 37 (.slice (some ⟨B + 1, 0, none⟩) 1 1) (.slice none 0 0) := by
    have h := Box2.new ((w.alloc (.cells #[.slice none 0 0, .slice none 0 0] 37)).alloc (.cells #[.int .i64 0] 3)) 37 (.slice (some ⟨w.heap.size + 1, 0, none⟩) 1 1) (.slice none 0 0)
    simp only [World.size_alloc, ← hB] at h ⊢
    exact h
  have hW3 : OwnQ (((w.alloc (.cells #[.slice none 0 0, .slice none 0 0] 37)).alloc (.cells #[.int .i64 0] 3)).alloc (.cells #[.slice (some ⟨w.heap.size + 1, 0, none⟩) 1 1, .slice none 0 0] 37)) B (.slice (some ⟨B + 1, 0, none⟩) 1 1) [0] := by
    have h := ownQ_new (w.alloc (.cells #[.slice none 0 0, .slice none 0 0] 37)) 0
    rw [World.size_alloc] at h
    have h2 := ownQ_below h (bl_alloc _ (.cells #[.slice (some ⟨w.heap.size + 1, 0, none⟩) 1 1, .slice none 0 0] 37))
    rw [← hB] at h2 ⊢
    exact ownQ_down h2 (by omega)
  have hW4 : Below w.heap.size w (((w.alloc (.cells #[.slice none 0 0, .slice none 0 0] 37)).alloc (.cells #[.int .i64 0] 3)).alloc (.cells #[.slice (some ⟨w.heap.size + 1, 0, none⟩) 1 1, .slice none 0 0] 37)) := bl_trans (bl_trans (bl_alloc _ _) (bl_alloc _ _)) (bl_alloc _ _)
  have HJ := joinq_one p c m l r _ hr hm (hp.below hW4) (by omega)
  simp only [World.size_alloc] at HJ
  have hlr := cn_length l
  rw [← hr] at hlr
  have HRT : Hid (Rt r) := by show Rt r; rw [hr]; exact cn_right l
  have HLR : Hid (r.length ≤ 20000) := by show _ ≤ _; omega
  have HJ := Lib.hid HJ
  have H1 := Lib.hid hW1
  have H2 := Lib.hid hW2
  have H3 := Lib.hid hW3
  have H4 := Lib.hid hW4
  clear hW1 hW2 hW3 hW4 hp hl hlr hr hm
  go_enter Tryz.func28, Tryz.ntmps28
  go_wp2_with fail
  refine HJ.out.mono ?_
  rintro e w5 ⟨q, cq, rfl, ho5, hb5⟩
  have hs5 := hb5.size
  simp only [World.size_alloc] at hs5
  have G1 := Lib.hid (H1.out.below (by simpa using hb5))
  have G2 : Hid (CutIn w5 (B + 1 + 1) B (cutsK r 0) (.slice none 0 0)) := ⟨_, _, H2.out.below (by simpa using hb5), ownQ_below H3.out (by simpa using hb5)⟩
  have G4 := Lib.hid (bl_trans H4.out (by simpa using hb5))
  have GR : Hid (OwnR w5 B (.slice q r.length cq) r) := ownR_down ho5 (by omega)
  obtain ⟨q', cq', e5, _, hcm, _, hsl5, _⟩ := ownR_form ho5
  simp only [Value.slice.injEq, true_and] at e5
  obtain ⟨rfl, rfl⟩ := e5
  obtain ⟨m, hm⟩ : ∃ m, m = r.length := ⟨_, rfl⟩
  rw [← hm] at GR ⊢
  have HM := Lib.hid hm
  have hmI : (m : Int) ≤ 20000 := by have := HLR.out; omega
  have HBE := Lib.hid hB
  clear ho5 hb5 HJ H1 H2 H3 H4 hm hsl5 hs5 hcm
  rw [← hB]
  clear hB
  go_wp2
  go_loopw [13] (fun iv wr => ∃ k : Nat, k ≤ m ∧ iv = .int .i64 (k : Nat) ∧ Hid (CutIn wr (B + 1 + 1) B (cutsK r k) (.slice none 0 0)) ∧ Hid (OwnR wr B (.slice q m cq) r) ∧ Hid (Below w.heap.size w wr) ∧ Hid (Box2 wr B 37 (.slice none 0 0) (.slice none 0 0))) (fun iv _ => m - (intOf iv).toNat)
  case atStart => exact ⟨0, Nat.zero_le _, rfl, G2, GR, G4, G1⟩
  case round =>
    obtain ⟨k, hk, rfl, HC, HO, HBL, HR0⟩ := hrel
    rename World => wr
    clear G1 G2 G4 GR
    by_cases hkm : k < m
    · have hkr : k < r.length := by have := HM.out; omega
      obtain ⟨q', cq', e5, _, _, _, hsl, _⟩ := ownR_form HO.out
      simp only [Value.slice.injEq] at e5
      obtain ⟨rfl, -, rfl⟩ := e5
      obtain ⟨b, o, rfl, hc0, hc1⟩ := slr_at hsl hkr
      obtain ⟨x, hx⟩ : ∃ x, x = (gr r k).1 := ⟨_, rfl⟩
      obtain ⟨y, hy⟩ : ∃ y, y = (gr r k).2 := ⟨_, rfl⟩
      rw [← hx] at hc0
      rw [← hy] at hc1
      have hin := rf_in (show RF (-2) r from HRT.out) (by omega) (gr r k) (gr_mem hkr)
      rw [← hx, ← hy] at hin
      obtain ⟨hin1, hin2, hin3⟩ := hin
      have HX := Lib.hid hx
      have HY := Lib.hid hy
      have hkI : (k : Int) < m := by omega
      clear hx hy hsl
      go_wp2_with fail
      obtain ⟨W1, hW1⟩ : ∃ W1, W1 = wr.alloc (.cells #[.int .i64 x, .int .i64 y] 28) := ⟨_, rfl⟩
      obtain ⟨nb, hnb⟩ : ∃ nb, nb = wr.heap.size := ⟨_, rfl⟩
      have hb1 : Below wr.heap.size wr W1 := by rw [hW1]; exact bl_alloc _ _
      have hx1 : Box2 W1 nb 28 (.int .i64 x) (.int .i64 y) := by rw [hW1, hnb]; exact Box2.new _ _ _ _
      have hr1 := HR0.out.below hb1
      have ho1 := ownR_below HO.out hb1
      have hs1 : Below B w W1 := by rw [HBE.out]; exact bl_trans HBL.out hb1
      have hnl : B + 1 + 1 < nb := by
        obtain ⟨_, _, hbx, _⟩ := HC.out
        rw [hnb]; exact hbx.lt
      have hkl := cutsK_length r k
      have hlr := HLR.out
      rw [← hW1, ← hnb]
      refine (cut_any (B + 1 + 1) B (cutsK r k) (cutsK r k ++ (if okCut x then [x] else [])) _ x W1 rfl (HC.out.below hb1) (by omega) (by omega)).mono ?_
      have hbx1 : ∃ u, Box2 W1 (B + 1 + 1) 37 u (.slice none 0 0) := by
        obtain ⟨_, _, hbx, _⟩ := HC.out.below hb1
        exact ⟨_, hbx⟩
      rintro e W2 ⟨rfl, hc2, hb2, hk2⟩
      obtain ⟨u1, hbx1⟩ := hbx1
      have hx2 : Box2 W2 nb 28 (.int .i64 x) (.int .i64 y) := hx1.at (hk2 nb hx1.lt (by omega) (hx1.ni (by decide)))
      have hr2 := hr1.at (hk2 B hr1.lt (by omega) (hr1.ni (by decide)))
      have ho2 := ownR_stays ho1 hbx1 hk2
      have HS2 := Lib.hid (hs1.trans hb2)
      have hy2 := hx2.cell1
      have HX2 := Lib.hid hx2
      have HR2 := Lib.hid hr2
      have HO2 := Lib.hid ho2
      have HC2 := Lib.hid hc2
      have HNL := Lib.hid hnl
      have hclen : (cutsK r k ++ (if okCut x then [x] else [])).length ≤ 50000 := by
        rw [List.length_append]
        split <;> simp <;> omega
      have HCL := Lib.hid hclen
      clear hW1 hb1 hx1 hr1 ho1 hs1 hkl hlr hbx1 hb2 hk2 hx2 hr2 ho2 hc2 hnl hclen hc0 hc1 hnb
      go_wp2_with fail
      refine (cut_any (B + 1 + 1) B _ (cutsK r (k + 1)) _ (y + 1) W2 (by rw [cutsK_succ hkr, ← HX.out, ← HY.out]) HC2.out (by omega) (by have := HCL.out; omega)).mono ?_
      rintro e W3 ⟨rfl, hc3, hb3, hk3⟩
      have hr3 := HR2.out.at (hk3 B HR2.out.lt (by omega) (HR2.out.ni (by decide)))
      obtain ⟨_, _, hbx2, _⟩ := HC2.out
      have ho3 := ownR_stays HO2.out hbx2 hk3
      have HS3 := Lib.hid (HS2.out.trans hb3)
      clear hk3 hb3 hbx2 hy2
      go_wp2
      go_roundw
      case rel =>
        exact ⟨k + 1, by omega, by go_num, hc3, ho3, by have h := HS3.out; rw [HBE.out] at h; exact h, hr3⟩
      case measure => simp [intOf]; omega
    · have hkI : (m : Int) ≤ k := by omega
      have hkm' : k = m := by omega
      subst hkm'
      obtain ⟨pc, cc, hbx, hoq⟩ := HC.out
      obtain ⟨cs, hcs⟩ : ∃ cs, cs = cutsK r k := ⟨_, rfl⟩
      rw [← hcs] at hbx hoq
      obtain ⟨n, hn⟩ : ∃ n, n = cs.length := ⟨_, rfl⟩
      rw [← hn] at hbx hoq
      have hnI : (n : Int) ≤ 50000 := by have h1 := cutsK_length r k; have h2 := HLR.out; rw [← hcs] at h1; omega
      have h00 := hbx.cell0
      have HBX := Lib.hid hbx
      have HOQ := Lib.hid hoq
      have HNN := Lib.hid hn
      have HCS : Hid (setP r = alt 0 cs) := by
        show _ = _
        rw [hcs]; unfold setP cutsK
        rw [List.take_of_length_le (by have := HM.out; omega)]
      clear hbx hoq hn hcs HC
      go_wp2
      clear h00
      go_loopw [30] (fun iv wr => ∃ (j : Nat) (po : Option Addr) (co : Nat), j ≤ n ∧ iv = .int .i64 (j : Nat) ∧ Hid (Box2 wr (B + 1 + 1) 37 (.slice pc n cc) (.slice po j co)) ∧ Hid (OwnQ wr B (.slice pc n cc) cs) ∧ Hid (OwnQ wr B (.slice po j co) (ofs j)) ∧ Hid (∀ g, (Value.slice po j co).ownBlock = some g → (Value.slice pc n cc).ownBlock ≠ some g) ∧ Hid (Below w.heap.size w wr) ∧ Hid (Box2 wr B 37 (.slice none 0 0) (.slice none 0 0))) (fun iv _ => n - (intOf iv).toNat)
      case atStart => exact ⟨0, none, 0, Nat.zero_le _, rfl, HBX.out, HOQ.out, ownQ_nil _ _, fun g hg => by simp [Value.ownBlock] at hg, HBL.out, HR0.out⟩
      case round =>
        obtain ⟨j, po, co, hj, rfl, HB2, HC2, HO2, HAP, HBL2, HR2⟩ := hrel
        clear HBX HOQ HBL HR0
        rename World => wq
        by_cases hjn : j < n
        · have hjI : (j : Int) < n := by omega
          have h01 := HB2.out.cell1
          have HROW := Lib.hid (ownQ_row HO2.out (ofs_length j).symm)
          have HNE : Hid ((Value.slice po j co).ownBlock ≠ some (B + 1 + 1)) := ownQ_ne HO2.out (show wq.heap[B + 1 + 1]? = some _ from HB2.out) (by intro c fz e; injection e with _ h2 _; exact absurd h2 (by decide))
          have hwl : B ≤ wq.heap.size := by rw [HBE.out]; exact HBL2.out.size
          have HWL := Lib.hid hwl
          clear hkI
          go_wp2_with (at_builtin; refine wpList_append_lies _ rfl _ _ 32 rfl B 3 i0 (.int .i64 0) 1 8 Tryz.underlying32 hinf hz0 hz1 hz2 rfl (by decide) (.slice po j co) j _ rfl (HROW.out.alloc _) ⟨wq.heap.size, 0, none⟩ 1 1 [.int .i64 ((j : Int) % 2)] rfl rfl (cells_one_q _ _ _) (by simp [Value.oneCell']) (by omega) (by simp only [maxLen]; omega) (by omega) (by simp; omega) (wq.heap.size + 1) (by simp) ?_; intro gg cap w2 hown2 hgrow2 hat2 hlt2; have hbw : Box2 w2 (B + 1 + 1) 37 (.slice pc n cc) (.slice po j co) := (HB2.out.below (bl_alloc wq (.cells #[.int .i64 ((j : Int) % 2)] 3))).kept hgrow2 (Ne.symm HNE.out); have hc2 := hbw.cell1; have hf2 := hbw.free 1; have HBW := Lib.hid hbw; have HOWN2 := Lib.hid hown2; have HG2 := Lib.hid hgrow2; have HA2 := Lib.hid hat2; clear hbw hown2 hgrow2 hat2 hlt2)
          obtain ⟨g1, g2, g3, g4, g5⟩ := grow_one (ofs_length j).symm HROW.out HC2.out HAP.out (bl_alloc wq (.cells #[.int .i64 ((j : Int) % 2)] 3)) (by simp) HOWN2.out HG2.out HA2.out hwl
          have hrw := HR2.out.at (g4 B HR2.out.lt (HR2.out.ni (by decide)))
          have hni : NotInt w2 (B + 1 + 1) := HBW.out.ni (by decide)
          have HRW := Lib.hid hrw
          have G1 := Lib.hid (ownQ_set g1 hni 1 (.slice (some ⟨gg, 0, none⟩) (j + 1) cap))
          have G2 := Lib.hid (ownQ_set g2 hni 1 (.slice (some ⟨gg, 0, none⟩) (j + 1) cap))
          have G3 := Lib.hid g3
          have G5 : Hid (Below w.heap.size w w2) := by
            have h := g5 w (by have := HBL2.out; rw [← HBE.out] at this; exact this)
            rw [HBE.out] at h; exact h
          clear g1 g2 g3 g4 g5 hrw hni h01
          go_roundw
          case rel =>
            refine ⟨j + 1, some ⟨gg, 0, none⟩, cap, by omega, by go_num, HBW.out.set1 _, G2.out, ?_, fun g hg => ?_, G5.out.setCell (by have := HBE.out; show _ ≤ B + 1 + 1; omega) _, HRW.out.other (by show B ≠ B + 1 + 1; omega) _⟩
            · show OwnQ _ _ _ (ofs (j + 1))
              rw [ofs_succ]; exact G1.out
            · simp only [Value.ownBlock, Option.some.injEq] at hg
              rw [← hg]; exact G3.out
          case measure => simp [intOf]; omega
        · have hjI : (n : Int) ≤ j := by omega
          have hjn' : j = n := by omega
          subst hjn'
          have h00 := HB2.out.cell0
          have h01 := HB2.out.cell1
          have f00 := HR2.out.free 0
          have f01 := HR2.out.free 1
          have k00 := HR2.out.cell0
          have k01 := HR2.out.cell1
          have KC := Lib.hid (HR2.out.set0 (.slice pc j cc))
          have KD := Lib.hid (KC.out.set1 (.slice po j co))
          clear hjn
          go_wp2
          have d0 := KD.out.cell0
          have d1 := KD.out.cell1
          refine bodyPost_ret (v := .agg #[.slice pc j cc, .slice po j co]) (by simp [results, Tryz.f28, go_sem, d0, d1]) rfl ⟨_, rfl, ?_, ?_⟩
          · have hni : NotInt wq B := ni_of (show wq.heap[B]? = some _ from HR2.out) (by decide)
            have hni2 : NotInt (wq.setCell ⟨B, 0, none⟩ (.slice pc j cc)) B := ni_of (show (wq.setCell ⟨B, 0, none⟩ (.slice pc j cc)).heap[B]? = some _ from KC.out) (by decide)
            have e1 : j = (setP r).length := by rw [HCS.out, alt_length]; exact HNN.out
            have o1 := ownQ_set (ownQ_set HC2.out hni 0 (.slice pc j cc)) hni2 1 (.slice po j co)
            have o2 := ownQ_set (ownQ_set HO2.out hni 0 (.slice pc j cc)) hni2 1 (.slice po j co)
            obtain ⟨p1, k1, e2, _, _, s1⟩ := ownQ_form o1
            obtain ⟨p2, k2, e3, _, _, s2⟩ := ownQ_form o2
            simp only [Value.slice.injEq] at e2 e3
            obtain ⟨rfl, _, rfl⟩ := e2
            obtain ⟨rfl, _, rfl⟩ := e3
            refine ⟨pc, cc, po, co, by rw [← e1], ?_, ?_⟩
            · rw [HCS.out, alt_fst]; exact s1
            · rw [HCS.out, alt_snd, ← HNN.out]; exact s2
          · have hbe := HBE.out
            refine (HBL2.out.setCell ?_ _).setCell ?_ _
            · show _ ≤ B; omega
            · show _ ≤ B; omega
end Go.Proofs.YtildfjlaieaadaaGreat
