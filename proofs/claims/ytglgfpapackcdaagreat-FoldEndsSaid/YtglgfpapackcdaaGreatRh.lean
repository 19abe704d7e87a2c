/- The walk of all: a set's right ranges, one by one. -/
import Derived.Test.YtglgfpapackcdaaGreatRg
import Derived.Deep.RegionHeld
import Derived.OwnWalkIn
import Derived.TacticsInMore
import Derived.LoopNIn
import Derived.LoopIn

namespace Go.Proofs.YtglgfpapackcdaaGreat
open Go.RowKit Tnr

attribute [local go_sem] Oper.semAt_some

def SlB (n₀ : Nat) (w : World) (p : Option Addr) (l : List R) : Prop :=
  l = [] ∨ ∃ b off, p = some ⟨b, off, none⟩ ∧ b < n₀ ∧ ∀ i, i < l.length → w.cell? ⟨b, off + i * 2, none⟩ = some (.int .i64 (gr l i).1) ∧ w.cell? ⟨b, off + i * 2 + 1, none⟩ = some (.int .i64 (gr l i).2)
theorem SlB.of {w : World} {p : Option Addr} {l : List R} (h : SlR w p l) : SlB w.heap.size w p l := by
  by_cases h0 : l = []
  · exact .inl h0
  · rcases h with h | ⟨b, off, h1, h2⟩
    · exact .inl h
    · refine .inr ⟨b, off, h1, ?_, h2⟩
      have hl : 0 < l.length := by
        cases l with
        | nil => exact absurd rfl h0
        | cons a l => simp
      exact World.block_lt_of_cell? w _ (h2 0 hl).1
theorem SlR.grown {w w' : World} {p : Option Addr} {l : List R} (h : SlR w p l) (hg : w.grownBy w' none) : SlR w' p l := by
  rcases h with h | ⟨b, off, h1, h2⟩
  · exact .inl h
  · refine .inr ⟨b, off, h1, fun i hi => ?_⟩
    obtain ⟨c1, c2⟩ := h2 i hi
    exact ⟨hg.cell c1 (by simp), hg.cell c2 (by simp)⟩
theorem SlR.putObj {w : World} {p : Option Addr} {l : List R} (h : SlR w p l) {k : Nat} {o : Obj} (o' : Obj) (hk : w.heap[k]? = some o) (ho : o.isCells = false) : SlR (w.putObj k o') p l := by
  rcases h with h | ⟨b, off, h1, h2⟩
  · exact .inl h
  · refine .inr ⟨b, off, h1, fun i hi => ?_⟩
    obtain ⟨c1, c2⟩ := h2 i hi
    have hg := grownBy_putObj' w k o'
    have hr : ∀ r, some k = some r → ∃ o : Obj, w.heap[r]? = some o ∧ o.isCells = false := fun r e => by cases e; exact ⟨o, hk, ho⟩
    exact ⟨cell_kept c1 hg hr, cell_kept c2 hg hr⟩
theorem slr_keep {w W W' : World} {p : Option Addr} {l : List R} (hq : SlR w p l) (hb : Below w.heap.size W W') (h : SlR W p l) : SlR W' p l := by
  rcases SlB.of hq with h0 | ⟨b, off, h1, hlt, _⟩
  · exact .inl h0
  · rcases h with h | ⟨b', off', h2, h3⟩
    · exact .inl h
    · rw [h1] at h2
      simp only [Option.some.injEq, Addr.mk.injEq, and_true] at h2
      obtain ⟨rfl, rfl⟩ := h2
      refine .inr ⟨b, off, h1, fun i hi => ?_⟩
      obtain ⟨c1, c2⟩ := h3 i hi
      exact ⟨by rw [hb.cell hlt]; exact c1, by rw [hb.cell hlt]; exact c2⟩

def KpB (q : Option Addr) (d : List R) (Bs : Nat) (W W' : World) : Prop := (SlR W q d → SlR W' q d) ∧ ∀ v, Boxed W Bs 134 v → Boxed W' Bs 134 v
theorem KpB.trans {q : Option Addr} {d : List R} {Bs : Nat} {a b c : World} (h : KpB q d Bs a b) (k : KpB q d Bs b c) : KpB q d Bs a c := ⟨fun x => k.1 (h.1 x), fun v hv => k.2 v (h.2 v hv)⟩
theorem kpb_b {q : Option Addr} {d : List R} {Bs : Nat} {w : World} (W : World) (l : Nat) (o o' : Obj) (_ : w.heap.size ≤ l) (h : W.heap[l]? = some o) (hc : o.isCells = false) (_ : o.isWalk = false) : KpB q d Bs W (W.putObj l o') :=
  ⟨fun x => x.putObj o' h hc, fun v hv => hv.kept (grownBy_putObj' W l o') (fun e => by
    cases e
    rw [show W.heap[Bs]? = _ from hv] at h; cases h; cases hc)⟩

theorem all_any (q : Option Addr) (n c : Nat) (w : World) :
    Calls Tryz.prog 80 #[.agg #[.slice q n c]] w fun e w' => e = .returned (.func (.func 123) #[] #[.pointer (some ⟨w.heap.size, 0, none⟩)]) ∧ w' = w.alloc (.cells #[.slice q n c] 134) := by
  go_enter Tryz.func80, Tryz.ntmps80
  go_wp2
  go_ret
  exact ⟨rfl, rfl⟩

theorem merge_drop {d : List R} {k : Nat} (h : k < d.length) : merge (d.drop k) = mergeFrom (gr d k) (d.drop (k + 1)) := by
  rw [drop_gr h]; rfl
theorem mergeFrom_out {one : R} {d : List R} {j : Nat} (h : j < d.length → ¬ (gr d j).1 ≤ one.2 + 1) : mergeFrom one (d.drop j) = one :: merge (d.drop j) := by
  by_cases hj : j < d.length
  · have := h hj
    rw [drop_gr hj]
    show mergeFrom one (gr d j :: d.drop (j + 1)) = one :: mergeFrom (gr d j) (d.drop (j + 1))
    rw [show mergeFrom one (gr d j :: d.drop (j + 1)) = if (gr d j).1 ≤ one.2 + 1 then mergeFrom (one.1, max one.2 (gr d j).2) (d.drop (j + 1)) else one :: mergeFrom (gr d j) (d.drop (j + 1)) from rfl, if_neg this]
  · rw [List.drop_eq_nil_of_le (by omega)]; rfl
theorem mergeFrom_in {one : R} {d : List R} {j : Nat} (hj : j < d.length) (h : (gr d j).1 ≤ one.2 + 1) : mergeFrom one (d.drop j) = mergeFrom (one.1, max one.2 (gr d j).2) (d.drop (j + 1)) := by
  rw [drop_gr hj]
  rw [show mergeFrom one (gr d j :: d.drop (j + 1)) = if (gr d j).1 ≤ one.2 + 1 then mergeFrom (one.1, max one.2 (gr d j).2) (d.drop (j + 1)) else one :: mergeFrom (gr d j) (d.drop (j + 1)) from rfl, if_pos h]

theorem two_cell0 {w : World} {b : Nat} {u v : Value} {t : TypeId} (h : w.heap[b]? = some (.cells #[u, v] t (0, 0))) : w.cell? ⟨b, 0, none⟩ = some u := by simp [World.cell?, h]
theorem two_cell1 {w : World} {b : Nat} {u v : Value} {t : TypeId} (h : w.heap[b]? = some (.cells #[u, v] t (0, 0))) : w.cell? ⟨b, 1, none⟩ = some v := by simp [World.cell?, h]
theorem two_free {w : World} {b : Nat} {u v : Value} {t : TypeId} (h : w.heap[b]? = some (.cells #[u, v] t (0, 0))) (i : Nat) : w.frozen? ⟨b, i, none⟩ = false := by simp [World.frozen?, h]
theorem two_set1 {w : World} {b : Nat} {u v x : Value} {t : TypeId} (h : w.heap[b]? = some (.cells #[u, v] t (0, 0))) : (w.setCell ⟨b, 1, none⟩ x).heap[b]? = some (.cells #[u, x] t (0, 0)) := by
  have hlt := lt_of_block h
  have h' : w.heap[b] = .cells #[u, v] t (0, 0) := by simpa [Array.getElem?_eq_getElem hlt] using h
  show (w.heap.modify b _)[b]? = _
  rw [Array.getElem?_eq_getElem (by simpa using hlt), Array.getElem_modify_self, h']
  rfl
theorem gb_trans {a b c : World} (h : a.grownBy b none) (k : b.grownBy c none) : a.grownBy c none :=
  ⟨k.os.trans h.os, k.tape.trans h.tape, k.output.trans h.output, Nat.le_trans h.size k.size, fun i hi _ => (k.block i (Nat.lt_of_lt_of_le hi h.size) (by simp)).trans (h.block i hi (by simp))⟩
theorem gb_drewN (a : World) (n : Nat) : a.grownBy (a.drewN n) none := by
  have h := drewN_below a n
  refine ⟨?_, ?_, ?_, h.size, fun i hi _ => h.block i hi⟩ <;> (clear h; induction n with | zero => rfl | succ n ih => exact ih)
theorem gb_set {a b : World} (h : a.grownBy b none) {p : Addr} (hp : a.heap.size ≤ p.block) (v : Value) : a.grownBy (b.setCell p v) none :=
  ⟨h.os, h.tape, h.output, by simpa using h.size, fun i hi hne => (Below.heap_setCell _ _ _ i (by omega)).trans (h.block i hi hne)⟩

set_option maxHeartbeats 3200000 in
set_option maxRecDepth 100000 in
theorem all1_in (n l Bs : Nat) (q : Option Addr) (cq : Nat) (d : List R) (hin : In d) (hld : d.length ≤ 1000000000) (hn : 1 ≤ n) (J Jx : List R → World → Prop)
    (hY : ∀ pre x W, J pre W → pre.length < (merge d).length → YieldAt Fence.wide (n - 1) Tryz.prog l #[.agg #[.int .i64 x.1, .int .i64 x.2]] W fun e W' =>
      (e = .returned (.bool true) ∧ J (pre ++ [x]) W' ∧ KpB q d Bs W W') ∨ (e = .returned (.bool false) ∧ Jx (pre ++ [x]) W'))
    (W : World) (hJ : AbidesFrom W.heap.size J) (hBs : Boxed W Bs 134 (.slice q d.length cq)) (hL : SlR W q d) (h0 : J [] W) :
    CallsIn Fence.wide n Tryz.prog 123 #[.func (.yield l) #[] #[], .pointer (some ⟨Bs, 0, none⟩)] W fun e W' => (∃ v, e = .returned v) ∧
      ((∃ ys, ys = merge d ∧ J ys W') ∨ (∃ pre, pre <+: merge d ∧ Jx pre W')) := by
  obtain ⟨m, hm⟩ : ∃ m, m = d.length := ⟨_, rfl⟩
  rw [← hm] at hBs
  have hmI : (m : Int) ≤ 1000000000 := by omega
  have HM := Lib.hid hm
  have HIN := Lib.hid hin
  have HL := Lib.hid hL
  have HBS := Lib.hid hBs
  have HY := Lib.hid hY
  have HJ := Lib.hid hJ
  have H0 := Lib.hid h0
  have hc := hBs.cell
  clear hm hin hL hY hJ h0 hBs hld
  refine callsIn_of_wp Tryz.func123 rfl trivial ?_ rfl
  simp only [Tryz.ntmps123, List.size_toArray, List.length_cons, List.length_nil, Nat.reduceAdd, Nat.reduceSub, Array.replicate_succ, Array.replicate_zero, List.push_toArray, List.append_toArray, List.nil_append, List.cons_append]
  gi_wp2
  gi_loopw [3] (fun iv wr => ∃ (k : Nat) (pre : List R), k ≤ m ∧ iv = .int .i64 (k : Nat) ∧ Hid (pre ++ merge (d.drop k) = merge d) ∧ Hid (J pre wr) ∧ Hid (KpB q d Bs W wr)) (fun iv _ => m - (intOf iv).toNat)
  case atStart => exact ⟨0, [], Nat.zero_le _, rfl, rfl, H0.out, ⟨fun h => h, fun _ h => h⟩⟩
  case round =>
    obtain ⟨k, pre, hk, rfl, HE, HJP, HK⟩ := hrel
    rename World => wr
    have hbx := HK.out.2 _ HBS.out
    have hbc := hbx.cell
    have HBX := Lib.hid hbx
    clear hbx hc
    by_cases hkm : k < m
    · have hkd : k < d.length := by have := HM.out; omega
      obtain ⟨b, o, rfl, hc1, hc2⟩ := slr_at (HK.out.1 HL.out) hkd
      have hkI : (k : Int) < m := by omega
      obtain ⟨lo, hlo⟩ : ∃ x, x = (gr d k).1 := ⟨_, rfl⟩
      obtain ⟨hi, hhi⟩ : ∃ x, x = (gr d k).2 := ⟨_, rfl⟩
      rw [← hlo] at hc1
      rw [← hhi] at hc2
      have HR := Lib.hid (HIN.out (gr d k) (gr_mem hkd))
      have HGR := Lib.hid (show gr d k = (lo, hi) from Prod.ext hlo.symm hhi.symm)
      clear hlo hhi
      gi_wp2
      obtain ⟨tb, htb⟩ : ∃ tb, tb = wr.heap.size := ⟨_, rfl⟩
      rw [← htb]
      have HTB := Lib.hid htb
      refine wpIn_wide.2 ?_
      go_loopw [3] (fun jv wq => ∃ (j : Nat) (hi' : Int), k + 1 ≤ j ∧ j ≤ m ∧ 0 ≤ hi' ∧ hi' ≤ 1114111 ∧ jv = .int .i64 (j : Nat) ∧ Hid (mergeFrom (lo, hi') (d.drop j) = merge (d.drop k)) ∧ Hid (wq.heap[tb]? = some (.cells #[.int .i64 lo, .int .i64 hi'] 24 (0, 0))) ∧ Hid (wr.grownBy wq none)) (fun jv _ => m - (intOf jv).toNat)
      case atStart =>
        have hr := HR.out
        rw [HGR.out] at hr
        refine ⟨k + 1, hi, Nat.le_refl _, by omega, by have := hr.1; have := hr.2.1; simp only at *; omega, hr.2.2, by go_num, ?_, ?_, World.grownBy_alloc _ _ _⟩
        · show _ = merge (d.drop k)
          rw [merge_drop hkd, HGR.out]
        · rw [htb]; exact heap_alloc_new wr _
      case round =>
        obtain ⟨j, hi', hj1, hj2, hb1, hb2, rfl, HF, HT, HG⟩ := hrel
        rename World => wq
        have hbq : Boxed wq Bs 134 (.slice (some ⟨b, o, none⟩) m cq) := (HG.out.block Bs HBX.out.lt (by simp)).trans HBX.out
        have hbqc := hbq.cell
        have ht0 := two_cell0 HT.out
        have ht1 := two_cell1 HT.out
        have htf := two_free HT.out 1
        have HBQ := Lib.hid hbq
        have HJ1 := Lib.hid hj1
        clear hbq hc1 hc2 htb hbc hj1
        by_cases hjm : j < m
        · have hjd : j < d.length := by have := HM.out; omega
          obtain ⟨b', o', hq', hc3, hc4⟩ := slr_at ((HK.out.1 HL.out).grown HG.out) hjd
          simp only [Option.some.injEq, Addr.mk.injEq, and_true] at hq'
          obtain ⟨rfl, rfl⟩ := hq'
          have hjI : (j : Int) < m := by omega
          have HR2 := Lib.hid (HIN.out (gr d j) (gr_mem hjd))
          obtain ⟨lo2, hlo2⟩ : ∃ x, x = (gr d j).1 := ⟨_, rfl⟩
          obtain ⟨hi2, hhi2⟩ : ∃ x, x = (gr d j).2 := ⟨_, rfl⟩
          rw [← hlo2] at hc3
          rw [← hhi2] at hc4
          have HGR2 := Lib.hid (show gr d j = (lo2, hi2) from Prod.ext hlo2.symm hhi2.symm)
          have HJD := Lib.hid hjd
          clear hlo2 hhi2 hjd
          by_cases hlt : lo2 ≤ hi' + 1
          · go_wp2
            go_quiet (fail)
            go_wp2
            go_region
            go_wp2
            go_roundw
            case rel =>
              refine ⟨j + 1, max hi' hi2, by have := HJ1.out; omega, by omega, by omega, by have := HR2.out; rw [HGR2.out] at this; simp only at this; omega, by go_num, ?_, two_set1 (show (wq.drewN _).heap[tb]? = _ from HT.out), ?_⟩
              · show mergeFrom (lo, max hi' hi2) (d.drop (j + 1)) = _
                rw [← HF.out, mergeFrom_in HJD.out (by rw [HGR2.out]; exact hlt), HGR2.out]
              · exact gb_set (gb_trans HG.out (gb_drewN _ _)) (by have := HTB.out; simp; omega) _
            case measure => simp [intOf]; omega
          · have hlt2 : hi' + 1 < lo2 := by omega
            go_wp2
            go_quiet (fail)
            go_wp2
            have hout : mergeFrom (lo, hi') (d.drop j) = (lo, hi') :: merge (d.drop j) := mergeFrom_out (fun _ => by rw [HGR2.out]; simp only; omega)
            have hE2 : pre ++ [(lo, hi')] ++ merge (d.drop j) = merge d := by rw [List.append_assoc, List.singleton_append, ← hout, HF.out]; exact HE.out
            have hlen : pre.length < (merge d).length := by rw [← hE2]; simp
            have HE2 := Lib.hid hE2
            have hG2 := gb_trans HG.out (gb_drewN wq nq)
            have HJ2 : J pre (wq.drewN nq) := HJ.out pre wr _ none HJP.out hG2 (fun r e => by cases e)
            have HK2 := Lib.hid (KpB.trans HK.out (show KpB _ d Bs wr (wq.drewN nq) from ⟨fun x => x.grown hG2, fun v hv => (hG2.block Bs hv.lt (by simp)).trans hv⟩))
            obtain ⟨fn, tmps, assign, body, hy, hR⟩ := HY.out pre (lo, hi') (wq.drewN nq) HJ2 hlen
            dsimp only at hy
            clear hout hE2 hlen hG2 HJ2 HE HF HJP HK
            gi_wp2
            refine hR.mono ?_
            rintro e W3 (⟨rfl, hJ3, hk3⟩ | ⟨rfl, hJx3⟩)
            · gi_wp2
              go_roundw
              case rel => exact ⟨j, pre ++ [(lo, hi')], by omega, rfl, HE2.out, hJ3, HK2.out.trans hk3⟩
              case measure => have := HJ1.out; simp [intOf]; omega
            · gi_wp2
              refine bodyPost_ret (results_none rfl _ _ _) rfl ?_
              exact ⟨⟨_, rfl⟩, .inr ⟨pre ++ [(lo, hi')], ⟨_, HE2.out⟩, hJx3⟩⟩
        · have hjI : (m : Int) ≤ j := by omega
          go_wp2
          go_quiet (fail)
          go_wp2
          have hout : mergeFrom (lo, hi') (d.drop j) = (lo, hi') :: merge (d.drop j) := mergeFrom_out (fun h => by have := HM.out; omega)
          have hE2 : pre ++ [(lo, hi')] ++ merge (d.drop j) = merge d := by rw [List.append_assoc, List.singleton_append, ← hout, HF.out]; exact HE.out
          have hlen : pre.length < (merge d).length := by rw [← hE2]; simp
          have HE2 := Lib.hid hE2
          have hG2 := gb_trans HG.out (gb_drewN wq nq)
          have HJ2 : J pre (wq.drewN nq) := HJ.out pre wr _ none HJP.out hG2 (fun r e => by cases e)
          have HK2 := Lib.hid (KpB.trans HK.out (show KpB _ d Bs wr (wq.drewN nq) from ⟨fun x => x.grown hG2, fun v hv => (hG2.block Bs hv.lt (by simp)).trans hv⟩))
          obtain ⟨fn, tmps, assign, body, hy, hR⟩ := HY.out pre (lo, hi') (wq.drewN nq) HJ2 hlen
          dsimp only at hy
          clear hout hE2 hlen hG2 HJ2 HE HF HJP HK
          gi_wp2
          refine hR.mono ?_
          rintro e W3 (⟨rfl, hJ3, hk3⟩ | ⟨rfl, hJx3⟩)
          · gi_wp2
            go_roundw
            case rel => exact ⟨j, pre ++ [(lo, hi')], by omega, rfl, HE2.out, hJ3, HK2.out.trans hk3⟩
            case measure => have := HJ1.out; simp [intOf]; omega
          · gi_wp2
            refine bodyPost_ret (results_none rfl _ _ _) rfl ?_
            exact ⟨⟨_, rfl⟩, .inr ⟨pre ++ [(lo, hi')], ⟨_, HE2.out⟩, hJx3⟩⟩
    · have hkI : (m : Int) ≤ k := by omega
      gi_wp2
      go_end0
      have e1 := HE.out
      rw [List.drop_eq_nil_of_le (by have := HM.out; omega)] at e1
      exact ⟨⟨_, rfl⟩, .inl ⟨pre, by rw [← e1]; simp [merge], HJP.out⟩⟩

theorem all_stops (n Bs : Nat) (q : Option Addr) (cq : Nat) (d : List R) (hin : In d) (hld : d.length ≤ 1000000000) (hn : 1 ≤ n) (w : World) (hBs : Boxed w Bs 134 (.slice q d.length cq)) (hL : SlR w q d) :
    SeqStopsK Fence.wide n Tryz.prog 123 #[.pointer (some ⟨Bs, 0, none⟩)] (fun x : R => #[.agg #[.int .i64 x.1, .int .i64 x.2]]) (KpB q d Bs) (fun ys => ys = merge d) (fun pre => pre <+: merge d) (merge d).length w :=
  fun l J Jx W hW hJ _ hY h0 => all1_in n l Bs q cq d hin hld hn J Jx hY W hJ ((hW.block Bs hBs.lt).trans hBs) (hL.below hW) h0
end Go.Proofs.YtglgfpapackcdaaGreat
