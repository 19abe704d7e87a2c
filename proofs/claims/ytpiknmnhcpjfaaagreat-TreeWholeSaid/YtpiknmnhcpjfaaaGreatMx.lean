/- The walk of SameTrees, of rows of the same trees; SameRanges of the same ranges. -/
import Derived.Test.YtpiknmnhcpjfaaaGreatMw
namespace Go.Proofs.YtpiknmnhcpjfaaaGreat
open Go.RowKit Tnr Tnt

def Bare (ts : List TV) : Prop := ∀ t ∈ ts, t.na = none ∧ t.nn = 0 ∧ t.nc = 0
theorem slx_nil (w : World) : SlX w none [] := .inl rfl
theorem gt_nds {ta tb : List TV} (h : treesN ta = treesN tb) {k : Nat} (h1 : k < ta.length) (h2 : k < tb.length) : nds (gt ta k).ys = nds (gt tb k).ys := by
  have e : (treesN ta)[k]? = (treesN tb)[k]? := by rw [h]
  unfold treesN at e
  rw [List.getElem?_map, List.getElem?_map, List.getElem?_eq_getElem h1, List.getElem?_eq_getElem h2] at e
  rw [gt_get h1, gt_get h2]
  exact Option.some.inj e
theorem sameT_self {xs ys : List NV} (h : nds xs = nds ys) (a : List ByteArray) : sameT xs ys a a = true := by
  unfold sameT; rw [sameX_self, decide_eq_true h]; rfl
set_option maxHeartbeats 3200000 in
set_option maxRecDepth 100000 in
theorem sameTrees_any (p q : Option Addr) (n c d : Nat) (ta tb : List TV) (w : World) (hn : n = ta.length) (hm : n = tb.length) (hl : n ≤ 1000000) (hp : SlT w p ta) (hq : SlT w q tb) (fa : FewT ta) (fb : FewT tb) (sa : ∀ t ∈ ta, t.ys.length ≤ 1000000) (na : Bare ta) (nb : Bare tb) (heq : treesN ta = treesN tb) :
    Calls Tryz.prog 11 #[.slice p n c, .slice q n d] w fun e w' => e = .returned (.bool true) ∧ Below w.heap.size w w' := by
  have HP := Lib.hid hp
  have HQ := Lib.hid hq
  have HN := Lib.hid (show ta.length = n ∧ tb.length = n by omega)
  have HF := Lib.hid (And.intro fa (And.intro fb (And.intro sa (And.intro na (And.intro nb heq)))))
  have hnI : (n : Int) ≤ 1000000 := by omega
  clear hp hq hn hm hl fa fb sa na nb heq
  go_enter Tryz.func11, Tryz.ntmps11
  go_wp2
  go_loopw [5] (fun iv wr => ∃ (k : Nat), k ≤ n ∧ iv = .int .i64 (k : Nat) ∧ Hid (Below w.heap.size w wr)) (fun iv _ => n - (intOf iv).toNat)
  case atStart => exact ⟨0, Nat.zero_le _, rfl, Below.refl _ _⟩
  case round =>
    obtain ⟨k, hk, rfl, HW⟩ := hrel
    rename World => wr
    by_cases hkn : k < n
    · have hkx : k < ta.length := by have := HN.out; omega
      have hky : k < tb.length := by have := HN.out; omega
      have hkI : (k : Int) < n := by omega
      have hw1 : Below wr.heap.size wr wr.drew := bl_drew wr
      have hb0 : Below w.heap.size w wr.drew := HW.out.drew
      obtain ⟨b1, o1, rfl, hc1, hd1, hin1⟩ := (HP.out.below hb0).at hkx
      obtain ⟨b2, o2, rfl, hc2, hd2, hin2⟩ := (HQ.out.below hb0).at hky
      have e1 := HF.out.2.2.2.1 _ (gt_mem hkx)
      have e2 := HF.out.2.2.2.2.1 _ (gt_mem hky)
      have e3 := gt_nds HF.out.2.2.2.2.2 hkx hky
      rw [e1.1, e1.2.1, e1.2.2] at hd1
      rw [e2.1, e2.2.1, e2.2.2] at hd2
      have hl1 := HF.out.2.2.1 _ (gt_mem hkx)
      have f1 := HF.out.1 _ (gt_mem hkx)
      have f2 := HF.out.2.1 _ (gt_mem hky)
      obtain ⟨x, hx⟩ : ∃ x, x = gt ta k := ⟨_, rfl⟩
      obtain ⟨y, hy⟩ : ∃ x, x = gt tb k := ⟨_, rfl⟩
      rw [← hx] at hc1 hin1 e3 hl1 f1
      rw [← hy] at hc2 hin2 e3 f2
      obtain ⟨m1, hm1⟩ : ∃ m, m = x.ys.length := ⟨_, rfl⟩
      obtain ⟨m2, hm2⟩ : ∃ m, m = y.ys.length := ⟨_, rfl⟩
      rw [← hm1] at hc1 hl1
      rw [← hm2] at hc2
      have HST : Hid (∀ V, Below wr.drew.heap.size wr.drew V → Calls Tryz.prog 28 #[.agg #[.slice x.q m1 x.cq, .slice none 0 0], .agg #[.slice y.q m2 y.cq, .slice none 0 0]] V fun e w' => e = .returned (.bool true) ∧ Below V.heap.size V w') := fun V hV =>
        (sameTree_any x.q y.q none none m1 m2 x.cq y.cq 0 0 0 0 x.ys y.ys [] [] V hm1 hm2 hl1 (hin1.nodes.below hV) (hin2.nodes.below hV) f1 f2 rfl rfl (Nat.zero_le _) (Nat.zero_le _) (slx_nil _) (slx_nil _)).mono fun e w' ⟨h1, h2⟩ => ⟨by rw [h1, sameT_self e3], h2⟩
      obtain ⟨C, hC⟩ : ∃ C : World → Prop, C = fun V => Below wr.drew.heap.size wr.drew V ∧ V.cell? ⟨b1, o1 + k * 2, none⟩ = some (.slice x.q m1 x.cq) ∧ V.cell? ⟨b1, o1 + k * 2 + 1, none⟩ = some (.slice none 0 0) ∧ V.cell? ⟨b2, o2 + k * 2, none⟩ = some (.slice y.q m2 y.cq) ∧ V.cell? ⟨b2, o2 + k * 2 + 1, none⟩ = some (.slice none 0 0) := ⟨_, rfl⟩
      have HC : Hid (∀ V, Below wr.drew.heap.size wr.drew V → C V) := by
        intro V hV
        rw [hC]
        exact ⟨hV, cell_below hc1 hV, cell_below hd1 hV, cell_below hc2 hV, cell_below hd2 hV⟩
      have HF2 : Hid (∀ V, C V → Calls Tryz.prog 28 #[.agg #[.slice x.q m1 x.cq, .slice none 0 0], .agg #[.slice y.q m2 y.cq, .slice none 0 0]] V fun e w' => e = .returned (.bool true) ∧ C w') := by
        intro V hV
        rw [hC] at hV
        exact (HST.out V hV.1).mono fun e w' ⟨h1, h2⟩ => ⟨h1, HC.out w' (hV.1.trans (h2.mono hV.1.size))⟩
      have hCd : C wr.drew := HC.out _ (Below.refl _ _)
      have HB1 : Hid (∀ V, Below wr.drew.heap.size wr.drew V → Below w.heap.size w V) := fun V hV => HW.out.trans ((hw1.trans (hV.mono hw1.size)).mono HW.out.size)
      clear HC HST hx hy hm1 hm2 e1 e2 e3 hl1 f1 f2 hc1 hd1 hc2 hd2 hin1 hin2 hkx hky hw1 hb0
      go_wp2
      refine wp_region_quiet (C := C) (by kernel_rfl) (by kernel_rfl) hCd ?_
      clear hCd
      subst hC
      dsimp only
      (refine BigFrame.wpQuiet_want (by kernel_rfl) (fun K hK => ?_); refine ⟨?_, fun V hV => ?_, hK _ ?_⟩; rotate_left; (focus (unfold Oper.quietAt; dsimp only at hV; go_simp; try with_reducible rfl)); clear hK K; (try simp only [Act.put, List.setIfInBounds_toArray, List.set_cons_zero, List.set_cons_succ]))
      (refine BigFrame.wpQuiet_want (by kernel_rfl) (fun K hK => ?_); refine ⟨?_, fun V hV => ?_, hK _ ?_⟩; rotate_left; (focus (unfold Oper.quietAt; dsimp only at hV; go_simp; try with_reducible rfl)); clear hK K; (try simp only [Act.put, List.setIfInBounds_toArray, List.set_cons_zero, List.set_cons_succ]))
      (refine BigFrame.wpQuiet_want (by kernel_rfl) (fun K hK => ?_); refine ⟨?_, fun V hV => ?_, hK _ ?_⟩; rotate_left; (focus (unfold Oper.quietAt; dsimp only at hV; go_simp; try with_reducible rfl)); clear hK K; (try simp only [Act.put, List.setIfInBounds_toArray, List.set_cons_zero, List.set_cons_succ]))
      (refine BigFrame.wpQuiet_want (by kernel_rfl) (fun K hK => ?_); refine ⟨?_, fun V hV => ?_, hK _ ?_⟩; rotate_left; (focus (unfold Oper.quietAt; dsimp only at hV; go_simp; try with_reducible rfl)); clear hK K; (try simp only [Act.put, List.setIfInBounds_toArray, List.set_cons_zero, List.set_cons_succ]))
      (refine BigFrame.wpQuiet_want (by kernel_rfl) (fun K hK => ?_); refine ⟨?_, fun V hV => ?_, hK _ ?_⟩; rotate_left; (focus (unfold Oper.quietAt; dsimp only at hV; go_simp; try with_reducible rfl)); clear hK K; (try simp only [Act.put, List.setIfInBounds_toArray, List.set_cons_zero, List.set_cons_succ]))
      (refine BigFrame.wpQuiet_want (by kernel_rfl) (fun K hK => ?_); refine ⟨?_, fun V hV => ?_, hK _ ?_⟩; rotate_left; (focus (unfold Oper.quietAt; dsimp only at hV; go_simp; try with_reducible rfl)); clear hK K; (try simp only [Act.put, List.setIfInBounds_toArray, List.set_cons_zero, List.set_cons_succ]))
      (refine BigFrame.wpQuiet_want (by kernel_rfl) (fun K hK => ?_); refine ⟨?_, fun V hV => ?_, hK _ ?_⟩; rotate_left; (focus (unfold Oper.quietAt; dsimp only at hV; go_simp; try with_reducible rfl)); clear hK K; (try simp only [Act.put, List.setIfInBounds_toArray, List.set_cons_zero, List.set_cons_succ]))
      (refine BigFrame.wpQuiet_want (by kernel_rfl) (fun K hK => ?_); refine ⟨?_, fun V hV => ?_, hK _ ?_⟩; rotate_left; (focus (unfold Oper.quietAt; dsimp only at hV; go_simp; try with_reducible rfl)); clear hK K; (try simp only [Act.put, List.setIfInBounds_toArray, List.set_cons_zero, List.set_cons_succ]))
      refine BigFrame.wpQuiet_want (by kernel_rfl) (fun K hK => ?_)
      refine ⟨.bool true, fun V hV => ?_, hK _ ?_⟩
      · have HV := Lib.hid hV
        clear hV hK
        unfold Oper.quietAt
        go_simp
        exact HF2.out V HV.out
      clear hK K
      try simp only [Act.put, List.setIfInBounds_toArray, List.set_cons_zero, List.set_cons_succ]
      (refine BigFrame.wpQuiet_want (by kernel_rfl) (fun K hK => ?_); refine ⟨?_, fun V hV => ?_, hK _ ?_⟩; rotate_left; (focus (unfold Oper.quietAt; dsimp only at hV; go_simp; try with_reducible rfl)); clear hK K; (try simp only [Act.put, List.setIfInBounds_toArray, List.set_cons_zero, List.set_cons_succ]))
      refine wpQuiet_nil ?_
      intro w5 hV
      have HV := Lib.hid hV.1
      clear hV
      go_wp2
      go_roundw
      case rel => exact ⟨k + 1, by omega, by go_num, HB1.out _ HV.out⟩
      case measure => simp [intOf]; omega
    · have hkI : (n : Int) ≤ k := by omega
      go_wp2
      go_ret
      exact ⟨rfl, HW.out⟩
end Go.Proofs.YtpiknmnhcpjfaaaGreat
