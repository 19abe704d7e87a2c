/- The law's tells: of a tree, both sides tell the same. -/
import Derived.Test.YtjpccmiaimkmbaaGreatJh
import Derived.Test.YtjpccmiaimkmbaaGreatJi
import Derived.Test.YtjpccmiaimkmbaaGreatJl

namespace Go.Proofs.YtjpccmiaimkmbaaGreat
open Go.RowKit Tnr Tnt

set_option maxHeartbeats 6400000 in
set_option maxRecDepth 100000 in
theorem tells6_any (p : Option Addr) (n c : Nat) (xs : List NV) (pn : Option Addr) (nn cn : Nat) (nm : List ByteArray) (w : World) (hn : n = xs.length) (hnm : n ≤ 1000000) (hp : SlN w p xs) (hf : Few xs) (hk : KindsIn xs) (hnn : nn = nm.length) (hnc : nn ≤ cn) (hX : SlX w pn nm) :
    Calls Tryz.prog 21 #[.agg #[.slice p n c, .slice pn nn cn]] w fun e w' => e = .returned (.bool true) ∧ Below w.heap.size w w' := by
  obtain ⟨W1, hW1⟩ : ∃ W, W = w.alloc (.cells #[.slice p n c, .slice pn nn cn] 34) := ⟨_, rfl⟩
  obtain ⟨b0, hb0⟩ : ∃ b, b = w.heap.size := ⟨_, rfl⟩
  have hB1 : Below w.heap.size w W1 := by rw [hW1]; exact bl_alloc _ _
  have hT1 : Bx W1 b0 34 #[.slice p n c, .slice pn nn cn] := by rw [hW1, hb0]; exact Bx.new w _ _
  have HBD := Lib.hid (bl_trans hB1 (bl_drew W1))
  have HT := Lib.hid (hT1.below (bl_drew W1))
  have HP := Lib.hid (And.intro hp hX)
  obtain ⟨rb, hrb⟩ : ∃ b, b = rightN (nds xs) nm := ⟨_, rfl⟩
  obtain ⟨sb, hsb⟩ : ∃ b, b = spreadTN (nds xs) nm := ⟨_, rfl⟩
  obtain ⟨dp, hdp⟩ : ∃ b, b = deepT (nds xs) := ⟨_, rfl⟩
  obtain ⟨C, hC⟩ : ∃ C : World → Prop, C = fun V => Below W1.drew.heap.size W1.drew V ∧ V.cell? ⟨b0, 0, none⟩ = some (.slice p n c) ∧ V.cell? ⟨b0, 1, none⟩ = some (.slice pn nn cn) := ⟨_, rfl⟩
  have HC : Hid (∀ V, Below W1.drew.heap.size W1.drew V → C V) := by
    intro V hV
    rw [hC]
    exact ⟨hV, (HT.out.below hV).cell rfl, (HT.out.below hV).cell rfl⟩
  have HCV : Hid (∀ V, C V → Below w.heap.size w V) := by
    intro V hV
    rw [hC] at hV
    exact bl_trans HBD.out hV.1
  have HCK : Hid (∀ V V', C V → Below V.heap.size V V' → C V') := by
    intro V V' hV hb
    rw [hC] at hV
    exact HC.out _ (bl_trans hV.1 hb)
  have HF1 : Hid (∀ V, C V → Calls Tryz.prog 28 #[.agg #[.slice p n c, .slice pn nn cn]] V fun e w' => e = .returned (.bool rb) ∧ C w') := fun V hV =>
    (rightT_any p n c xs pn nn cn nm V hn hnm (hp.below (HCV.out V hV)) hf hk hnn hnc (hX.below (HCV.out V hV))).mono fun e w' ⟨h1, h2⟩ => ⟨by rw [h1, rightT_nds, hrb], HCK.out V w' hV h2⟩
  have HF2 : Hid (∀ V, C V → Calls Tryz.prog 52 #[.agg #[.slice p n c, .slice pn nn cn]] V fun e w' => e = .returned (.bool rb) ∧ C w') := fun V hV =>
    (rright6_any p n c xs pn nn cn nm V hn (by omega) (hp.below (HCV.out V hV)) hf hnn (hX.below (HCV.out V hV))).mono fun e w' ⟨h1, h2⟩ => ⟨by rw [h1, right_eq, hrb], HCK.out V w' hV h2⟩
  have HF3 : Hid (∀ V, C V → Calls Tryz.prog 29 #[.agg #[.slice p n c, .slice pn nn cn]] V fun e w' => e = .returned (.bool sb) ∧ C w') := fun V hV =>
    (spreadT_any p n c xs pn nn cn nm V hn hnm (hp.below (HCV.out V hV)) hf hk hnn hnc (hX.below (HCV.out V hV))).mono fun e w' ⟨h1, h2⟩ => ⟨by rw [h1, spreadT_nds, hsb], HCK.out V w' hV h2⟩
  have HF4 : Hid (∀ V, C V → Calls Tryz.prog 53 #[.agg #[.slice p n c, .slice pn nn cn]] V fun e w' => e = .returned (.bool sb) ∧ C w') := fun V hV =>
    (rspread6_any p n c xs pn nn cn nm V hn (by omega) (hp.below (HCV.out V hV)) hf hnn (hX.below (HCV.out V hV))).mono fun e w' ⟨h1, h2⟩ => ⟨by rw [h1, spread_eq, hsb], HCK.out V w' hV h2⟩
  have HF5 : Hid (∀ V, C V → Calls Tryz.prog 30 #[.agg #[.slice p n c, .slice pn nn cn]] V fun e w' => e = .returned (.int .i64 (dp : Nat)) ∧ C w') := fun V hV =>
    (deepT_any p n c xs (.slice pn nn cn) V hn (by omega) (hp.below (HCV.out V hV)) hf).mono fun e w' ⟨h1, h2⟩ => ⟨by rw [h1, hdp], HCK.out V w' hV h2⟩
  have HF6 : Hid (∀ V, C V → Calls Tryz.prog 54 #[.agg #[.slice p n c, .slice pn nn cn]] V fun e w' => e = .returned (.int .i64 (dp : Nat)) ∧ C w') := fun V hV =>
    (rdeep_any p n c xs (.slice pn nn cn) V hn (by omega) (hp.below (HCV.out V hV)) hf).mono fun e w' ⟨h1, h2⟩ => ⟨by rw [h1, hdp], HCK.out V w' hV h2⟩
  have hCd : C W1.drew := HC.out _ (Below.refl _ _)
  have HW1 := Lib.hid (And.intro hW1 hb0)
  clear hn hnm hp hf hk hnn hnc hX hrb hsb hdp HC HCV HCK hW1 hb0 hB1 hT1 HT
  go_enter Tryz.func21, Tryz.ntmps21
  go_upto_region 1 with fail
  rw [← HW1.out.2, show w.alloc (.cells #[.slice p n c, .slice pn nn cn] 34) = W1 from HW1.out.1.symm]
  refine wp_region_quiet (C := C) (by kernel_rfl) (by kernel_rfl) hCd (Bxd.out ?_)
  clear hCd
  subst hC
  dsimp only
  (refine q_want (by kernel_rfl) (fun K hK => ?_); refine ⟨?_, fun V hV => ?_, hK _ ?_⟩; rotate_left; (focus (unfold Oper.quietAt; dsimp only at hV; go_simp; try with_reducible rfl)); clear hK K; (try simp only [Act.put, sb0, sb1, sb2]))
  refine q_want (by kernel_rfl) (fun K hK => ?_)
  refine ⟨.bool rb, fun V hV => ?_, hK _ ?_⟩
  · have HV := Lib.hid hV
    clear hV hK
    unfold Oper.quietAt
    go_simp
    exact HF1.out V HV.out
  clear hK K
  try simp only [Act.put, sb0, sb1, sb2]
  (refine q_want (by kernel_rfl) (fun K hK => ?_); refine ⟨?_, fun V hV => ?_, hK _ ?_⟩; rotate_left; (focus (unfold Oper.quietAt; dsimp only at hV; go_simp; try with_reducible rfl)); clear hK K; (try simp only [Act.put, sb0, sb1, sb2]))
  refine q_want (by kernel_rfl) (fun K hK => ?_)
  refine ⟨.bool rb, fun V hV => ?_, hK _ ?_⟩
  · have HV := Lib.hid hV
    clear hV hK
    unfold Oper.quietAt
    go_simp
    exact HF2.out V HV.out
  clear hK K
  try simp only [Act.put, sb0, sb1, sb2]
  (refine q_want (by kernel_rfl) (fun K hK => ?_); refine ⟨?_, fun V hV => ?_, hK _ ?_⟩; rotate_left; (focus (unfold Oper.quietAt; dsimp only at hV; go_simp; try with_reducible rfl)); clear hK K; (try simp only [Act.put, sb0, sb1, sb2]))
  (refine q_want (by kernel_rfl) (fun K hK => ?_); refine ⟨?_, fun V hV => ?_, hK _ ?_⟩; rotate_left; (focus (unfold Oper.quietAt; dsimp only at hV; go_simp; try with_reducible rfl)); clear hK K; (try simp only [Act.put, sb0, sb1, sb2]))
  (refine q_want (by kernel_rfl) (fun K hK => ?_); refine ⟨?_, fun V hV => ?_, hK _ ?_⟩; rotate_left; (focus (unfold Oper.quietAt; dsimp only at hV; go_simp; try with_reducible rfl)); clear hK K; (try simp only [Act.put, sb0, sb1, sb2]))
  refine q_want (by kernel_rfl) (fun K hK => ?_)
  refine ⟨.bool sb, fun V hV => ?_, hK _ ?_⟩
  · have HV := Lib.hid hV
    clear hV hK
    unfold Oper.quietAt
    go_simp
    exact HF3.out V HV.out
  clear hK K
  try simp only [Act.put, sb0, sb1, sb2]
  (refine q_want (by kernel_rfl) (fun K hK => ?_); refine ⟨?_, fun V hV => ?_, hK _ ?_⟩; rotate_left; (focus (unfold Oper.quietAt; dsimp only at hV; go_simp; try with_reducible rfl)); clear hK K; (try simp only [Act.put, sb0, sb1, sb2]))
  refine q_want (by kernel_rfl) (fun K hK => ?_)
  refine ⟨.bool sb, fun V hV => ?_, hK _ ?_⟩
  · have HV := Lib.hid hV
    clear hV hK
    unfold Oper.quietAt
    go_simp
    exact HF4.out V HV.out
  clear hK K
  try simp only [Act.put, sb0, sb1, sb2]
  (refine q_want (by kernel_rfl) (fun K hK => ?_); refine ⟨?_, fun V hV => ?_, hK _ ?_⟩; rotate_left; (focus (unfold Oper.quietAt; dsimp only at hV; go_simp; try with_reducible rfl)); clear hK K; (try simp only [Act.put, sb0, sb1, sb2]))
  (refine q_want (by kernel_rfl) (fun K hK => ?_); refine ⟨?_, fun V hV => ?_, hK _ ?_⟩; rotate_left; (focus (unfold Oper.quietAt; dsimp only at hV; go_simp; try with_reducible rfl)); clear hK K; (try simp only [Act.put, sb0, sb1, sb2]))
  (refine q_want (by kernel_rfl) (fun K hK => ?_); refine ⟨?_, fun V hV => ?_, hK _ ?_⟩; rotate_left; (focus (unfold Oper.quietAt; dsimp only at hV; go_simp; try with_reducible rfl)); clear hK K; (try simp only [Act.put, sb0, sb1, sb2]))
  (refine q_want (by kernel_rfl) (fun K hK => ?_); refine ⟨?_, fun V hV => ?_, hK _ ?_⟩; rotate_left; (focus (unfold Oper.quietAt; dsimp only at hV; go_simp; try with_reducible rfl)); clear hK K; (try simp only [Act.put, sb0, sb1, sb2]))
  refine q_want (by kernel_rfl) (fun K hK => ?_)
  refine ⟨.int .i64 (dp : Nat), fun V hV => ?_, hK _ ?_⟩
  · have HV := Lib.hid hV
    clear hV hK
    unfold Oper.quietAt
    go_simp
    exact HF5.out V HV.out
  clear hK K
  try simp only [Act.put, sb0, sb1, sb2]
  (refine q_want (by kernel_rfl) (fun K hK => ?_); refine ⟨?_, fun V hV => ?_, hK _ ?_⟩; rotate_left; (focus (unfold Oper.quietAt; dsimp only at hV; go_simp; try with_reducible rfl)); clear hK K; (try simp only [Act.put, sb0, sb1, sb2]))
  refine q_want (by kernel_rfl) (fun K hK => ?_)
  refine ⟨.int .i64 (dp : Nat), fun V hV => ?_, hK _ ?_⟩
  · have HV := Lib.hid hV
    clear hV hK
    unfold Oper.quietAt
    go_simp
    exact HF6.out V HV.out
  clear hK K
  try simp only [Act.put, sb0, sb1, sb2]
  (refine q_want (by kernel_rfl) (fun K hK => ?_); refine ⟨?_, fun V hV => ?_, hK _ ?_⟩; rotate_left; (focus (unfold Oper.quietAt; dsimp only at hV; go_simp; try with_reducible rfl)); clear hK K; (try simp only [Act.put, sb0, sb1, sb2]))
  (refine q_want (by kernel_rfl) (fun K hK => ?_); refine ⟨?_, fun V hV => ?_, hK _ ?_⟩; rotate_left; (focus (unfold Oper.quietAt; dsimp only at hV; go_simp; try with_reducible rfl)); clear hK K; (try simp only [Act.put, sb0, sb1, sb2]))
  (refine q_want (by kernel_rfl) (fun K hK => ?_); refine ⟨?_, fun V hV => ?_, hK _ ?_⟩; rotate_left; (focus (unfold Oper.quietAt; dsimp only at hV; go_simp; try with_reducible rfl)); clear hK K; (try simp only [Act.put, sb0, sb1, sb2]))
  refine ⟨wpQuiet_nil ?_⟩
  intro w9 hV
  have HV := Lib.hid hV.1
  clear hV
  go_wp2
  go_ret
  exact ⟨rfl, bl_trans HBD.out HV.out⟩
end Go.Proofs.YtjpccmiaimkmbaaGreat
