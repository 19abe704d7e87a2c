/- The walk of the table of the kinds. -/
/- The walk of kinded's closure: a drawn region whose call makes memory, walked once, in the order of the text, in the class of the worlds above one. -/
import Derived.Test.YtjpccmiaimkmbaaGreatLs
import Derived.BigQuiet

namespace Go.Proofs.YtjpccmiaimkmbaaGreat
open Go.RowKit Tnr Tnt

def kRow (lo hi : Int) (f : FuncId) : List Value := [.int .i64 lo, .int .i64 hi, .func (.func f) #[] #[]]
def kTab : List Value := [.int .i64 0, .int .i64 0, Value.nilFunc] ++ kRow 0 0 154 ++ kRow 0 0 155 ++ kRow 2 4000 154 ++ kRow 2 4000 154 ++ kRow 1 1 156 ++ kRow 1 1 154 ++ kRow 1 1 157 ++ kRow 0 0 156 ++ kRow 0 0 158 ++ kRow 1 1 159 ++ kRow 1 1 159 ++ kRow 1 2 160 ++ kRow 1 1 154
set_option maxHeartbeats 1600000 in
set_option maxRecDepth 100000 in
theorem kinds_any (w : World) : Calls Tryz.prog 137 #[] w fun e w' => e = .returned (.slice (some ⟨w.heap.size, 0, none⟩) 14 14) ∧ w' = w.alloc (.cells kTab.toArray 212) := by
  go_enter Tryz.func137, Tryz.ntmps137
  go_wp2
  go_ret
  exact ⟨rfl, rfl⟩

def kindB (x : NV) : Bool :=
  if x.nd.kind = 1 then fitsB 0 0 bareB id x else if x.nd.kind = 2 then fitsB 0 0 setB noSet x
  else if x.nd.kind = 3 then fitsB 2 4000 bareB id x else if x.nd.kind = 4 then fitsB 2 4000 bareB id x
  else if x.nd.kind = 5 then fitsB 1 1 (fun _ => true) noGroup x else if x.nd.kind = 6 then fitsB 1 1 bareB id x
  else if x.nd.kind = 7 then fitsB 1 1 repeatB noTimes x else if x.nd.kind = 8 then fitsB 0 0 (fun _ => true) noGroup x
  else if x.nd.kind = 9 then fitsB 0 0 spotB noSpot x else if x.nd.kind = 10 then fitsB 1 1 (fun _ => true) noNot x
  else if x.nd.kind = 11 then fitsB 1 1 (fun _ => true) noNot x else if x.nd.kind = 12 then fitsB 1 2 tryB noMode x
  else if x.nd.kind = 13 then fitsB 1 1 bareB id x else false
theorem kind_row (k : Nat) (hk : k < 14) : ∃ (lo hi : Int) (fv : Value), kTab[k * 3]? = some (.int .i64 lo) ∧ kTab[k * 3 + 1]? = some (.int .i64 hi) ∧ kTab[k * 3 + 2]? = some fv ∧
    ∀ (x : NV) (w : World), NodeIn w x → x.nd.kind = (k : Int) → Calls Tryz.prog 140 #[.agg #[.int .i64 lo, .int .i64 hi, fv], .agg (encN x).toArray] w fun e w' => e = .returned (.bool (kindB x)) ∧ Below w.heap.size w w' := by
  match k, hk with
  | 0, _ => exact ⟨_, _, _, rfl, rfl, rfl, fun x w hI h => by unfold kindB; rw [h]; exact fits_nil 0 0 x w⟩
  | 1, _ => exact ⟨_, _, _, rfl, rfl, rfl, fun x w hI h => by unfold kindB; rw [h]; exact fits_bare 0 0 x w hI⟩
  | 2, _ => exact ⟨_, _, _, rfl, rfl, rfl, fun x w hI h => by unfold kindB; rw [h]; exact fits_set 0 0 x w hI⟩
  | 3, _ => exact ⟨_, _, _, rfl, rfl, rfl, fun x w hI h => by unfold kindB; rw [h]; exact fits_bare 2 4000 x w hI⟩
  | 4, _ => exact ⟨_, _, _, rfl, rfl, rfl, fun x w hI h => by unfold kindB; rw [h]; exact fits_bare 2 4000 x w hI⟩
  | 5, _ => exact ⟨_, _, _, rfl, rfl, rfl, fun x w hI h => by unfold kindB; rw [h]; exact fits_group 1 1 x w hI⟩
  | 6, _ => exact ⟨_, _, _, rfl, rfl, rfl, fun x w hI h => by unfold kindB; rw [h]; exact fits_bare 1 1 x w hI⟩
  | 7, _ => exact ⟨_, _, _, rfl, rfl, rfl, fun x w hI h => by unfold kindB; rw [h]; exact fits_repeat 1 1 x w hI⟩
  | 8, _ => exact ⟨_, _, _, rfl, rfl, rfl, fun x w hI h => by unfold kindB; rw [h]; exact fits_group 0 0 x w hI⟩
  | 9, _ => exact ⟨_, _, _, rfl, rfl, rfl, fun x w hI h => by unfold kindB; rw [h]; exact fits_spot 0 0 x w hI⟩
  | 10, _ => exact ⟨_, _, _, rfl, rfl, rfl, fun x w hI h => by unfold kindB; rw [h]; exact fits_not 1 1 x w hI⟩
  | 11, _ => exact ⟨_, _, _, rfl, rfl, rfl, fun x w hI h => by unfold kindB; rw [h]; exact fits_not 1 1 x w hI⟩
  | 12, _ => exact ⟨_, _, _, rfl, rfl, rfl, fun x w hI h => by unfold kindB; rw [h]; exact fits_try 1 2 x w hI⟩
  | 13, _ => exact ⟨_, _, _, rfl, rfl, rfl, fun x w hI h => by unfold kindB; rw [h]; exact fits_bare 1 1 x w hI⟩
end Go.Proofs.YtjpccmiaimkmbaaGreat


namespace Go.Proofs.YtjpccmiaimkmbaaGreat
open Go.RowKit Tnr Tnt


set_option maxHeartbeats 1600000 in
set_option maxRecDepth 100000 in
theorem kinded1_any (x : NV) (bt tb : Nat) (w : World) (hk : 0 ≤ x.nd.kind ∧ x.nd.kind < 256) (hI : NodeIn w x) (hB : Bx w bt 207 #[.slice (some ⟨tb, 0, none⟩) 14 14]) (hT : Bx w tb 212 kTab.toArray) :
    Calls Tryz.prog 139 #[.agg (encN x).toArray, .pointer (some ⟨bt, 0, none⟩)] w fun e w' => e = .returned (.bool (!kindB x)) ∧ Below w.heap.size w w' := by
  obtain ⟨k, hkk⟩ : ∃ k : Nat, x.nd.kind = (k : Int) := ⟨x.nd.kind.toNat, by omega⟩
  have hk2 : k < 256 := by omega
  obtain ⟨ls, lk, hls, hlk, h⟩ := node_lit2 x
  obtain ⟨W1, hW1⟩ : ∃ W, W = w.alloc (.cells (encN x).toArray 28) := ⟨_, rfl⟩
  have hb1 : Below w.heap.size w W1 := by rw [hW1]; exact bl_alloc _ _
  have hX : Bx W1 w.heap.size 28 (encN x).toArray := by rw [hW1]; exact Bx.new w _ _
  have hB1 := hB.below hb1
  have hT1 := hT.below hb1
  have hI1 := hI.below hb1
  have cB : W1.cell? ⟨bt, 0, none⟩ = some (.slice (some ⟨tb, 0, none⟩) 14 14) := hB1.cell rfl
  have HB1 := Lib.hid hb1
  have hlt := hX.lt
  unfold NodeLit at h
  rw [hkk] at h
  rw [h] at hW1 hX ⊢
  obtain ⟨c0, c1, c2, c3, c4, c5, c6, c7, c8⟩ := nine hX
  by_cases h14 : k < 14
  · obtain ⟨lo, hi, fv, r0, r1, r2, hcall⟩ := kind_row k h14
    have e1 : decide (((k : Nat) : Int) ≥ (14 : Int)) = false := by simp; omega
    have t0 : W1.cell? ⟨tb, k * 3, none⟩ = some (.int .i64 lo) := hT1.cell (by simpa using r0)
    have t1 : W1.cell? ⟨tb, k * 3 + 1, none⟩ = some (.int .i64 hi) := hT1.cell (by simpa using r1)
    have t2 : W1.cell? ⟨tb, k * 3 + 2, none⟩ = some fv := hT1.cell (by simpa using r2)
    obtain ⟨C, hC⟩ : ∃ C : World → Prop, C = fun V => Below W1.heap.size W1 V ∧ V.cell? ⟨bt, 0, none⟩ = some (.slice (some ⟨tb, 0, none⟩) 14 14) ∧ V.cell? ⟨tb, k * 3, none⟩ = some (.int .i64 lo) ∧ V.cell? ⟨tb, k * 3 + 1, none⟩ = some (.int .i64 hi) ∧ V.cell? ⟨tb, k * 3 + 2, none⟩ = some fv ∧
      V.cell? ⟨w.heap.size, 0, none⟩ = some (.int .u8 (k : Nat)) ∧ V.cell? ⟨w.heap.size, 1, none⟩ = some (.slice x.ps ls x.cs) ∧ V.cell? ⟨w.heap.size, 2, none⟩ = some (.slice x.pk lk x.ck) ∧ V.cell? ⟨w.heap.size, 3, none⟩ = some (.int .i64 x.nd.group) ∧ V.cell? ⟨w.heap.size, 4, none⟩ = some (.int .i64 x.nd.mn) ∧ V.cell? ⟨w.heap.size, 5, none⟩ = some (.int .i64 x.nd.mx) ∧ V.cell? ⟨w.heap.size, 6, none⟩ = some (.int .u8 x.nd.mode) ∧ V.cell? ⟨w.heap.size, 7, none⟩ = some (.int .u8 x.nd.spot) ∧ V.cell? ⟨w.heap.size, 8, none⟩ = some (.bool x.nd.neg) := ⟨_, rfl⟩
    have HC : Hid (∀ V, Below W1.heap.size W1 V → C V) := by
      intro V hV
      have kp : ∀ {b i : Nat} {v : Value}, W1.cell? ⟨b, i, none⟩ = some v → V.cell? ⟨b, i, none⟩ = some v := fun {b i v} h => by rw [hV.cell (World.block_lt_of_cell? W1 _ h)]; exact h
      rw [hC]
      exact ⟨hV, kp cB, kp t0, kp t1, kp t2, kp c0, kp c1, kp c2, kp c3, kp c4, kp c5, kp c6, kp c7, kp c8⟩
    have HCA : Hid (∀ V, C V → Calls Tryz.prog 140 #[.agg #[.int .i64 lo, .int .i64 hi, fv], .agg (encN x).toArray] V fun e w' => e = .returned (.bool (kindB x)) ∧ C w') := by
      intro V hV
      rw [hC] at hV
      exact (hcall x V (hI1.below hV.1) hkk).mono fun e w' ⟨h1, h2⟩ => ⟨h1, HC.out w' (hV.1.trans (h2.mono hV.1.size))⟩
    have HCB : Hid (∀ V, C V → Below W1.heap.size W1 V) := fun V hV => by rw [hC] at hV; exact hV.1
    rw [h] at HCA
    have HK := Lib.hid (And.intro h14 hk2)
    have hk4 : ((k : Nat) : Int).toNat = k := by omega
    have hlt14 : ((k : Nat) : Int) < 14 := by omega
    have hwr : IntKind.i64.wrap ((k : Nat) : Int) = (k : Nat) := by rw [IntKind.wrap_i64]; omega
    have hCd : C W1.drew := HC.out _ (bl_drew W1)
    clear hcall r0 r1 r2 hI hI1 hB hB1 hT hT1 hX hk hkk h hls hlk hb1 hlt cB t0 t1 t2 c0 c1 c2 c3 c4 c5 c6 c7 c8 hk2
    go_enter Tryz.func139, Tryz.ntmps139
    go_wp2
    rw [← hW1]
    clear hW1
    refine wp_region_quiet (C := C) (by kernel_rfl) (by kernel_rfl) hCd ?_
    have HF : Hid (∀ V, C V → Calls Tryz.prog 140 #[.agg #[.int .i64 lo, .int .i64 hi, fv], .agg #[.int .u8 (k : Nat), .slice x.ps ls x.cs, .slice x.pk lk x.ck, .int .i64 x.nd.group, .int .i64 x.nd.mn, .int .i64 x.nd.mx, .int .u8 x.nd.mode, .int .u8 x.nd.spot, .bool x.nd.neg]] V fun e w' => e = .returned (.bool (kindB x)) ∧ C w') := HCA.out
    clear HCA HC hCd
    subst hC
    dsimp only
    (refine BigFrame.wpQuiet_want (by kernel_rfl) (fun K hK => ?_); refine ⟨?_, fun V hV => ?_, hK _ ?_⟩; rotate_left; (focus (unfold Oper.quietAt; dsimp only at hV; go_simp; try with_reducible rfl)); clear hK K; (try simp only [Act.put, sb0, sb1, sb2]))
    (refine BigFrame.wpQuiet_want (by kernel_rfl) (fun K hK => ?_); refine ⟨?_, fun V hV => ?_, hK _ ?_⟩; rotate_left; (focus (unfold Oper.quietAt; dsimp only at hV; go_simp; try with_reducible rfl)); clear hK K; (try simp only [Act.put, sb0, sb1, sb2]))
    (refine BigFrame.wpQuiet_want (by kernel_rfl) (fun K hK => ?_); refine ⟨?_, fun V hV => ?_, hK _ ?_⟩; rotate_left; (focus (unfold Oper.quietAt; dsimp only at hV; go_simp; try with_reducible rfl)); clear hK K; (try simp only [Act.put, sb0, sb1, sb2]))
    (refine BigFrame.wpQuiet_want (by kernel_rfl) (fun K hK => ?_); refine ⟨?_, fun V hV => ?_, hK _ ?_⟩; rotate_left; (focus (unfold Oper.quietAt; dsimp only at hV; go_simp; try with_reducible rfl)); clear hK K; (try simp only [Act.put, sb0, sb1, sb2]))
    (refine BigFrame.wpQuiet_want (by kernel_rfl) (fun K hK => ?_); refine ⟨?_, fun V hV => ?_, hK _ ?_⟩; rotate_left; (focus (unfold Oper.quietAt; dsimp only at hV; go_simp; try with_reducible rfl)); clear hK K; (try simp only [Act.put, sb0, sb1, sb2]))
    (refine BigFrame.wpQuiet_want (by kernel_rfl) (fun K hK => ?_); refine ⟨?_, fun V hV => ?_, hK _ ?_⟩; rotate_left; (focus (unfold Oper.quietAt; dsimp only at hV; go_simp; try with_reducible rfl)); clear hK K; (try simp only [Act.put, sb0, sb1, sb2]))
    (refine BigFrame.wpQuiet_want (by kernel_rfl) (fun K hK => ?_); refine ⟨?_, fun V hV => ?_, hK _ ?_⟩; rotate_left; (focus (unfold Oper.quietAt; dsimp only at hV; go_simp; try with_reducible rfl)); clear hK K; (try simp only [Act.put, sb0, sb1, sb2]))
    (refine BigFrame.wpQuiet_want (by kernel_rfl) (fun K hK => ?_); refine ⟨?_, fun V hV => ?_, hK _ ?_⟩; rotate_left; (focus (unfold Oper.quietAt; dsimp only at hV; go_simp; try with_reducible rfl)); clear hK K; (try simp only [Act.put, sb0, sb1, sb2]))
    (refine BigFrame.wpQuiet_want (by kernel_rfl) (fun K hK => ?_); refine ⟨?_, fun V hV => ?_, hK _ ?_⟩; rotate_left; (focus (unfold Oper.quietAt; dsimp only at hV; go_simp; try with_reducible rfl)); clear hK K; (try simp only [Act.put, sb0, sb1, sb2]))
    (refine BigFrame.wpQuiet_want (by kernel_rfl) (fun K hK => ?_); refine ⟨?_, fun V hV => ?_, hK _ ?_⟩; rotate_left; (focus (unfold Oper.quietAt; dsimp only at hV; go_simp; try with_reducible rfl)); clear hK K; (try simp only [Act.put, sb0, sb1, sb2]))
    (refine BigFrame.wpQuiet_want (by kernel_rfl) (fun K hK => ?_); refine ⟨?_, fun V hV => ?_, hK _ ?_⟩; rotate_left; (focus (unfold Oper.quietAt; dsimp only at hV; go_simp; try with_reducible rfl)); clear hK K; (try simp only [Act.put, sb0, sb1, sb2]))
    (refine BigFrame.wpQuiet_want (by kernel_rfl) (fun K hK => ?_); refine ⟨?_, fun V hV => ?_, hK _ ?_⟩; rotate_left; (focus (unfold Oper.quietAt; dsimp only at hV; go_simp; try with_reducible rfl)); clear hK K; (try simp only [Act.put, sb0, sb1, sb2]))
    (refine BigFrame.wpQuiet_want (by kernel_rfl) (fun K hK => ?_); refine ⟨?_, fun V hV => ?_, hK _ ?_⟩; rotate_left; (focus (unfold Oper.quietAt; dsimp only at hV; go_simp; try with_reducible rfl)); clear hK K; (try simp only [Act.put, sb0, sb1, sb2]))
    refine BigFrame.wpQuiet_want (by kernel_rfl) (fun K hK => ?_)
    refine ⟨.bool (kindB x), fun V hV => ?_, hK _ ?_⟩
    · have HV := Lib.hid hV
      clear hV hK
      unfold Oper.quietAt
      go_simp
      exact HF.out V HV.out
    clear hK K
    try simp only [Act.put, sb0, sb1, sb2]
    (refine BigFrame.wpQuiet_want (by kernel_rfl) (fun K hK => ?_); refine ⟨?_, fun V hV => ?_, hK _ ?_⟩; rotate_left; (focus (unfold Oper.quietAt; dsimp only at hV; go_simp; try with_reducible rfl)); clear hK K; (try simp only [Act.put, sb0, sb1, sb2]))
    (refine BigFrame.wpQuiet_want (by kernel_rfl) (fun K hK => ?_); refine ⟨?_, fun V hV => ?_, hK _ ?_⟩; rotate_left; (focus (unfold Oper.quietAt; dsimp only at hV; go_simp; try with_reducible rfl)); clear hK K; (try simp only [Act.put, sb0, sb1, sb2]))
    (refine BigFrame.wpQuiet_want (by kernel_rfl) (fun K hK => ?_); refine ⟨?_, fun V hV => ?_, hK _ ?_⟩; rotate_left; (focus (unfold Oper.quietAt; dsimp only at hV; go_simp; try with_reducible rfl)); clear hK K; (try simp only [Act.put, sb0, sb1, sb2]))
    refine wpQuiet_nil ?_
    intro w5 hV
    have HV := Lib.hid hV.1
    clear hV
    go_wp2
    go_ret
    exact ⟨rfl, HB1.out.trans (HV.out.mono HB1.out.size)⟩
  · have e1 : decide (((k : Nat) : Int) ≥ (14 : Int)) = true := by simp; omega
    have HF : Hid (kindB x = false) := by
      show _ = _
      unfold kindB
      rw [hkk]
      repeat rw [if_neg (by omega)]
    have hwr : IntKind.i64.wrap ((k : Nat) : Int) = (k : Nat) := by rw [IntKind.wrap_i64]; omega
    clear hI hI1 hB hB1 hT hT1 hX hk hkk h hls hlk hb1 hlt h14
    go_enter Tryz.func139, Tryz.ntmps139
    go_wp2
    rw [← hW1]
    clear hW1
    go_quiet (fail)
    go_wp2
    go_ret
    exact ⟨by rw [HF.out]; rfl, ⟨HB1.out.os, HB1.out.tape, HB1.out.output, HB1.out.size, HB1.out.block⟩⟩
end Go.Proofs.YtjpccmiaimkmbaaGreat

