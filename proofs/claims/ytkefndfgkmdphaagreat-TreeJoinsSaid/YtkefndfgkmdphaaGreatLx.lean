import Derived.Test.YtkefndfgkmdphaaGreatLs
import Derived.Test.YtkefndfgkmdphaaGreatFi
import Derived.BigQuiet
import Derived.Test.YtkefndfgkmdphaaGreatShelf
import Derived.StillTailTactics
import Derived.Sort.OwnSortedInts

namespace Go.Proofs.YtkefndfgkmdphaaGreat
set_option maxHeartbeats 1600000
set_option maxRecDepth 100000
open Go.RowKit Tnr Tnt

def kRow (lo hi : Int) (f : FuncId) : List Value := [.int .i64 lo, .int .i64 hi, .func (.func f) #[] #[]]
def kTab : List Value := [.int .i64 0, .int .i64 0, Value.nilFunc] ++ kRow 0 0 199 ++ kRow 0 0 200 ++ kRow 2 4000 199 ++ kRow 2 4000 199 ++ kRow 1 1 201 ++ kRow 1 1 199 ++ kRow 1 1 202 ++ kRow 0 0 201 ++ kRow 0 0 203 ++ kRow 1 1 204 ++ kRow 1 1 204 ++ kRow 1 2 205 ++ kRow 1 1 199
theorem kinds_any (w : World) : Calls Tryz.prog 169 #[] w fun e w' => e = .returned (.slice (some ⟨w.heap.size, 0, none⟩) 14 14) ∧ w' = w.alloc (.cells kTab.toArray 253) := by
 go_enter Tryz.func169, Tryz.ntmps169
 go_wp2
 go_ret
 exact ⟨rfl, rfl⟩

def kindB (x : NV) : Bool :=
 if x.nd.kind = 1 then fitsB 0 0 bareB id x else if x.nd.kind = 2 then fitsB 0 0 setB noSet x
 else if x.nd.kind = 3 then fitsB 2 4000 bareB id x else if x.nd.kind = 4 then fitsB 2 4000 bareB id x
 else if x.nd.kind = 5 then fitsB 1 1 (fun _ => true) noGroup x else if x.nd.kind = 6 then fitsB 1 1 bareB id x
 else if x.nd.kind = 7 then fitsB 1 1 repeatB noTimes x else if x.nd.kind = 8 then fitsB 0 0 (fun _ => true) noGroup x
 else if x.nd.kind = 9 then fitsB 0 0 spotB noSpot x else if x.nd.kind = 10 then fitsB 1 1 (fun _ => true) noNot x
 else if x.nd.kind = 11 then fitsB 1 1 (fun _ => true) noNot x else if x.nd.kind = 12 then fitsB 1 2 tryB noMode x
 else if x.nd.kind = 13 then fitsB 1 1 bareB id x else false
theorem kind_row (k : Nat) (hk : k < 14) : ∃ (lo hi : Int) (fv : Value), kTab[k * 3]? = some (.int .i64 lo) ∧ kTab[k * 3 + 1]? = some (.int .i64 hi) ∧ kTab[k * 3 + 2]? = some fv ∧
  ∀ (x : NV) (w : World), NodeIn w x → x.nd.kind = (k : Int) → Calls Tryz.prog 172 #[.agg #[.int .i64 lo, .int .i64 hi, fv], .agg (encN x).toArray] w fun e w' => e = .returned (.bool (kindB x)) ∧ Below w.heap.size w w' := by
 match k, hk with
 | 0, _ => exact ⟨_, _, _, rfl, rfl, rfl, fun x w hI h => by unfold kindB; rw [h]; exact fits_nil 0 0 x w⟩
 | 1, _ => exact ⟨_, _, _, rfl, rfl, rfl, fun x w hI h => by unfold kindB; rw [h]; exact fits_bare 0 0 x w hI⟩
 | 2, _ => exact ⟨_, _, _, rfl, rfl, rfl, fun x w hI h => by unfold kindB; rw [h]; exact fits_set 0 0 x w hI⟩
 | 3, _ => exact ⟨_, _, _, rfl, rfl, rfl, fun x w hI h => by unfold kindB; rw [h]; exact fits_bare 2 4000 x w hI⟩
 | 4, _ => exact ⟨_, _, _, rfl, rfl, rfl, fun x w hI h => by unfold kindB; rw [h]; exact fits_bare 2 4000 x w hI⟩
 | 5, _ => exact ⟨_, _, _, rfl, rfl, rfl, fun x w hI h => by unfold kindB; rw [h]; exact fits_group 1 1 x w hI⟩
 | 6, _ => exact ⟨_, _, _, rfl, rfl, rfl, fun x w hI h => by unfold kindB; rw [h]; exact fits_bare 1 1 x w hI⟩
 | 7, _ => exact ⟨_, _, _, rfl, rfl, rfl, fun x w hI h => by unfold kindB; rw [h]; exact fits_repeat 1 1 x w hI⟩
 | 8, _ => exact ⟨_, _, _, rfl, rfl, rfl, fun x w hI h => by unfold kindB; rw [h]; exact fits_group 0 0 x w hI⟩
 | 9, _ => exact ⟨_, _, _, rfl, rfl, rfl, fun x w hI h => by unfold kindB; rw [h]; exact fits_spot 0 0 x w hI⟩
 | 10, _ => exact ⟨_, _, _, rfl, rfl, rfl, fun x w hI h => by unfold kindB; rw [h]; exact fits_not 1 1 x w hI⟩
 | 11, _ => exact ⟨_, _, _, rfl, rfl, rfl, fun x w hI h => by unfold kindB; rw [h]; exact fits_not 1 1 x w hI⟩
 | 12, _ => exact ⟨_, _, _, rfl, rfl, rfl, fun x w hI h => by unfold kindB; rw [h]; exact fits_try 1 2 x w hI⟩
 | 13, _ => exact ⟨_, _, _, rfl, rfl, rfl, fun x w hI h => by unfold kindB; rw [h]; exact fits_bare 1 1 x w hI⟩
end Go.Proofs.YtkefndfgkmdphaaGreat


namespace Go.Proofs.YtkefndfgkmdphaaGreat
set_option maxHeartbeats 1600000
set_option maxRecDepth 100000
open Go.RowKit Tnr Tnt


theorem kinded1_any (x : NV) (bt tb : Nat) (w : World) (hk : 0 ≤ x.nd.kind ∧ x.nd.kind < 256) (hI : NodeIn w x) (hB : Bx w bt 248 #[.slice (some ⟨tb, 0, none⟩) 14 14]) (hT : Bx w tb 253 kTab.toArray) :
  Calls Tryz.prog 171 #[.agg (encN x).toArray, .pointer (some ⟨bt, 0, none⟩)] w fun e w' => e = .returned (.bool (!kindB x)) ∧ Below w.heap.size w w' := by
 obtain ⟨k, hkk⟩ : ∃ k : Nat, x.nd.kind = (k : Int) := ⟨x.nd.kind.toNat, by omega⟩
 have hk2 : k < 256 := by omega
 obtain ⟨ls, lk, hls, hlk, h⟩ := node_lit2 x
 obtain ⟨W1, hW1⟩ : ∃ W, W = w.alloc (.cells (encN x).toArray 28) := ⟨_, rfl⟩
 have hb1 : Below w.heap.size w W1 := by rw [hW1]; exact bl_alloc _ _
 have hX : Bx W1 w.heap.size 28 (encN x).toArray := by rw [hW1]; exact Bx.new w _ _
 have hB1 := hB.below hb1
 have hT1 := hT.below hb1
 have hI1 := hI.below hb1
 have cB : W1.cell? ⟨bt, 0, none⟩ = some (.slice (some ⟨tb, 0, none⟩) 14 14) := hB1.cell rfl
 have HB1 := lh hb1
 have hlt := hX.lt
 unfold NodeLit at h
 rw [hkk] at h
 rw [h] at hW1 hX ⊢
 obtain ⟨c0, c1, c2, c3, c4, c5, c6, c7, c8⟩ := nine hX
 by_cases h14 : k < 14
 ·obtain ⟨lo, hi, fv, r0, r1, r2, hcall⟩ := kind_row k h14
  have e1 : decide (((k : Nat) : Int) ≥ (14 : Int)) = false := by simp; omega
  have t0 : W1.cell? ⟨tb, k * 3, none⟩ = some (.int .i64 lo) := hT1.cell (by simpa using r0)
  have t1 : W1.cell? ⟨tb, k * 3 + 1, none⟩ = some (.int .i64 hi) := hT1.cell (by simpa using r1)
  have t2 : W1.cell? ⟨tb, k * 3 + 2, none⟩ = some fv := hT1.cell (by simpa using r2)
  obtain ⟨C, hC⟩ : ∃ C : World → Prop, C = fun V => Below W1.heap.size W1 V ∧ V.cell? ⟨bt, 0, none⟩ = some (.slice (some ⟨tb, 0, none⟩) 14 14) ∧ V.cell? ⟨tb, k * 3, none⟩ = some (.int .i64 lo) ∧ V.cell? ⟨tb, k * 3 + 1, none⟩ = some (.int .i64 hi) ∧ V.cell? ⟨tb, k * 3 + 2, none⟩ = some fv ∧
   V.cell? ⟨w.heap.size, 0, none⟩ = some (.int .u8 (k : Nat)) ∧ V.cell? ⟨w.heap.size, 1, none⟩ = some (.slice x.ps ls x.cs) ∧ V.cell? ⟨w.heap.size, 2, none⟩ = some (.slice x.pk lk x.ck) ∧ V.cell? ⟨w.heap.size, 3, none⟩ = some (.int .i64 x.nd.group) ∧ V.cell? ⟨w.heap.size, 4, none⟩ = some (.int .i64 x.nd.mn) ∧ V.cell? ⟨w.heap.size, 5, none⟩ = some (.int .i64 x.nd.mx) ∧ V.cell? ⟨w.heap.size, 6, none⟩ = some (.int .u8 x.nd.mode) ∧ V.cell? ⟨w.heap.size, 7, none⟩ = some (.int .u8 x.nd.spot) ∧ V.cell? ⟨w.heap.size, 8, none⟩ = some (.bool x.nd.neg) := ⟨_, rfl⟩
  have HC : Hid (∀ V, Below W1.heap.size W1 V → C V) := by
   intro V hV
   have kp : ∀ {b i : Nat} {v : Value}, W1.cell? ⟨b, i, none⟩ = some v → V.cell? ⟨b, i, none⟩ = some v := fun {b i v} h => by rw [hV.cell (World.block_lt_of_cell? W1 _ h)]; exact h
   rw [hC]
   exact ⟨hV, kp cB, kp t0, kp t1, kp t2, kp c0, kp c1, kp c2, kp c3, kp c4, kp c5, kp c6, kp c7, kp c8⟩
  have HCA : Hid (∀ V, C V → Calls Tryz.prog 172 #[.agg #[.int .i64 lo, .int .i64 hi, fv], .agg (encN x).toArray] V fun e w' => e = .returned (.bool (kindB x)) ∧ C w') := by
   intro V hV
   rw [hC] at hV
   exact (hcall x V (hI1.below hV.1) hkk).mono fun e w' ⟨h1, h2⟩ => ⟨h1, HC.out w' (hV.1.trans (h2.mono hV.1.size))⟩
  have HCB : Hid (∀ V, C V → Below W1.heap.size W1 V) := fun V hV => by rw [hC] at hV; exact hV.1
  rw [h] at HCA
  have HK := lh (And.intro h14 hk2)
  have hk4 : ((k : Nat) : Int).toNat = k := by omega
  have hlt14 : ((k : Nat) : Int) < 14 := by omega
  have hwr : IntKind.i64.wrap ((k : Nat) : Int) = (k : Nat) := by rw [IntKind.wrap_i64]; omega
  have hCd : C W1.drew := HC.out _ (bl_drew W1)
  clear hcall r0 r1 r2 hI hI1 hB hB1 hT hT1 hX hk hkk h hls hlk hb1 hlt cB t0 t1 t2 c0 c1 c2 c3 c4 c5 c6 c7 c8 hk2
  go_enter Tryz.func171, Tryz.ntmps171
  go_wp2
  rw [← hW1]
  clear hW1
  refine wp_region_quiet (C := C) (by kernel_rfl) (by kernel_rfl) hCd ?_
  have HF : Hid (∀ V, C V → Calls Tryz.prog 172 #[.agg #[.int .i64 lo, .int .i64 hi, fv], .agg #[.int .u8 (k : Nat), .slice x.ps ls x.cs, .slice x.pk lk x.ck, .int .i64 x.nd.group, .int .i64 x.nd.mn, .int .i64 x.nd.mx, .int .u8 x.nd.mode, .int .u8 x.nd.spot, .bool x.nd.neg]] V fun e w' => e = .returned (.bool (kindB x)) ∧ C w') := HCA.out
  clear HCA HC hCd
  subst hC
  dsimp only
  iterate 13 (refine BigFrame.wpQuiet_want (by kernel_rfl) (fun K hK => ?_); refine ⟨?_, fun V hV => ?_, hK _ ?_⟩; rotate_left; (focus (unfold Oper.quietAt; dsimp only at hV; go_simp; try with_reducible rfl)); clear hK K; (try simp only [Act.put, sb]))
  refine BigFrame.wpQuiet_want (by kernel_rfl) (fun K hK => ?_)
  refine ⟨.bool (kindB x), fun V hV => ?_, hK _ ?_⟩
  ·have HV := lh hV
   clear hV hK
   unfold Oper.quietAt
   go_simp
   exact HF.out V HV.out
  clear hK K
  try simp only [Act.put, sb]
  iterate 3 (refine BigFrame.wpQuiet_want (by kernel_rfl) (fun K hK => ?_); refine ⟨?_, fun V hV => ?_, hK _ ?_⟩; rotate_left; (focus (unfold Oper.quietAt; dsimp only at hV; go_simp; try with_reducible rfl)); clear hK K; (try simp only [Act.put, sb]))
  refine wpQuiet_nil ?_
  intro w5 hV
  have HV := lh hV.1
  clear hV
  go_wp2
  go_ret
  exact ⟨rfl, HB1.out.trans (HV.out.mono HB1.out.size)⟩
 ·have e1 : decide (((k : Nat) : Int) ≥ (14 : Int)) = true := by simp; omega
  have HF : Hid (kindB x = false) := by
   show _ = _
   unfold kindB
   rw [hkk]
   repeat rw [if_neg (by omega)]
  have hwr : IntKind.i64.wrap ((k : Nat) : Int) = (k : Nat) := by rw [IntKind.wrap_i64]; omega
  clear hI hI1 hB hB1 hT hT1 hX hk hkk h hls hlk hb1 hlt h14
  go_enter Tryz.func171, Tryz.ntmps171
  go_wp2
  rw [← hW1]
  clear hW1
  go_quiet (fail)
  go_wp2
  go_ret
  exact ⟨by rw [HF.out]; rfl, ⟨HB1.out.os, HB1.out.tape, HB1.out.output, HB1.out.size, HB1.out.block⟩⟩
end Go.Proofs.YtkefndfgkmdphaaGreat


namespace Go.Proofs.YtkefndfgkmdphaaGreat
set_option maxHeartbeats 1600000
set_option maxRecDepth 100000
open Go.RowKit Tnr Tnt

def KindsIn (xs : List NV) : Prop := ∀ x ∈ xs, 0 ≤ x.nd.kind ∧ x.nd.kind < 256
def kindsB (xs : List NV) : Bool := xs.all kindB
theorem kindsB_take {xs : List NV} {k : Nat} (h : k < xs.length) : kindsB (xs.take (k + 1)) = (kindsB (xs.take k) && kindB (gn xs k)) := by
 unfold kindsB; rw [take_gn h, List.all_append]; simp
theorem kindsB_bad {xs : List NV} {k : Nat} (h : k < xs.length) (hb : kindB (gn xs k) = false) : kindsB xs = false := by
 unfold kindsB; rw [List.all_eq_false]; exact ⟨gn xs k, gn_mem h, by simp [hb]⟩
theorem indexKind_any (p : Option Addr) (n c : Nat) (xs : List NV) (bt tb : Nat) (w : World) (hn : n = xs.length) (hl : n ≤ 1000000) (hL : SlN w p xs) (hk : KindsIn xs) (hB : Bx w bt 248 #[.slice (some ⟨tb, 0, none⟩) 14 14]) (hT : Bx w tb 253 kTab.toArray) :
  Calls Tryz.prog 206 #[.slice p n c, .func (.func 171) #[] #[.pointer (some ⟨bt, 0, none⟩)]] w fun e w' => (∃ z : Int, e = .returned (.int .i64 z) ∧ (0 ≤ z ↔ kindsB xs = false)) ∧ Below w.heap.size w w' := by
 have HL := lh hL
 have HN := lh hn
 have HK := lh hk
 have HT := lh (And.intro hB hT)
 have hnI : (n : Int) ≤ 1000000 := by omega
 clear hL hn hk hB hT
 go_enter Tryz.func206, Tryz.ntmps206
 go_wp2
 go_loopw [8] (fun iv wr => ∃ k : Nat, k ≤ n ∧ iv = .int .i64 (k : Nat) ∧ Hid (kindsB (xs.take k) = true) ∧ Hid (Below w.heap.size w wr)) (fun iv _ => n - (intOf iv).toNat)
 case atStart => exact ⟨0, Nat.zero_le _, rfl, rfl, Below.refl _ _⟩
 case round =>
  obtain ⟨k, hk, rfl, HE, HW⟩ := hrel
  rename World => wr
  by_cases hkn : k < n
  ·have hkx : k < xs.length := by have := HN.out; omega
   obtain ⟨b, o, rfl, hcells, hin⟩ := (HL.out.below HW.out).at hkx
   have hkI : (k : Int) < n := by omega
   have HCO := lh (kinded1_any (gn xs k) bt tb wr (HK.out _ (gn_mem hkx)) hin (HT.out.1.below HW.out) (HT.out.2.below HW.out))
   have HTK := lh (kindsB_take hkx)
   have HBAD : Hid (kindB (gn xs k) = false → kindsB xs = false) := fun h => kindsB_bad hkx h
   obtain ⟨x, hx⟩ : ∃ x, x = gn xs k := ⟨_, rfl⟩
   rw [← hx] at hcells HCO HTK HBAD
   obtain ⟨ls, lk, hls, hlk, h⟩ := node_lit2 x
   unfold NodeLit at h
   obtain ⟨c0, c1, c2, c3, c4, c5, c6, c7, c8⟩ := hcells
   rw [← hls] at c1
   rw [← hlk] at c2
   rw [h] at HCO
   obtain ⟨bb, hbb⟩ : ∃ b : Bool, b = kindB x := ⟨_, rfl⟩
   rw [← hbb] at HCO HTK HBAD
   clear hin hx hkx hls hlk h hbb
   cases bb with
   | false =>
    go_wp2_with (go_at_call 171; refine (HCO.out).mono ?_; rintro e w5 ⟨rfl, hb5⟩; have HB5 := lh hb5; clear hb5)
    go_ret
    exact ⟨⟨k, rfl, ⟨fun _ => HBAD.out (by first | trivial | rfl), fun _ => by omega⟩⟩, HW.out.trans (HB5.out.mono HW.out.size)⟩
   | true =>
    go_wp2_with (go_at_call 171; refine (HCO.out).mono ?_; rintro e w5 ⟨rfl, hb5⟩; have HB5 := lh hb5; clear hb5)
    go_roundw
    case rel =>
     refine ⟨k + 1, by omega, by go_num, ?_, HW.out.trans (HB5.out.mono HW.out.size)⟩
     show kindsB (xs.take (k + 1)) = true
     rw [HTK.out, HE.out]; rfl
    case measure => simp [intOf]; omega
  ·have hkI : (n : Int) ≤ k := by omega
   go_wp2
   go_ret
   refine ⟨⟨-1, rfl, ⟨fun h => by omega, fun h => ?_⟩⟩, HW.out⟩
   have := HE.out
   rw [List.take_of_length_le (by have := HN.out; omega), h] at this
   cases this
theorem containsKind_any (p : Option Addr) (n c : Nat) (xs : List NV) (bt tb : Nat) (w : World) (hn : n = xs.length) (hl : n ≤ 1000000) (hL : SlN w p xs) (hk : KindsIn xs) (hB : Bx w bt 248 #[.slice (some ⟨tb, 0, none⟩) 14 14]) (hT : Bx w tb 253 kTab.toArray) :
  Calls Tryz.prog 170 #[.slice p n c, .func (.func 171) #[] #[.pointer (some ⟨bt, 0, none⟩)]] w fun e w' => e = .returned (.bool (!kindsB xs)) ∧ Below w.heap.size w w' := by
 have HI := lh (indexKind_any p n c xs bt tb w hn hl hL hk hB hT)
 clear hn hl hL hk hB hT
 go_enter Tryz.func170, Tryz.ntmps170
 go_wp2_with fail
 refine HI.out.mono ?_
 rintro e w' ⟨⟨z, rfl, hz⟩, hb⟩
 have HZ := lh (And.intro hz hb)
 clear hz hb
 go_wp2
 go_ret
 refine ⟨?_, HZ.out.2⟩
 have h := HZ.out.1
 have h2 : decide (z ≥ 0) = !kindsB xs := by
  cases hkb : kindsB xs with
  | true => rw [hkb] at h; simp at h; simp; omega
  | false => rw [hkb] at h; simpa using h
 rw [← h2]; rfl
theorem kinded_any (p : Option Addr) (n c : Nat) (xs : List NV) (w : World) (hn : n = xs.length) (hl : n ≤ 1000000) (hL : SlN w p xs) (hk : KindsIn xs) :
  Calls Tryz.prog 119 #[.slice p n c] w fun e w' => e = .returned (.bool (kindsB xs)) ∧ Below w.heap.size w w' := by
 have HK := lh (kinds_any w)
 obtain ⟨W2, hW2⟩ : ∃ W, W = (w.alloc (.cells kTab.toArray 253)).alloc (.cells #[.slice (some ⟨w.heap.size, 0, none⟩) 14 14] 248) := ⟨_, rfl⟩
 have hb2 : Below w.heap.size w W2 := by rw [hW2]; exact bl_trans (bl_alloc _ _) (bl_alloc _ _)
 have hT : Bx W2 w.heap.size 253 kTab.toArray := by rw [hW2]; exact (Bx.new w _ _).below (bl_alloc _ _)
 have hB : Bx W2 (w.heap.size + 1) 248 #[.slice (some ⟨w.heap.size, 0, none⟩) 14 14] := by
  have h := Bx.new (w.alloc (.cells kTab.toArray 253)) 248 #[.slice (some ⟨w.heap.size, 0, none⟩) 14 14]
  rw [World.size_alloc] at h; rw [hW2]; exact h
 have HI := lh (containsKind_any p n c xs (w.heap.size + 1) w.heap.size W2 hn hl (hL.below hb2) hk hB hT)
 have HB := lh hb2
 rw [hW2] at HI HB
 clear hn hl hL hk hT hB hb2 hW2
 go_enter Tryz.func119, Tryz.ntmps119
 go_wp2_with (first | (go_at_call 169; refine (HK.out).mono ?_; rintro e w5 ⟨rfl, rfl⟩) | (go_at_call 170; refine (HI.out).mono ?_; rintro e w5 ⟨rfl, hb5⟩; have HB5 := lh hb5; clear hb5))
 go_ret
 refine ⟨?_, HB.out.trans (HB5.out.mono HB.out.size)⟩
 rw [show kindsB xs = !!kindsB xs by simp]; rfl
end Go.Proofs.YtkefndfgkmdphaaGreat


namespace Go.Proofs.YtkefndfgkmdphaaGreat
set_option maxHeartbeats 1600000
set_option maxRecDepth 100000
open Go.RowKit Tnr Tnt Go.Sort Go.Shelf

theorem compare_any (x y : Int) (w : World) : Calls Tryz.prog 215 #[.int .i64 x, .int .i64 y] w fun e w' => e = .returned (.int .i64 (Lib.compareInt x y)) ∧ w' = w := by
 have HN : Hid (∀ (x : Int) (w : World), Calls Tryz.prog 234 #[.int .i64 x] w fun e w' => e = .returned (.bool false) ∧ w' = w) := fun x w => Tryz.cmp_isNaN_int x w
 have HC : Hid (Lib.compareInt x y = if x < y then -1 else if y < x then 1 else 0) := by
  show Lib.compareInt x y = _
  unfold Lib.compareInt
  by_cases h1 : x < y
  ·simp [h1]
  ·by_cases h2 : y < x <;> simp [h1, h2]
 by_cases h1 : x < y
 ·go_enter Tryz.func215, Tryz.ntmps215
  go_wp2_with (go_at_call 234; refine (HN.out _ _).mono ?_; rintro e w' ⟨rfl, rfl⟩)
  go_ret
  exact ⟨by rw [HC.out, if_pos h1]; rfl, rfl⟩
 ·by_cases h2 : y < x
  ·go_enter Tryz.func215, Tryz.ntmps215
   go_wp2_with (go_at_call 234; refine (HN.out _ _).mono ?_; rintro e w' ⟨rfl, rfl⟩)
   go_ret
   exact ⟨by rw [HC.out, if_neg (by omega), if_pos h2]; rfl, rfl⟩
  ·go_enter Tryz.func215, Tryz.ntmps215
   go_wp2_with (go_at_call 234; refine (HN.out _ _).mono ?_; rintro e w' ⟨rfl, rfl⟩)
   go_ret
   exact ⟨by rw [HC.out, if_neg (by omega), if_neg (by omega)]; rfl, rfl⟩
def orI (a b : Int) : Int := if a = 0 then b else a
theorem or_any (a b : Int) (blk : Nat) (w : World) (h0 : w.cell? ⟨blk, 0, none⟩ = some (.int .i64 a)) (h1 : w.cell? ⟨blk, 1, none⟩ = some (.int .i64 b)) : Calls Tryz.prog 214 #[.slice (some ⟨blk, 0, none⟩) 2 2] w fun e w' => e = .returned (.int .i64 (orI a b)) ∧ w' = w := by
 have HC : Hid (orI a b = if a = 0 then b else a) := rfl
 go_enter Tryz.func214, Tryz.ntmps214
 go_wp2
 go_loopw [8] (fun iv wr => ∃ k : Nat, k ≤ 2 ∧ iv = .int .i64 (k : Nat) ∧ Hid (1 ≤ k → a = 0) ∧ Hid (2 ≤ k → b = 0) ∧ wr = w) (fun iv _ => 2 - (intOf iv).toNat)
 case atStart => exact ⟨0, by omega, rfl, fun h => absurd h (by omega), fun h => absurd h (by omega), rfl⟩
 case round =>
  obtain ⟨k, hk, rfl, HA, HB, rfl⟩ := hrel
  rcases k with _ | _ | _ | k
  ·by_cases ha : a = 0
   ·have e1 : (a != 0) = false := by simpa using ha
    have HX := lh ha
    clear ha
    go_wp2
    go_roundw
    case rel => exact ⟨1, by omega, rfl, fun _ => HX.out, fun h => absurd h (by omega), by first | rfl | trivial⟩
    case measure => simp [intOf]
   ·have e1 : (a != 0) = true := by simpa using ha
    have HX := lh ha
    clear ha
    go_wp2
    go_ret
    exact ⟨by rw [HC.out, if_neg HX.out]; rfl, rfl⟩
  ·by_cases hb : b = 0
   ·have e1 : (b != 0) = false := by simpa using hb
    have HX := lh hb
    clear hb
    go_wp2
    go_roundw
    case rel => exact ⟨2, by omega, rfl, fun _ => HA.out (by omega), fun _ => HX.out, by first | rfl | trivial⟩
    case measure => simp [intOf]
   ·have e1 : (b != 0) = true := by simpa using hb
    have HX := lh hb
    clear hb
    go_wp2
    go_ret
    exact ⟨by rw [HC.out, if_pos (HA.out (by omega))]; rfl, rfl⟩
  ·go_wp2
   go_ret
   exact ⟨by rw [HC.out, if_pos (HA.out (by omega)), HB.out (by omega)]; rfl, rfl⟩
  ·omega

def cfB (fs : List Int) (a b : Int) : Int := orI (Lib.compareInt (gz fs a.toNat) (gz fs b.toNat)) (Lib.compareInt b a)
theorem begun1_any (fs : List Int) (tb m : Nat) (T : Array Value) (pf : Option Addr) (cf a b : Nat) (w : World) (hT : Bx w tb 66 T) (h1 : T[1]? = some (.slice pf m cf)) (hm : m = fs.length) (hS : SlZ w pf fs) (ha : a < m) (hb : b < m) (_hl : m ≤ 1000000) :
  Calls Tryz.prog 213 #[.int .i64 (a : Nat), .int .i64 (b : Nat), .pointer (some ⟨tb, 0, none⟩)] w fun e w' => e = .returned (.int .i64 (cfB fs (a : Nat) (b : Nat))) ∧ ∃ q os', w' = grow (w.drewN q) os' := by
 have hc := hT.cell h1
 rcases hS with h0 | ⟨g, o, rfl, hcs⟩
 ·rw [h0] at hm; simp at hm; omega
 have ca := hcs a (by omega)
 have cb := hcs b (by omega)
 obtain ⟨x, hx⟩ : ∃ x, x = gz fs a := ⟨_, rfl⟩
 obtain ⟨y, hy⟩ : ∃ x, x = gz fs b := ⟨_, rfl⟩
 rw [← hx] at ca
 rw [← hy] at cb
 have HCF : Hid (cfB fs (a : Nat) (b : Nat) = orI (Lib.compareInt x y) (Lib.compareInt (b : Nat) (a : Nat))) := by show _ = _; unfold cfB; rw [hx, hy]; simp
 have haI : ((a : Nat) : Int) < m := by omega
 have hbI : ((b : Nat) : Int) < m := by omega
 clear hcs hT h1 hm hx hy
 go_enter Tryz.func213, Tryz.ntmps213
 go_wp2
 go_still_tail 14, (by kernel_rfl)
 still_call (compare_any _ _ _)
 repeat still_step
 still_call (compare_any _ _ _)
 refine wpStill_nil ?_
 obtain ⟨W1, hW1⟩ : ∃ W, W = (w.alloc (.cells #[.int .i64 (Lib.compareInt x y), .int .i64 (Lib.compareInt (b : Nat) (a : Nat))] 3)).drew := ⟨_, rfl⟩
 have hX : Bx W1 w.heap.size 3 #[.int .i64 (Lib.compareInt x y), .int .i64 (Lib.compareInt (b : Nat) (a : Nat))] := by rw [hW1]; exact Bx.new w _ _
 have HO := lh (or_any _ _ w.heap.size W1 (hX.cell rfl) (hX.cell rfl))
 have HW1 : Hid (∃ q os', W1 = grow (w.drewN q) os') := ⟨1, _, by rw [hW1, alloc_eq_grow]; rfl⟩
 rw [hW1] at HO HW1
 clear hW1 hX
 go_wp2_with (go_at_call 214; refine (HO.out).mono ?_; rintro e w' ⟨rfl, rfl⟩)
 go_ret
 exact ⟨by rw [HCF.out]; rfl, HW1.out⟩
end Go.Proofs.YtkefndfgkmdphaaGreat


namespace Go.Proofs.YtkefndfgkmdphaaGreat
set_option maxHeartbeats 1600000
set_option maxRecDepth 100000
open Go.RowKit Tnr Tnt Go.Sort Go.Shelf

def ltB (fs : List Int) (a b : Int) : Bool := decide (gz fs a.toNat < gz fs b.toNat ∨ (gz fs a.toNat = gz fs b.toNat ∧ b < a))
def begL (fs ps : List Int) : List Int := ps.mergeSort fun a b => !ltB fs b a
theorem cfB_lt (fs : List Int) (a b : Int) : decide (cfB fs a b < 0) = ltB fs a b := by
 unfold cfB ltB orI Lib.compareInt
 generalize gz fs a.toNat = x
 generalize gz fs b.toNat = y
 by_cases h1 : x < y
 ·simp [h1]
 ·by_cases h2 : y < x
  ·have : ¬ x = y := by omega
   simp [h1, h2, this]
  ·have : x = y := by omega
   subst this
   by_cases h3 : b < a
   ·simp [h3]
   ·by_cases h4 : a < b <;> simp [h3, h4]
theorem ltB_irrefl (fs : List Int) (a : Int) : ltB fs a a = false := by unfold ltB; simp
theorem ltB_trans (fs : List Int) (a b c : Int) (h1 : ltB fs a b = true) (h2 : ltB fs b c = true) : ltB fs a c = true := by
 unfold ltB at *; simp only [decide_eq_true_eq] at *; omega
theorem ltB_ntrans (fs : List Int) (a b c : Int) (h1 : ltB fs a b = false) (h2 : ltB fs b c = false) : ltB fs a c = false := by
 unfold ltB at *; simp only [decide_eq_false_iff_not] at *; omega
theorem ltB_eq (fs : List Int) (a b : Int) (h1 : ltB fs a b = false) (h2 : ltB fs b a = false) : a = b := by
 unfold ltB at *; simp only [decide_eq_false_iff_not] at *; omega
def cfF (fs : List Int) (k : Nat) (x y : Fin (k + 1)) : Int := cfB fs ((x.val : Nat) : Int) ((y.val : Nat) : Int)
theorem ltOf_cfF (fs : List Int) (k : Nat) (x y : Fin (k + 1)) : ltOf (cfF fs k) x y = ltB fs ((x.val : Nat) : Int) ((y.val : Nat) : Int) := by
 unfold ltOf cfF; exact cfB_lt _ _ _
theorem swoF (fs : List Int) (k : Nat) : SWO (ltOf (cfF fs k)) where
 irrefl x := by rw [ltOf_cfF]; exact ltB_irrefl _ _
 trans x y z h1 h2 := by rw [ltOf_cfF] at *; exact ltB_trans _ _ _ _ h1 h2
 ntrans x y z h1 h2 := by rw [ltOf_cfF] at *; exact ltB_ntrans _ _ _ _ h1 h2
def encF (k : Nat) (x : Fin (k + 1)) : Value := .int .i64 ((x.val : Nat) : Int)
def valF (k : Nat) (x : Fin (k + 1)) : Int := ((x.val : Nat) : Int)
def finF (k : Nat) (z : Int) : Fin (k + 1) := ⟨min z.toNat k, by omega⟩
theorem val_fin (k : Nat) (z : Int) (h : 0 ≤ z ∧ z ≤ k) : valF k (finF k z) = z := by unfold valF finF; show ((min z.toNat k : Nat) : Int) = z; omega
theorem map_val_fin (k : Nat) (ps : List Int) (h : ∀ p ∈ ps, 0 ≤ p ∧ p ≤ (k : Int)) : (ps.map (finF k)).map (valF k) = ps := by
 rw [List.map_map]
 conv => rhs; rw [← List.map_id ps]
 exact List.map_congr_left fun p hp => val_fin k p (h p hp)
theorem putCells_fin (k off : Nat) (d : Array (Fin (k + 1))) (c : Array Value) : putCells (encF k) off d c = putCells (Value.int .i64) off (d.map (valF k)) c := by
 unfold putCells
 congr 1
 funext i x
 simp only [Array.size_map]
 by_cases h : off ≤ i ∧ i < off + d.size
 ·rw [if_pos h, if_pos h, getElem!_pos d (i - off) (by omega), getElem!_pos (d.map (valF k)) (i - off) (by simp; omega), Array.getElem_map]; rfl
 ·rw [if_neg h, if_neg h]
theorem sortWorld_fin (k : Nat) (w : World) (blk off n : Nat) (d : Array (Fin (k + 1))) (os : Array Obj) : sortWorld (encF k) w blk off n d os = sortWorld (Value.int .i64) w blk off n (d.map (valF k)) os := by
 unfold sortWorld putRow
 congr 2
 funext c
 exact putCells_fin k off d c
theorem begL_map (fs : List Int) (k : Nat) (l : List (Fin (k + 1))) : (l.mergeSort fun x y => !(ltOf (cfF fs k)) y x).map (valF k) = begL fs (l.map (valF k)) := by
 unfold begL
 exact List.map_mergeSort fun a _ b _ => by rw [ltOf_cfF]; rfl
theorem begL_perm (fs ps : List Int) : (begL fs ps).Perm ps := List.mergeSort_perm _ _

theorem sortB_any (fs ps : List Int) (tb k n : Nat) (T : Array Value) (pf : Option Addr) (cf B g cap : Nat) (cur : Array Value) (w : World) (hT : Bx w tb 66 T) (h1 : T[1]? = some (.slice pf (k + 1) cf)) (hm : k + 1 = fs.length) (hS : SlZ w pf fs) (hl : k + 1 ≤ 1000000)
  (hps : ∀ p ∈ ps, 0 ≤ p ∧ p ≤ (k : Int)) (hn : n = ps.length) (hnl : n ≤ 1000000) (hfar : ∀ b o, pf = some ⟨b, o, none⟩ → b ≠ g) (hB : B ≤ g) (hg : w.heap[g]? = some (.cells cur 3 (0, 0))) (hnc : n ≤ cap) (hcm : cap ≤ maxLen) (hcs : cur.size = cap * 1) (htake : cur.toList.take n = ps.map (Value.int .i64)) :
  Calls Tryz.prog 212 #[.slice (some ⟨g, 0, none⟩) n cap, .func (.func 213) #[] #[.pointer (some ⟨tb, 0, none⟩)]] w fun e w' => e = .returned (.tuple #[]) ∧ OwnZ w' B (.slice (some ⟨g, 0, none⟩) n cap) (begL fs ps) ∧ w.grownBy w' (some g) := by
 obtain ⟨d, hd⟩ : ∃ d, d = (ps.map (finF k)).toArray := ⟨_, rfl⟩
 have hdm : d.map (valF k) = ps.toArray := by rw [hd, List.map_toArray, map_val_fin k ps hps]
 have hds : d.size = n := by rw [hd]; simp [hn]
 have htg : tb ≠ g := fun e => by
  rw [← e, show w.heap[tb]? = _ from hT] at hg
  simp only [Option.some.injEq, Obj.cells.injEq] at hg
  exact absurd hg.2.1 (by decide)
 have eg : ∀ args w, (callFunc 213 args).run Tryz.prog w = .ok (.enter 213 args) w := enters_of Tryz.func213 (by kernel_rfl) rfl
 have hcmp : CmpLays1 Tryz.prog 213 #[.pointer (some ⟨tb, 0, none⟩)] (encF k) (cfF fs k) g 0 d.size w := by
  intro q os dk hs x y
  have hgr : w.grownBy (sortWorld (encF k) w g 0 q dk os) (some g) := by
   rw [sortWorld_fin]; exact grownBy_sortedI _
  have hS' : SlZ (sortWorld (encF k) w g 0 q dk os) pf fs := by
   rcases hS with h0 | ⟨b, o, rfl, hc⟩
   ·exact .inl h0
   ·exact .inr ⟨b, o, rfl, fun i hi => hgr.cell (hc i hi) (by simpa using hfar b o rfl)⟩
  exact begun1_any fs tb (k + 1) T pf cf x.val y.val _ (hT.kept hgr (by simpa using htg)) h1 hm hS' x.isLt y.isLt hl
 have hH : Holds (encF k) w g 0 d := by
  have h := holds_of_blockI (ss := ps) hg (by rw [← hn]; exact htake)
  rw [← hdm] at h
  intro j hj
  have h2 := h j (by simpa using hj)
  rw [getElem!_pos (d.map (valF k)) j (by simpa using hj), Array.getElem_map] at h2
  rw [getElem!_pos d j hj]
  exact h2
 have hx := Tryz.slices_SortFunc_total (encF k) (fun _ => rfl) (cfF fs k) (swoF fs k) 213 #[.pointer (some ⟨tb, 0, none⟩)] g 0 cap d w eg hcmp hH (lt_of_block hg) (by rw [hds]; simp only [maxLen] at hcm; omega)
  (fun x y e1 e2 => by rw [ltOf_cfF] at e1 e2; have := ltB_eq _ _ _ e1 e2; exact Fin.ext (by omega))
 rw [hds] at hx
 refine hx.mono ?_
 rintro e w' ⟨rfl, q, os, rfl⟩
 rw [sortWorld_fin, List.map_toArray, begL_map, ← Array.toList_map, hdm]
 have hlen : (begL fs ps).length = ps.length := (begL_perm fs ps).length_eq
 refine ⟨rfl, ?_, grownBy_sortedI _⟩
 have h := ownsRow_sortedI (n := q) (os := os) hlen hB hg (by omega) hcm hcs
 rw [← hn] at h
 unfold OwnZ
 rw [hlen, ← hn]
 exact h
theorem sortOwn_any (fs ps : List Int) (tb k n : Nat) (T : Array Value) (pf : Option Addr) (cf B : Nat) (r : Option Addr) (cr : Nat) (w : World) (hT : Bx w tb 66 T) (h1 : T[1]? = some (.slice pf (k + 1) cf)) (hm : k + 1 = fs.length) (hS : SlZ w pf fs) (hl : k + 1 ≤ 1000000)
  (hps : ∀ p ∈ ps, 0 ≤ p ∧ p ≤ (k : Int)) (hn : n = ps.length) (hnl : n ≤ 1000000) (hfar : ∀ b o, pf = some ⟨b, o, none⟩ → b < B) (ho : OwnZ w B (.slice r n cr) ps) :
  Calls Tryz.prog 212 #[.slice r n cr, .func (.func 213) #[] #[.pointer (some ⟨tb, 0, none⟩)]] w fun e w' => e = .returned (.tuple #[]) ∧ OwnZ w' B (.slice r n cr) (begL fs ps) ∧ w.grownBy w' (Value.slice r n cr).ownBlock := by
 have ho' := ho
 rcases ho.2 with ⟨e1, hn0⟩ | ⟨g, cap, cur, e1, hb, hg, hnc, hcm, hcs, htake⟩
 ·have hp : ps = [] := List.eq_nil_of_length_eq_zero hn0
  subst hp
  have hn1 : n = 0 := hn
  subst hn1
  refine (Tryz.slices_SortFunc_none (α := Int) r cr _ w).mono ?_
  rintro e w' ⟨rfl, rfl⟩
  exact ⟨rfl, by unfold begL; rw [List.mergeSort_nil]; exact ho', World.grownBy.refl _ _⟩
 ·rw [← hn] at e1 hnc htake
  simp only [Value.slice.injEq, true_and] at e1
  obtain ⟨rfl, rfl⟩ := e1
  rw [Nat.mul_one] at htake
  exact sortB_any fs ps tb k n T pf cf B g cr cur w hT h1 hm hS hl hps hn hnl (fun b o e => by have := hfar b o e; omega) hb hg hnc hcm hcs htake
end Go.Proofs.YtkefndfgkmdphaaGreat

