/- The walk of put: a code point's bytes are put behind others. -/
import Derived.Test.YtalnfbbggmhbfaaDoorPg
import Derived.Deep.RegionHeld3
import Derived.Laws.BitsAllLaws
namespace Go.Proofs.YtalnfbbggmhbfaaDoor
open Go.RowKit Tnd

def lastAt (k : Nat) : Nat := [127, 2047, 65535, 1114111].getD k 0
def markAt (k : Nat) : Nat := [0, 192, 224, 240].getD k 0
def sizesC : Array Value := #[.int .i64 127, .int .u8 0, .int .i64 2047, .int .u8 192, .int .i64 65535, .int .u8 224, .int .i64 1114111, .int .u8 240]
def SizesIn (w : World) : Prop := ∃ T fr, w.heap[1]? = some (.cells sizesC T fr)
theorem SizesIn.below {w w' : World} (h : SizesIn w) (hb : Below w.heap.size w w') : SizesIn w' := by
  obtain ⟨T, fr, h⟩ := h
  exact ⟨T, fr, by rw [hb.block _ (lt_of_block h)]; exact h⟩
theorem SizesIn.cell {w : World} (h : SizesIn w) (i : Nat) : w.cell? ⟨1, i, none⟩ = sizesC[i]? := by
  obtain ⟨T, fr, h⟩ := h
  simp [World.cell?, h]

theorem info_u8 : (Tryd.prog.info? 5).map (fun i => (i.zero, i.size, i.bytes)) = some (some (.int .u8 0), 1, 1) := by kernel_rfl

theorem or_pow (a n k : Nat) (h : n < 2 ^ k) : (a * 2 ^ k) ||| n = a * 2 ^ k + n := by
  have h2 : a * 2 ^ k = a <<< k := by rw [Nat.shiftLeft_eq]
  rw [h2, Nat.shiftLeft_add_eq_or_of_lt h]
theorem or_mark (a k n m : Nat) (z : Int) (hm : m = a * 2 ^ k) (hn : n < 2 ^ k) (hlt : m < 256 ∧ n < 256) (hz : z = (n : Int)) : bits BinOp.or IntKind.u8 (m : Int) (IntKind.u8.wrap z) = ((m + n : Nat) : Int) := by
  subst hz
  rw [IntKind.wrap_u8', show ((n : Int) % 256) = (n : Int) by omega, u8_or_nat _ _ hlt.1 hlt.2, hm, or_pow _ _ _ hn]
theorem encN1 {c : Nat} (h : c ≤ 127) : encN c = [c] := by unfold encN; rw [if_pos (by omega)]
theorem encN2 {c : Nat} (h : 128 ≤ c) (h2 : c ≤ 2047) : encN c = [192 + c / 64, 128 + c % 64] := by unfold encN; rw [if_neg (by omega), if_pos (by omega)]
theorem encN3 {c : Nat} (h : 2048 ≤ c) (h2 : c ≤ 65535) : encN c = [224 + c / 4096, 128 + c / 64 % 64, 128 + c % 64] := by unfold encN; rw [if_neg (by omega), if_neg (by omega), if_pos (by omega)]
theorem encN4 {c : Nat} (h : 65536 ≤ c) : encN c = [240 + c / 262144, 128 + c / 4096 % 64, 128 + c / 64 % 64, 128 + c % 64] := by unfold encN; rw [if_neg (by omega), if_neg (by omega), if_neg (by omega)]

theorem i64_and_nat (a b : Nat) (ha : a < 9223372036854775808) (hb : b < 9223372036854775808) : bits .and .i64 (a : Int) (b : Int) = ((a &&& b : Nat) : Int) := by
  have hx : a &&& b < 2 ^ 63 := Nat.and_lt_two_pow _ (by omega)
  show IntKind.i64.wrap ((BitVec.ofInt 64 (a : Int) &&& BitVec.ofInt 64 (b : Int)).toNat : Int) = _
  rw [BitVec.toNat_and, ofInt_i64 a (by omega), ofInt_i64 b (by omega), IntKind.wrap_i64]
  omega
theorem and_63 (n : Nat) : n &&& 63 = n % 64 := Nat.and_two_pow_sub_one_eq_mod n 6
theorem or_six8 (n : Nat) (z : Int) (hn : n < 9223372036854775808) (hz : z = (n : Int)) : bits BinOp.or IntKind.u8 128 (bits BinOp.and IntKind.i64 z 63 % 256) = ((128 + n % 64 : Nat) : Int) := by
  subst hz
  have e : bits BinOp.and IntKind.i64 (n : Int) 63 = ((n % 64 : Nat) : Int) := by
    have := i64_and_nat n 63 hn (by omega)
    rw [and_63] at this
    exact this
  rw [e, show (((n % 64 : Nat) : Int) % 256) = ((n % 64 : Nat) : Int) by omega]
  have := u8_or_nat 128 (n % 64) (by omega) (by omega)
  rw [or_pow 2 (n % 64) 6 (by omega)] at this
  exact this

-- PUTS
set_option maxHeartbeats 3200000 in
set_option maxRecDepth 100000 in
theorem put_0 (B : Nat) (p : Option Addr) (cp : Nat) (N : List Nat) (c : Nat) (w : World) (hS : SizesIn w) (ho : Own w B 5 .u8 (.slice p N.length cp) N) (hN : N.length ≤ 100000) (h1 : 0 ≤ c) (h2 : c ≤ 127) (hB : B ≤ w.heap.size) (hG : 1 < B) :
    Calls Tryd.prog 29 #[.slice p N.length cp, .int .i64 (c : Nat)] w fun e w' => ∃ v, e = .returned v ∧ Own w' B 5 .u8 v (N ++ encN c) ∧ Below B w w' := by
  obtain ⟨i0, hinf, hz0, hz1, hz2⟩ := info_parts info_u8
  have c0 := hS.cell 0
  have c1 := hS.cell 1
  simp only [sizesC] at c0 c1
  have ENC := Lib.hid (encN1 h2)
  have gz : (c : Int) ≤ 127 := by omega
  have gy : (0 : Int) ≤ c := by omega
  have HO := Lib.hid ho
  have HS := Lib.hid hS
  have HN := Lib.hid hN
  have hgz : 1 < w.heap.size := by omega
  have hne : (Value.slice p N.length cp).ownBlock ≠ some 1 := by
    intro e
    obtain ⟨p', c', e2, _, _, _, _, h6⟩ := own_form ho
    have := (h6 _ e).2
    omega
  have HNE := Lib.hid hne
  have HGZ := Lib.hid hgz
  have HB := Lib.hid hB
  clear hne hgz ho hS hN h1 hB
  go_enter Tryd.func29, Tryd.ntmps29
  go_wp2
  go_loop [5] (fun iv => ∃ k : Nat, k ≤ 0 ∧ iv = .int .i64 (k : Nat)) (fun iv => 0 - (intOf iv).toNat)
  case atStart => exact ⟨0, by omega, rfl⟩
  case round =>
    obtain ⟨k, hk, rfl⟩ := hrel
    obtain rfl : k = 0 := by omega
    · go_wp2
      have hwS : IntKind.i64.wrap 0 = 0 := by decide
      have HO2 := HO.out
      unfold Own at HO2
      have HO3 := Lib.hid HO2
      clear HO2
      go_region_held3 (fun w' => w'.cell? ⟨1, 1, none⟩ = some (.int .u8 0)) (first | go_keep | assumption | ((rw [hgrow.cell_far _ (by have := HGZ.out; simp; omega) (Ne.symm HNE.out)]; assumption))) ((refine step_append_lies _ (by rfl) _ _ _ (by rfl) B 5 i0 _ 1 1 Tryd.underlying23 hinf hz0 hz1 hz2 rfl (by omega) (.slice p N.length cp) N.length _ (by rfl) ((HO3.out.alloc _).drew) ⟨w.heap.size, 0, none⟩ 1 1 [.int .u8 (bits BinOp.or IntKind.u8 0 (IntKind.u8.wrap ((c : Int))))] (by rfl) (by rfl) (World.news_of_block (cs := #[.int .u8 (bits BinOp.or IntKind.u8 0 (IntKind.u8.wrap ((c : Int))))]) (t := 5) (fr := (0, 0)) (heap_alloc_new w _)) (by simp [Value.oneCell']) (by omega) (by have := HN.out; simp only [maxLen]; omega) (by have := HN.out; omega) (by have := HB.out; simp; omega) (w.heap.size + 1) (by simp) ?_; intro gg cap w1 hown1 hgrow hat hlt))
      have hO1 : Own w1 B 5 .u8 (.slice (some ⟨gg, 0, none⟩) (N.length + 1) cap) (N ++ [c]) := by
        have e : (bits BinOp.or IntKind.u8 0 (IntKind.u8.wrap ((c : Int)))) = ((c : Nat) : Int) := (by have := or_mark 0 7 c 0 (c : Int) (by decide) (by omega) (by omega) rfl; rw [Nat.zero_add] at this; exact this)
        rw [e] at hown1
        exact own_appended rfl hown1
      have hb1 : Below B w w1 := (((Below.refl B w).alloc HB.out _).drew).grown hgrow (by have := HB.out; simp; omega) (fun k hk => (HO3.out.lt k hk).1)
      have HO1 := Lib.hid hO1
      have HB1 := Lib.hid hb1
      have HLE := Lib.hid (show (N ++ [c]).length = N.length + 1 by rw [List.length_append]; rfl)
      clear hown1 hgrow hat hO1 hb1
      go_wp2
      go_loopw [0, 5] (fun tv iv wr => ∃ (k : Nat) (M : List Nat) (q : Option Addr) (cq : Nat), k ≤ 0 ∧ iv = .int .i64 (k : Nat) ∧ tv = .slice q M.length cq ∧ Hid (M = N ++ (encN c).take (0 + 1 - k)) ∧ Hid (M.length ≤ 100010) ∧ Hid (Own wr B 5 .u8 (.slice q M.length cq) M) ∧ Hid (Below B w wr)) (fun _ iv _ => (intOf iv).toNat)
      case atStart =>
        refine ⟨0, N ++ [c], some ⟨gg, 0, none⟩, cap, by omega, rfl, ?_, ?_, ?_, ?_, HB1⟩
        · rw [HLE.out]
        · show N ++ [c] = _
          rw [ENC.out]; rfl
        · show (N ++ [c]).length ≤ 100010
          have h1 := HLE.out
          have h2 := HN.out
          omega
        · show Own _ _ _ _ (.slice _ (N ++ [c]).length _) _
          rw [HLE.out]; exact HO1.out
      case round =>
        obtain ⟨k, M, q, cq, hk, rfl, rfl, HM, HML, HOK, HBK⟩ := hrel
        rename World => wr
        have HOK2 := HOK.out
        unfold Own at HOK2
        have HOK3 := Lib.hid HOK2
        clear HOK2
        obtain rfl : k = 0 := by omega
        · go_wp2
          go_ret
          refine ⟨_, rfl, ?_, HBK.out⟩
          have h1 := HM.out
          rw [ENC.out] at h1
          rw [ENC.out]
          have h2 : M = N ++ [c] := h1
          rw [← h2]; exact HOK.out

set_option maxHeartbeats 3200000 in
set_option maxRecDepth 100000 in
theorem put_1 (B : Nat) (p : Option Addr) (cp : Nat) (N : List Nat) (c : Nat) (w : World) (hS : SizesIn w) (ho : Own w B 5 .u8 (.slice p N.length cp) N) (hN : N.length ≤ 100000) (h1 : 128 ≤ c) (h2 : c ≤ 2047) (hB : B ≤ w.heap.size) (hG : 1 < B) :
    Calls Tryd.prog 29 #[.slice p N.length cp, .int .i64 (c : Nat)] w fun e w' => ∃ v, e = .returned v ∧ Own w' B 5 .u8 v (N ++ encN c) ∧ Below B w w' := by
  obtain ⟨i0, hinf, hz0, hz1, hz2⟩ := info_parts info_u8
  have c0 := hS.cell 0
  have c2 := hS.cell 2
  have c3 := hS.cell 3
  simp only [sizesC] at c0 c2 c3
  have ENC := Lib.hid (encN2 h1 h2)
  have g0 : (127 : Int) < c := by omega
  have gz : (c : Int) ≤ 2047 := by omega
  have gy : (0 : Int) ≤ c := by omega
  have HO := Lib.hid ho
  have HS := Lib.hid hS
  have HN := Lib.hid hN
  have hgz : 1 < w.heap.size := by omega
  have hne : (Value.slice p N.length cp).ownBlock ≠ some 1 := by
    intro e
    obtain ⟨p', c', e2, _, _, _, _, h6⟩ := own_form ho
    have := (h6 _ e).2
    omega
  have HNE := Lib.hid hne
  have HGZ := Lib.hid hgz
  have HB := Lib.hid hB
  clear hne hgz ho hS hN h1 hB
  go_enter Tryd.func29, Tryd.ntmps29
  go_wp2
  go_loop [5] (fun iv => ∃ k : Nat, k ≤ 1 ∧ iv = .int .i64 (k : Nat)) (fun iv => 1 - (intOf iv).toNat)
  case atStart => exact ⟨0, by omega, rfl⟩
  case round =>
    obtain ⟨k, hk, rfl⟩ := hrel
    rcases (show k = 0 ∨ k = 1 by omega) with rfl | rfl
    · go_wp2
      go_round
      case rel => exact ⟨1, by omega, by first | rfl | go_num⟩
      case measure => simp [intOf]
    · go_wp2
      have hwS : IntKind.i64.wrap 6 = 6 := by decide
      have HO2 := HO.out
      unfold Own at HO2
      have HO3 := Lib.hid HO2
      clear HO2
      go_region_held3 (fun w' => w'.cell? ⟨1, 3, none⟩ = some (.int .u8 192)) (first | go_keep | assumption | ((rw [hgrow.cell_far _ (by have := HGZ.out; simp; omega) (Ne.symm HNE.out)]; assumption))) ((refine step_append_lies _ (by rfl) _ _ _ (by rfl) B 5 i0 _ 1 1 Tryd.underlying23 hinf hz0 hz1 hz2 rfl (by omega) (.slice p N.length cp) N.length _ (by rfl) ((HO3.out.alloc _).drew) ⟨w.heap.size, 0, none⟩ 1 1 [.int .u8 (bits BinOp.or IntKind.u8 192 (IntKind.u8.wrap ((c : Int) / 64)))] (by rfl) (by rfl) (World.news_of_block (cs := #[.int .u8 (bits BinOp.or IntKind.u8 192 (IntKind.u8.wrap ((c : Int) / 64)))]) (t := 5) (fr := (0, 0)) (heap_alloc_new w _)) (by simp [Value.oneCell']) (by omega) (by have := HN.out; simp only [maxLen]; omega) (by have := HN.out; omega) (by have := HB.out; simp; omega) (w.heap.size + 1) (by simp) ?_; intro gg cap w1 hown1 hgrow hat hlt))
      have hO1 : Own w1 B 5 .u8 (.slice (some ⟨gg, 0, none⟩) (N.length + 1) cap) (N ++ [192 + c / 64]) := by
        have e : (bits BinOp.or IntKind.u8 192 (IntKind.u8.wrap ((c : Int) / 64))) = ((192 + c / 64 : Nat) : Int) := or_mark 3 6 (c / 64) 192 _ (by decide) (by omega) (by omega) (by omega)
        rw [e] at hown1
        exact own_appended rfl hown1
      have hb1 : Below B w w1 := (((Below.refl B w).alloc HB.out _).drew).grown hgrow (by have := HB.out; simp; omega) (fun k hk => (HO3.out.lt k hk).1)
      have HO1 := Lib.hid hO1
      have HB1 := Lib.hid hb1
      have HLE := Lib.hid (show (N ++ [192 + c / 64]).length = N.length + 1 by rw [List.length_append]; rfl)
      clear hown1 hgrow hat hO1 hb1
      go_wp2
      go_loopw [0, 5] (fun tv iv wr => ∃ (k : Nat) (M : List Nat) (q : Option Addr) (cq : Nat), k ≤ 1 ∧ iv = .int .i64 (k : Nat) ∧ tv = .slice q M.length cq ∧ Hid (M = N ++ (encN c).take (1 + 1 - k)) ∧ Hid (M.length ≤ 100010) ∧ Hid (Own wr B 5 .u8 (.slice q M.length cq) M) ∧ Hid (Below B w wr)) (fun _ iv _ => (intOf iv).toNat)
      case atStart =>
        refine ⟨1, N ++ [192 + c / 64], some ⟨gg, 0, none⟩, cap, by omega, rfl, ?_, ?_, ?_, ?_, HB1⟩
        · rw [HLE.out]
        · show N ++ [192 + c / 64] = _
          rw [ENC.out]; rfl
        · show (N ++ [192 + c / 64]).length ≤ 100010
          have h1 := HLE.out
          have h2 := HN.out
          omega
        · show Own _ _ _ _ (.slice _ (N ++ [192 + c / 64]).length _) _
          rw [HLE.out]; exact HO1.out
      case round =>
        obtain ⟨k, M, q, cq, hk, rfl, rfl, HM, HML, HOK, HBK⟩ := hrel
        rename World => wr
        have HOK2 := HOK.out
        unfold Own at HOK2
        have HOK3 := Lib.hid HOK2
        clear HOK2
        rcases (show k = 1 ∨ k = 0 by omega) with rfl | rfl
        · go_wp2_with (at_builtin; refine wpList_append_own _ rfl _ _ 23 rfl B 5 i0 (.int .u8 0) 1 1 Tryd.underlying23 hinf hz0 hz1 hz2 rfl (by decide) (.slice q M.length cq) M.length _ rfl (HOK3.out.alloc _) ⟨wr.heap.size, 0, none⟩ 1 1 [.int .u8 (bits BinOp.or IntKind.u8 128 (bits BinOp.and IntKind.i64 ((c : Int)) 63 % 256))] rfl rfl ?c1_1 ?c1_2 ?c1_3 ?c1_4 ?c1_5 ?_)
          case c1_1 => exact cell_one_new _ _ _
          case c1_2 => simp [Value.oneCell']
          case c1_3 => have := HML.out; simp only [maxLen]; omega
          case c1_4 => have := HML.out; omega
          case c1_5 => have h1 := HBK.out.size; have h2 := HB.out; simp; omega
          intro v' w5 hown5 hgrow5 _
          have hX : (bits BinOp.or IntKind.u8 128 (bits BinOp.and IntKind.i64 ((c : Int)) 63 % 256)) = ((128 + c % 64 : Nat) : Int) := or_six8 _ _ (by omega) (by first | rfl | omega)
          rw [hX] at hown5
          have hO5 := own_appended rfl hown5
          have hb5 : Below B w w5 := (HBK.out.alloc (by have h1 := HBK.out.size; have h2 := HB.out; omega) _).grown hgrow5 (by have h1 := HBK.out.size; have h2 := HB.out; simp; omega) (fun k hk => (HOK3.out.lt k hk).1)
          obtain ⟨p', c5, hs'⟩ : ∃ p' c5, v' = .slice p' (M ++ [128 + c % 64]).length c5 := by
            obtain ⟨p', c5, hs', _⟩ := own_form hO5
            exact ⟨p', c5, hs'⟩
          rw [hs'] at hO5 ⊢
          have HO5 := Lib.hid hO5
          have HB5 := Lib.hid hb5
          have HM5 : Hid (M ++ [128 + c % 64] = N ++ (encN c).take (1 + 1 - 0)) := by
            show M ++ [128 + c % 64] = _
            rw [HM.out, ENC.out, List.append_assoc]; rfl
          have HML5 : Hid ((M ++ [128 + c % 64]).length ≤ 100010) := by
            show (M ++ [128 + c % 64]).length ≤ 100010
            rw [HM5.out, ENC.out, List.length_append]
            have := HN.out
            simp; omega
          clear hs' hown5 hgrow5 hO5 hb5
          generalize M ++ [128 + c % 64] = M5 at *
          go_wp2
          go_roundw
          case rel => exact ⟨0, M5, p', c5, by omega, by first | rfl | go_num, rfl, HM5, HML5, HO5, HB5⟩
          case measure => simp [intOf]
        · go_wp2
          go_ret
          refine ⟨_, rfl, ?_, HBK.out⟩
          have h1 := HM.out
          rw [ENC.out] at h1
          rw [ENC.out]
          have h2 : M = N ++ [192 + c / 64, 128 + c % 64] := h1
          rw [← h2]; exact HOK.out

set_option maxHeartbeats 3200000 in
set_option maxRecDepth 100000 in
theorem put_2 (B : Nat) (p : Option Addr) (cp : Nat) (N : List Nat) (c : Nat) (w : World) (hS : SizesIn w) (ho : Own w B 5 .u8 (.slice p N.length cp) N) (hN : N.length ≤ 100000) (h1 : 2048 ≤ c) (h2 : c ≤ 65535) (hB : B ≤ w.heap.size) (hG : 1 < B) :
    Calls Tryd.prog 29 #[.slice p N.length cp, .int .i64 (c : Nat)] w fun e w' => ∃ v, e = .returned v ∧ Own w' B 5 .u8 v (N ++ encN c) ∧ Below B w w' := by
  obtain ⟨i0, hinf, hz0, hz1, hz2⟩ := info_parts info_u8
  have c0 := hS.cell 0
  have c2 := hS.cell 2
  have c4 := hS.cell 4
  have c5 := hS.cell 5
  simp only [sizesC] at c0 c2 c4 c5
  have ENC := Lib.hid (encN3 h1 h2)
  have g0 : (127 : Int) < c := by omega
  have g1 : (2047 : Int) < c := by omega
  have gz : (c : Int) ≤ 65535 := by omega
  have gy : (0 : Int) ≤ c := by omega
  have HO := Lib.hid ho
  have HS := Lib.hid hS
  have HN := Lib.hid hN
  have hgz : 1 < w.heap.size := by omega
  have hne : (Value.slice p N.length cp).ownBlock ≠ some 1 := by
    intro e
    obtain ⟨p', c', e2, _, _, _, _, h6⟩ := own_form ho
    have := (h6 _ e).2
    omega
  have HNE := Lib.hid hne
  have HGZ := Lib.hid hgz
  have HB := Lib.hid hB
  clear hne hgz ho hS hN h1 hB
  go_enter Tryd.func29, Tryd.ntmps29
  go_wp2
  go_loop [5] (fun iv => ∃ k : Nat, k ≤ 2 ∧ iv = .int .i64 (k : Nat)) (fun iv => 2 - (intOf iv).toNat)
  case atStart => exact ⟨0, by omega, rfl⟩
  case round =>
    obtain ⟨k, hk, rfl⟩ := hrel
    rcases (show k = 0 ∨ k = 1 ∨ k = 2 by omega) with rfl | rfl | rfl
    · go_wp2
      go_round
      case rel => exact ⟨1, by omega, by first | rfl | go_num⟩
      case measure => simp [intOf]
    · go_wp2
      go_round
      case rel => exact ⟨2, by omega, by first | rfl | go_num⟩
      case measure => simp [intOf]
    · go_wp2
      have hwS : IntKind.i64.wrap 12 = 12 := by decide
      have HO2 := HO.out
      unfold Own at HO2
      have HO3 := Lib.hid HO2
      clear HO2
      go_region_held3 (fun w' => w'.cell? ⟨1, 5, none⟩ = some (.int .u8 224)) (first | go_keep | assumption | ((rw [hgrow.cell_far _ (by have := HGZ.out; simp; omega) (Ne.symm HNE.out)]; assumption))) ((refine step_append_lies _ (by rfl) _ _ _ (by rfl) B 5 i0 _ 1 1 Tryd.underlying23 hinf hz0 hz1 hz2 rfl (by omega) (.slice p N.length cp) N.length _ (by rfl) ((HO3.out.alloc _).drew) ⟨w.heap.size, 0, none⟩ 1 1 [.int .u8 (bits BinOp.or IntKind.u8 224 (IntKind.u8.wrap ((c : Int) / 4096)))] (by rfl) (by rfl) (World.news_of_block (cs := #[.int .u8 (bits BinOp.or IntKind.u8 224 (IntKind.u8.wrap ((c : Int) / 4096)))]) (t := 5) (fr := (0, 0)) (heap_alloc_new w _)) (by simp [Value.oneCell']) (by omega) (by have := HN.out; simp only [maxLen]; omega) (by have := HN.out; omega) (by have := HB.out; simp; omega) (w.heap.size + 1) (by simp) ?_; intro gg cap w1 hown1 hgrow hat hlt))
      have hO1 : Own w1 B 5 .u8 (.slice (some ⟨gg, 0, none⟩) (N.length + 1) cap) (N ++ [224 + c / 4096]) := by
        have e : (bits BinOp.or IntKind.u8 224 (IntKind.u8.wrap ((c : Int) / 4096))) = ((224 + c / 4096 : Nat) : Int) := or_mark 7 5 (c / 4096) 224 _ (by decide) (by omega) (by omega) (by omega)
        rw [e] at hown1
        exact own_appended rfl hown1
      have hb1 : Below B w w1 := (((Below.refl B w).alloc HB.out _).drew).grown hgrow (by have := HB.out; simp; omega) (fun k hk => (HO3.out.lt k hk).1)
      have HO1 := Lib.hid hO1
      have HB1 := Lib.hid hb1
      have HLE := Lib.hid (show (N ++ [224 + c / 4096]).length = N.length + 1 by rw [List.length_append]; rfl)
      clear hown1 hgrow hat hO1 hb1
      go_wp2
      go_loopw [0, 5] (fun tv iv wr => ∃ (k : Nat) (M : List Nat) (q : Option Addr) (cq : Nat), k ≤ 2 ∧ iv = .int .i64 (k : Nat) ∧ tv = .slice q M.length cq ∧ Hid (M = N ++ (encN c).take (2 + 1 - k)) ∧ Hid (M.length ≤ 100010) ∧ Hid (Own wr B 5 .u8 (.slice q M.length cq) M) ∧ Hid (Below B w wr)) (fun _ iv _ => (intOf iv).toNat)
      case atStart =>
        refine ⟨2, N ++ [224 + c / 4096], some ⟨gg, 0, none⟩, cap, by omega, rfl, ?_, ?_, ?_, ?_, HB1⟩
        · rw [HLE.out]
        · show N ++ [224 + c / 4096] = _
          rw [ENC.out]; rfl
        · show (N ++ [224 + c / 4096]).length ≤ 100010
          have h1 := HLE.out
          have h2 := HN.out
          omega
        · show Own _ _ _ _ (.slice _ (N ++ [224 + c / 4096]).length _) _
          rw [HLE.out]; exact HO1.out
      case round =>
        obtain ⟨k, M, q, cq, hk, rfl, rfl, HM, HML, HOK, HBK⟩ := hrel
        rename World => wr
        have HOK2 := HOK.out
        unfold Own at HOK2
        have HOK3 := Lib.hid HOK2
        clear HOK2
        rcases (show k = 2 ∨ k = 1 ∨ k = 0 by omega) with rfl | rfl | rfl
        · go_wp2_with (at_builtin; refine wpList_append_own _ rfl _ _ 23 rfl B 5 i0 (.int .u8 0) 1 1 Tryd.underlying23 hinf hz0 hz1 hz2 rfl (by decide) (.slice q M.length cq) M.length _ rfl (HOK3.out.alloc _) ⟨wr.heap.size, 0, none⟩ 1 1 [.int .u8 (bits BinOp.or IntKind.u8 128 (bits BinOp.and IntKind.i64 ((c : Int) / 64) 63 % 256))] rfl rfl ?c1_1 ?c1_2 ?c1_3 ?c1_4 ?c1_5 ?_)
          case c1_1 => exact cell_one_new _ _ _
          case c1_2 => simp [Value.oneCell']
          case c1_3 => have := HML.out; simp only [maxLen]; omega
          case c1_4 => have := HML.out; omega
          case c1_5 => have h1 := HBK.out.size; have h2 := HB.out; simp; omega
          intro v' w5 hown5 hgrow5 _
          have hX : (bits BinOp.or IntKind.u8 128 (bits BinOp.and IntKind.i64 ((c : Int) / 64) 63 % 256)) = ((128 + c / 64 % 64 : Nat) : Int) := or_six8 _ _ (by omega) (by first | rfl | omega)
          rw [hX] at hown5
          have hO5 := own_appended rfl hown5
          have hb5 : Below B w w5 := (HBK.out.alloc (by have h1 := HBK.out.size; have h2 := HB.out; omega) _).grown hgrow5 (by have h1 := HBK.out.size; have h2 := HB.out; simp; omega) (fun k hk => (HOK3.out.lt k hk).1)
          obtain ⟨p', c5, hs'⟩ : ∃ p' c5, v' = .slice p' (M ++ [128 + c / 64 % 64]).length c5 := by
            obtain ⟨p', c5, hs', _⟩ := own_form hO5
            exact ⟨p', c5, hs'⟩
          rw [hs'] at hO5 ⊢
          have HO5 := Lib.hid hO5
          have HB5 := Lib.hid hb5
          have HM5 : Hid (M ++ [128 + c / 64 % 64] = N ++ (encN c).take (2 + 1 - 1)) := by
            show M ++ [128 + c / 64 % 64] = _
            rw [HM.out, ENC.out, List.append_assoc]; rfl
          have HML5 : Hid ((M ++ [128 + c / 64 % 64]).length ≤ 100010) := by
            show (M ++ [128 + c / 64 % 64]).length ≤ 100010
            rw [HM5.out, ENC.out, List.length_append]
            have := HN.out
            simp; omega
          clear hs' hown5 hgrow5 hO5 hb5
          generalize M ++ [128 + c / 64 % 64] = M5 at *
          go_wp2
          go_roundw
          case rel => exact ⟨1, M5, p', c5, by omega, by first | rfl | go_num, rfl, HM5, HML5, HO5, HB5⟩
          case measure => simp [intOf]
        · go_wp2_with (at_builtin; refine wpList_append_own _ rfl _ _ 23 rfl B 5 i0 (.int .u8 0) 1 1 Tryd.underlying23 hinf hz0 hz1 hz2 rfl (by decide) (.slice q M.length cq) M.length _ rfl (HOK3.out.alloc _) ⟨wr.heap.size, 0, none⟩ 1 1 [.int .u8 (bits BinOp.or IntKind.u8 128 (bits BinOp.and IntKind.i64 ((c : Int)) 63 % 256))] rfl rfl ?c2_1 ?c2_2 ?c2_3 ?c2_4 ?c2_5 ?_)
          case c2_1 => exact cell_one_new _ _ _
          case c2_2 => simp [Value.oneCell']
          case c2_3 => have := HML.out; simp only [maxLen]; omega
          case c2_4 => have := HML.out; omega
          case c2_5 => have h1 := HBK.out.size; have h2 := HB.out; simp; omega
          intro v' w5 hown5 hgrow5 _
          have hX : (bits BinOp.or IntKind.u8 128 (bits BinOp.and IntKind.i64 ((c : Int)) 63 % 256)) = ((128 + c % 64 : Nat) : Int) := or_six8 _ _ (by omega) (by first | rfl | omega)
          rw [hX] at hown5
          have hO5 := own_appended rfl hown5
          have hb5 : Below B w w5 := (HBK.out.alloc (by have h1 := HBK.out.size; have h2 := HB.out; omega) _).grown hgrow5 (by have h1 := HBK.out.size; have h2 := HB.out; simp; omega) (fun k hk => (HOK3.out.lt k hk).1)
          obtain ⟨p', c5, hs'⟩ : ∃ p' c5, v' = .slice p' (M ++ [128 + c % 64]).length c5 := by
            obtain ⟨p', c5, hs', _⟩ := own_form hO5
            exact ⟨p', c5, hs'⟩
          rw [hs'] at hO5 ⊢
          have HO5 := Lib.hid hO5
          have HB5 := Lib.hid hb5
          have HM5 : Hid (M ++ [128 + c % 64] = N ++ (encN c).take (2 + 1 - 0)) := by
            show M ++ [128 + c % 64] = _
            rw [HM.out, ENC.out, List.append_assoc]; rfl
          have HML5 : Hid ((M ++ [128 + c % 64]).length ≤ 100010) := by
            show (M ++ [128 + c % 64]).length ≤ 100010
            rw [HM5.out, ENC.out, List.length_append]
            have := HN.out
            simp; omega
          clear hs' hown5 hgrow5 hO5 hb5
          generalize M ++ [128 + c % 64] = M5 at *
          go_wp2
          go_roundw
          case rel => exact ⟨0, M5, p', c5, by omega, by first | rfl | go_num, rfl, HM5, HML5, HO5, HB5⟩
          case measure => simp [intOf]
        · go_wp2
          go_ret
          refine ⟨_, rfl, ?_, HBK.out⟩
          have h1 := HM.out
          rw [ENC.out] at h1
          rw [ENC.out]
          have h2 : M = N ++ [224 + c / 4096, 128 + c / 64 % 64, 128 + c % 64] := h1
          rw [← h2]; exact HOK.out

set_option maxHeartbeats 3200000 in
set_option maxRecDepth 100000 in
theorem put_3 (B : Nat) (p : Option Addr) (cp : Nat) (N : List Nat) (c : Nat) (w : World) (hS : SizesIn w) (ho : Own w B 5 .u8 (.slice p N.length cp) N) (hN : N.length ≤ 100000) (h1 : 65536 ≤ c) (h2 : c ≤ 1114111) (hB : B ≤ w.heap.size) (hG : 1 < B) :
    Calls Tryd.prog 29 #[.slice p N.length cp, .int .i64 (c : Nat)] w fun e w' => ∃ v, e = .returned v ∧ Own w' B 5 .u8 v (N ++ encN c) ∧ Below B w w' := by
  obtain ⟨i0, hinf, hz0, hz1, hz2⟩ := info_parts info_u8
  have c0 := hS.cell 0
  have c2 := hS.cell 2
  have c4 := hS.cell 4
  have c6 := hS.cell 6
  have c7 := hS.cell 7
  simp only [sizesC] at c0 c2 c4 c6 c7
  have ENC := Lib.hid (encN4 h1)
  have g0 : (127 : Int) < c := by omega
  have g1 : (2047 : Int) < c := by omega
  have g2 : (65535 : Int) < c := by omega
  have gz : (c : Int) ≤ 1114111 := by omega
  have gy : (0 : Int) ≤ c := by omega
  have HO := Lib.hid ho
  have HS := Lib.hid hS
  have HN := Lib.hid hN
  have hgz : 1 < w.heap.size := by omega
  have hne : (Value.slice p N.length cp).ownBlock ≠ some 1 := by
    intro e
    obtain ⟨p', c', e2, _, _, _, _, h6⟩ := own_form ho
    have := (h6 _ e).2
    omega
  have HNE := Lib.hid hne
  have HGZ := Lib.hid hgz
  have HB := Lib.hid hB
  clear hne hgz ho hS hN h1 hB
  go_enter Tryd.func29, Tryd.ntmps29
  go_wp2
  go_loop [5] (fun iv => ∃ k : Nat, k ≤ 3 ∧ iv = .int .i64 (k : Nat)) (fun iv => 3 - (intOf iv).toNat)
  case atStart => exact ⟨0, by omega, rfl⟩
  case round =>
    obtain ⟨k, hk, rfl⟩ := hrel
    rcases (show k = 0 ∨ k = 1 ∨ k = 2 ∨ k = 3 by omega) with rfl | rfl | rfl | rfl
    · go_wp2
      go_round
      case rel => exact ⟨1, by omega, by first | rfl | go_num⟩
      case measure => simp [intOf]
    · go_wp2
      go_round
      case rel => exact ⟨2, by omega, by first | rfl | go_num⟩
      case measure => simp [intOf]
    · go_wp2
      go_round
      case rel => exact ⟨3, by omega, by first | rfl | go_num⟩
      case measure => simp [intOf]
    · go_wp2
      have hwS : IntKind.i64.wrap 18 = 18 := by decide
      have HO2 := HO.out
      unfold Own at HO2
      have HO3 := Lib.hid HO2
      clear HO2
      go_region_held3 (fun w' => w'.cell? ⟨1, 7, none⟩ = some (.int .u8 240)) (first | go_keep | assumption | ((rw [hgrow.cell_far _ (by have := HGZ.out; simp; omega) (Ne.symm HNE.out)]; assumption))) ((refine step_append_lies _ (by rfl) _ _ _ (by rfl) B 5 i0 _ 1 1 Tryd.underlying23 hinf hz0 hz1 hz2 rfl (by omega) (.slice p N.length cp) N.length _ (by rfl) ((HO3.out.alloc _).drew) ⟨w.heap.size, 0, none⟩ 1 1 [.int .u8 (bits BinOp.or IntKind.u8 240 (IntKind.u8.wrap ((c : Int) / 262144)))] (by rfl) (by rfl) (World.news_of_block (cs := #[.int .u8 (bits BinOp.or IntKind.u8 240 (IntKind.u8.wrap ((c : Int) / 262144)))]) (t := 5) (fr := (0, 0)) (heap_alloc_new w _)) (by simp [Value.oneCell']) (by omega) (by have := HN.out; simp only [maxLen]; omega) (by have := HN.out; omega) (by have := HB.out; simp; omega) (w.heap.size + 1) (by simp) ?_; intro gg cap w1 hown1 hgrow hat hlt))
      have hO1 : Own w1 B 5 .u8 (.slice (some ⟨gg, 0, none⟩) (N.length + 1) cap) (N ++ [240 + c / 262144]) := by
        have e : (bits BinOp.or IntKind.u8 240 (IntKind.u8.wrap ((c : Int) / 262144))) = ((240 + c / 262144 : Nat) : Int) := or_mark 15 4 (c / 262144) 240 _ (by decide) (by omega) (by omega) (by omega)
        rw [e] at hown1
        exact own_appended rfl hown1
      have hb1 : Below B w w1 := (((Below.refl B w).alloc HB.out _).drew).grown hgrow (by have := HB.out; simp; omega) (fun k hk => (HO3.out.lt k hk).1)
      have HO1 := Lib.hid hO1
      have HB1 := Lib.hid hb1
      have HLE := Lib.hid (show (N ++ [240 + c / 262144]).length = N.length + 1 by rw [List.length_append]; rfl)
      clear hown1 hgrow hat hO1 hb1
      go_wp2
      go_loopw [0, 5] (fun tv iv wr => ∃ (k : Nat) (M : List Nat) (q : Option Addr) (cq : Nat), k ≤ 3 ∧ iv = .int .i64 (k : Nat) ∧ tv = .slice q M.length cq ∧ Hid (M = N ++ (encN c).take (3 + 1 - k)) ∧ Hid (M.length ≤ 100010) ∧ Hid (Own wr B 5 .u8 (.slice q M.length cq) M) ∧ Hid (Below B w wr)) (fun _ iv _ => (intOf iv).toNat)
      case atStart =>
        refine ⟨3, N ++ [240 + c / 262144], some ⟨gg, 0, none⟩, cap, by omega, rfl, ?_, ?_, ?_, ?_, HB1⟩
        · rw [HLE.out]
        · show N ++ [240 + c / 262144] = _
          rw [ENC.out]; rfl
        · show (N ++ [240 + c / 262144]).length ≤ 100010
          have h1 := HLE.out
          have h2 := HN.out
          omega
        · show Own _ _ _ _ (.slice _ (N ++ [240 + c / 262144]).length _) _
          rw [HLE.out]; exact HO1.out
      case round =>
        obtain ⟨k, M, q, cq, hk, rfl, rfl, HM, HML, HOK, HBK⟩ := hrel
        rename World => wr
        have HOK2 := HOK.out
        unfold Own at HOK2
        have HOK3 := Lib.hid HOK2
        clear HOK2
        rcases (show k = 3 ∨ k = 2 ∨ k = 1 ∨ k = 0 by omega) with rfl | rfl | rfl | rfl
        · go_wp2_with (at_builtin; refine wpList_append_own _ rfl _ _ 23 rfl B 5 i0 (.int .u8 0) 1 1 Tryd.underlying23 hinf hz0 hz1 hz2 rfl (by decide) (.slice q M.length cq) M.length _ rfl (HOK3.out.alloc _) ⟨wr.heap.size, 0, none⟩ 1 1 [.int .u8 (bits BinOp.or IntKind.u8 128 (bits BinOp.and IntKind.i64 ((c : Int) / 4096) 63 % 256))] rfl rfl ?c1_1 ?c1_2 ?c1_3 ?c1_4 ?c1_5 ?_)
          case c1_1 => exact cell_one_new _ _ _
          case c1_2 => simp [Value.oneCell']
          case c1_3 => have := HML.out; simp only [maxLen]; omega
          case c1_4 => have := HML.out; omega
          case c1_5 => have h1 := HBK.out.size; have h2 := HB.out; simp; omega
          intro v' w5 hown5 hgrow5 _
          have hX : (bits BinOp.or IntKind.u8 128 (bits BinOp.and IntKind.i64 ((c : Int) / 4096) 63 % 256)) = ((128 + c / 4096 % 64 : Nat) : Int) := or_six8 _ _ (by omega) (by first | rfl | omega)
          rw [hX] at hown5
          have hO5 := own_appended rfl hown5
          have hb5 : Below B w w5 := (HBK.out.alloc (by have h1 := HBK.out.size; have h2 := HB.out; omega) _).grown hgrow5 (by have h1 := HBK.out.size; have h2 := HB.out; simp; omega) (fun k hk => (HOK3.out.lt k hk).1)
          obtain ⟨p', c5, hs'⟩ : ∃ p' c5, v' = .slice p' (M ++ [128 + c / 4096 % 64]).length c5 := by
            obtain ⟨p', c5, hs', _⟩ := own_form hO5
            exact ⟨p', c5, hs'⟩
          rw [hs'] at hO5 ⊢
          have HO5 := Lib.hid hO5
          have HB5 := Lib.hid hb5
          have HM5 : Hid (M ++ [128 + c / 4096 % 64] = N ++ (encN c).take (3 + 1 - 2)) := by
            show M ++ [128 + c / 4096 % 64] = _
            rw [HM.out, ENC.out, List.append_assoc]; rfl
          have HML5 : Hid ((M ++ [128 + c / 4096 % 64]).length ≤ 100010) := by
            show (M ++ [128 + c / 4096 % 64]).length ≤ 100010
            rw [HM5.out, ENC.out, List.length_append]
            have := HN.out
            simp; omega
          clear hs' hown5 hgrow5 hO5 hb5
          generalize M ++ [128 + c / 4096 % 64] = M5 at *
          go_wp2
          go_roundw
          case rel => exact ⟨2, M5, p', c5, by omega, by first | rfl | go_num, rfl, HM5, HML5, HO5, HB5⟩
          case measure => simp [intOf]
        · go_wp2_with (at_builtin; refine wpList_append_own _ rfl _ _ 23 rfl B 5 i0 (.int .u8 0) 1 1 Tryd.underlying23 hinf hz0 hz1 hz2 rfl (by decide) (.slice q M.length cq) M.length _ rfl (HOK3.out.alloc _) ⟨wr.heap.size, 0, none⟩ 1 1 [.int .u8 (bits BinOp.or IntKind.u8 128 (bits BinOp.and IntKind.i64 ((c : Int) / 64) 63 % 256))] rfl rfl ?c2_1 ?c2_2 ?c2_3 ?c2_4 ?c2_5 ?_)
          case c2_1 => exact cell_one_new _ _ _
          case c2_2 => simp [Value.oneCell']
          case c2_3 => have := HML.out; simp only [maxLen]; omega
          case c2_4 => have := HML.out; omega
          case c2_5 => have h1 := HBK.out.size; have h2 := HB.out; simp; omega
          intro v' w5 hown5 hgrow5 _
          have hX : (bits BinOp.or IntKind.u8 128 (bits BinOp.and IntKind.i64 ((c : Int) / 64) 63 % 256)) = ((128 + c / 64 % 64 : Nat) : Int) := or_six8 _ _ (by omega) (by first | rfl | omega)
          rw [hX] at hown5
          have hO5 := own_appended rfl hown5
          have hb5 : Below B w w5 := (HBK.out.alloc (by have h1 := HBK.out.size; have h2 := HB.out; omega) _).grown hgrow5 (by have h1 := HBK.out.size; have h2 := HB.out; simp; omega) (fun k hk => (HOK3.out.lt k hk).1)
          obtain ⟨p', c5, hs'⟩ : ∃ p' c5, v' = .slice p' (M ++ [128 + c / 64 % 64]).length c5 := by
            obtain ⟨p', c5, hs', _⟩ := own_form hO5
            exact ⟨p', c5, hs'⟩
          rw [hs'] at hO5 ⊢
          have HO5 := Lib.hid hO5
          have HB5 := Lib.hid hb5
          have HM5 : Hid (M ++ [128 + c / 64 % 64] = N ++ (encN c).take (3 + 1 - 1)) := by
            show M ++ [128 + c / 64 % 64] = _
            rw [HM.out, ENC.out, List.append_assoc]; rfl
          have HML5 : Hid ((M ++ [128 + c / 64 % 64]).length ≤ 100010) := by
            show (M ++ [128 + c / 64 % 64]).length ≤ 100010
            rw [HM5.out, ENC.out, List.length_append]
            have := HN.out
            simp; omega
          clear hs' hown5 hgrow5 hO5 hb5
          generalize M ++ [128 + c / 64 % 64] = M5 at *
          go_wp2
          go_roundw
          case rel => exact ⟨1, M5, p', c5, by omega, by first | rfl | go_num, rfl, HM5, HML5, HO5, HB5⟩
          case measure => simp [intOf]
        · go_wp2_with (at_builtin; refine wpList_append_own _ rfl _ _ 23 rfl B 5 i0 (.int .u8 0) 1 1 Tryd.underlying23 hinf hz0 hz1 hz2 rfl (by decide) (.slice q M.length cq) M.length _ rfl (HOK3.out.alloc _) ⟨wr.heap.size, 0, none⟩ 1 1 [.int .u8 (bits BinOp.or IntKind.u8 128 (bits BinOp.and IntKind.i64 ((c : Int)) 63 % 256))] rfl rfl ?c3_1 ?c3_2 ?c3_3 ?c3_4 ?c3_5 ?_)
          case c3_1 => exact cell_one_new _ _ _
          case c3_2 => simp [Value.oneCell']
          case c3_3 => have := HML.out; simp only [maxLen]; omega
          case c3_4 => have := HML.out; omega
          case c3_5 => have h1 := HBK.out.size; have h2 := HB.out; simp; omega
          intro v' w5 hown5 hgrow5 _
          have hX : (bits BinOp.or IntKind.u8 128 (bits BinOp.and IntKind.i64 ((c : Int)) 63 % 256)) = ((128 + c % 64 : Nat) : Int) := or_six8 _ _ (by omega) (by first | rfl | omega)
          rw [hX] at hown5
          have hO5 := own_appended rfl hown5
          have hb5 : Below B w w5 := (HBK.out.alloc (by have h1 := HBK.out.size; have h2 := HB.out; omega) _).grown hgrow5 (by have h1 := HBK.out.size; have h2 := HB.out; simp; omega) (fun k hk => (HOK3.out.lt k hk).1)
          obtain ⟨p', c5, hs'⟩ : ∃ p' c5, v' = .slice p' (M ++ [128 + c % 64]).length c5 := by
            obtain ⟨p', c5, hs', _⟩ := own_form hO5
            exact ⟨p', c5, hs'⟩
          rw [hs'] at hO5 ⊢
          have HO5 := Lib.hid hO5
          have HB5 := Lib.hid hb5
          have HM5 : Hid (M ++ [128 + c % 64] = N ++ (encN c).take (3 + 1 - 0)) := by
            show M ++ [128 + c % 64] = _
            rw [HM.out, ENC.out, List.append_assoc]; rfl
          have HML5 : Hid ((M ++ [128 + c % 64]).length ≤ 100010) := by
            show (M ++ [128 + c % 64]).length ≤ 100010
            rw [HM5.out, ENC.out, List.length_append]
            have := HN.out
            simp; omega
          clear hs' hown5 hgrow5 hO5 hb5
          generalize M ++ [128 + c % 64] = M5 at *
          go_wp2
          go_roundw
          case rel => exact ⟨0, M5, p', c5, by omega, by first | rfl | go_num, rfl, HM5, HML5, HO5, HB5⟩
          case measure => simp [intOf]
        · go_wp2
          go_ret
          refine ⟨_, rfl, ?_, HBK.out⟩
          have h1 := HM.out
          rw [ENC.out] at h1
          rw [ENC.out]
          have h2 : M = N ++ [240 + c / 262144, 128 + c / 4096 % 64, 128 + c / 64 % 64, 128 + c % 64] := h1
          rw [← h2]; exact HOK.out

end Go.Proofs.YtalnfbbggmhbfaaDoor
