/- The walk of PointsBytes: it tells true. -/
import Derived.Test.YtalnfbbggmhbfaaDoorPzm
import Derived.Test.YtalnfbbggmhbfaaDoorShelf
namespace Go.Proofs.YtalnfbbggmhbfaaDoor
open Go.RowKit Tnd

theorem ofR_len (s : List UInt8) : (ofR s).1.length ≤ s.length := by
  have h := ofm_len s
  unfold ofR
  split
  · simp
  · split
    · rename_i l e; rw [e] at h; exact h
    · simp
theorem same2 (p q : Option Addr) (c d : Nat) (a : List Nat) (w : World) (hp : SlI w p (ints a)) (hq : SlI w q (ints a)) (hl : a.length ≤ 1000000) :
    Calls Tryd.prog 6 #[.slice p a.length c, .slice q a.length d] w fun e w' => e = .returned (.bool true) ∧ Below w.heap.size w w' := by
  have h1 := same_ints p q c d (ints a) (ints a) w hp hq (by rw [ints_length]; omega) (by rw [ints_length]; omega)
  rw [ints_length, decide_eq_true rfl] at h1
  exact h1.mono fun e w' ⟨h2, n, h3⟩ => ⟨h2, by rw [← h3]; exact bl_drewN _ _⟩
/-- the ends that are put behind. -/
def endsL : List ByteArray := [⟨#[]⟩, ⟨#[0]⟩, ⟨#[127]⟩, ⟨#[128]⟩, ⟨#[143]⟩, ⟨#[144]⟩, ⟨#[159]⟩, ⟨#[160]⟩, ⟨#[191]⟩, ⟨#[194]⟩]
def EndsIn (w : World) (b : Nat) : Prop := ∀ i, i < 10 → ∃ t : ByteArray, w.cell? ⟨b, i, none⟩ = some (.string t) ∧ t.size ≤ 1
theorem EndsIn.below {w w' : World} {b : Nat} (h : EndsIn w b) (hb : Below w.heap.size w w') : EndsIn w' b := fun i hi => by
  obtain ⟨t, h1, h2⟩ := h i hi
  exact ⟨t, by rw [hb.cell (World.block_lt_of_cell? w _ h1)]; exact h1, h2⟩
theorem ends_new (w : World) (T : TypeId) : EndsIn (w.alloc (.cells #[.string ⟨#[]⟩, .string ⟨#[0]⟩, .string ⟨#[127]⟩, .string ⟨#[128]⟩, .string ⟨#[143]⟩, .string ⟨#[144]⟩, .string ⟨#[159]⟩, .string ⟨#[160]⟩, .string ⟨#[191]⟩, .string ⟨#[194]⟩] T)) w.heap.size := by
  intro i hi
  rw [World.cell?_alloc_at _ _ _ _ rfl]
  match i, hi with
  | 0, _ => exact ⟨_, rfl, by decide⟩
  | 1, _ => exact ⟨_, rfl, by decide⟩
  | 2, _ => exact ⟨_, rfl, by decide⟩
  | 3, _ => exact ⟨_, rfl, by decide⟩
  | 4, _ => exact ⟨_, rfl, by decide⟩
  | 5, _ => exact ⟨_, rfl, by decide⟩
  | 6, _ => exact ⟨_, rfl, by decide⟩
  | 7, _ => exact ⟨_, rfl, by decide⟩
  | 8, _ => exact ⟨_, rfl, by decide⟩
  | 9, _ => exact ⟨_, rfl, by decide⟩

theorem conv2 (w : World) (a b : Nat) (ha : a < 256) (hb : b < 256) :
    (convert 23 9 (.slice (some ⟨w.heap.size, 0, none⟩) 2 2)).run Tryd.prog (w.alloc (.cells #[.int .u8 (a : Nat), .int .u8 (b : Nat)] 5)) = .ok (.string ⟨#[UInt8.ofNat a, UInt8.ofNat b]⟩) (w.alloc (.cells #[.int .u8 (a : Nat), .int .u8 (b : Nat)] 5)) := by
  have h := run_convert_bytes_back (P := Tryd.prog) (w.alloc (.cells #[.int .u8 (a : Nat), .int .u8 (b : Nat)] 5)) 23 9 5 ⟨w.heap.size, 0, none⟩ 2 [UInt8.ofNat a, UInt8.ofNat b] Tryd.underlying23 Tryd.underlying5 Tryd.underlying9 (fun j hj => by
    have e2 : (⟨w.heap.size, 0, none⟩ : Addr).add j = ⟨w.heap.size, j, none⟩ := by simp [Addr.add]; exact Eq.symm
    rw [e2, World.cell?_alloc_at _ _ _ _ rfl]
    match j, hj with
    | 0, _ => show some _ = some _; rw [show ([UInt8.ofNat a, UInt8.ofNat b])[0] = UInt8.ofNat a from rfl, u8_of _ ha]; rfl
    | 1, _ => show some _ = some _; rw [show ([UInt8.ofNat a, UInt8.ofNat b])[1] = UInt8.ofNat b from rfl, u8_of _ hb]; rfl)
  exact h

set_option maxHeartbeats 6400000 in
set_option maxRecDepth 100000 in
theorem bytes_true (w : World) (hL : LeadsIn w) (hS : SizesIn w) :
    Calls Tryd.prog 3 #[] w fun e w' => e = .returned (.bool true) ∧ Below w.heap.size w w' := by
  have HL := Lib.hid hL
  have HS := Lib.hid hS
  clear hL hS
  go_enter Tryd.func3, Tryd.ntmps3
  go_wp2_with fail
  have HE := Lib.hid (ends_new w 9)
  have HB := Lib.hid (bl_alloc w (.cells #[.string ⟨#[]⟩, .string ⟨#[0]⟩, .string ⟨#[127]⟩, .string ⟨#[128]⟩, .string ⟨#[143]⟩, .string ⟨#[144]⟩, .string ⟨#[159]⟩, .string ⟨#[160]⟩, .string ⟨#[191]⟩, .string ⟨#[194]⟩] 9))
  generalize w.alloc (.cells #[.string ⟨#[]⟩, .string ⟨#[0]⟩, .string ⟨#[127]⟩, .string ⟨#[128]⟩, .string ⟨#[143]⟩, .string ⟨#[144]⟩, .string ⟨#[159]⟩, .string ⟨#[160]⟩, .string ⟨#[191]⟩, .string ⟨#[194]⟩] 9) = w0 at *
  obtain ⟨be, hbe⟩ : ∃ be, be = w.heap.size := ⟨_, rfl⟩
  rw [← hbe] at HE ⊢
  have HBE := Lib.hid hbe
  clear hbe
  go_loopw [2] (fun av wr => ∃ a : Nat, a ≤ 256 ∧ av = .int .i64 a ∧ Hid (Below w0.heap.size w0 wr)) (fun av _ => 256 - (intOf av).toNat)
  case atStart => exact ⟨0, by omega, rfl, Below.refl _ _⟩
  case round =>
    obtain ⟨a, ha, rfl, HA⟩ := hrel
    rename World => wa
    by_cases ha2 : a < 256
    · have haI : (a : Int) < 256 := by omega
      go_wp2
      go_loopw [3] (fun bv wr => ∃ b : Nat, b ≤ 256 ∧ bv = .int .i64 b ∧ Hid (Below w0.heap.size w0 wr)) (fun bv _ => 256 - (intOf bv).toNat)
      case atStart => exact ⟨0, by omega, rfl, HA.out⟩
      case round =>
        clear HA
        obtain ⟨b, hb, rfl, HA⟩ := hrel
        rename World => wb
        by_cases hb2 : b < 256
        · have hbI : (b : Int) < 256 := by omega
          have hcv := conv2 wb a b ha2 hb2
          obtain ⟨s, hs⟩ : ∃ s : ByteArray, s = ⟨#[UInt8.ofNat a, UInt8.ofNat b]⟩ := ⟨_, rfl⟩
          rw [← hs] at hcv
          have HSZ := Lib.hid (show s.size ≤ 2 by rw [hs]; exact Nat.le_refl 2)
          clear hs
          go_wp2_with fail
          all_goals
            have HA2 := Lib.hid (HA.out.trans ((bl_alloc wb (.cells #[.int .u8 (a : Nat), .int .u8 (b : Nat)] 5)).mono HA.out.size))
            clear hcv HA
            try (rename ((_ == _) = false ∧ (_ == _) = false) => hx; clear hx)
            repeat (rename (¬ bits _ _ _ _ = _) => hy; clear hy)
            generalize wb.alloc (.cells #[.int .u8 (a : Nat), .int .u8 (b : Nat)] 5) = wc at *
          · skip
            go_loopw [6] (fun iv wr => ∃ i : Nat, i ≤ 10 ∧ iv = .int .i64 i ∧ Hid (Below w0.heap.size w0 wr)) (fun iv _ => 10 - (intOf iv).toNat)
            case atStart => exact ⟨0, by omega, rfl, HA2.out⟩
            case round =>
              obtain ⟨i, hi, rfl, HI⟩ := hrel
              rename World => wi
              by_cases hi2 : i < 10
              · have hiI : (i : Int) < 10 := by omega
                go_wp2
                go_loopw [7] (fun iv wr => ∃ k : Nat, k ≤ 10 ∧ iv = .int .i64 k ∧ Hid (Below w0.heap.size w0 wr)) (fun iv _ => 10 - (intOf iv).toNat)
                case atStart => exact ⟨0, by omega, rfl, HI.out⟩
                case round =>
                  clear HI
                  obtain ⟨k, hk, rfl, HI⟩ := hrel
                  rename World => wk
                  by_cases hk2 : k < 10
                  · have hkI : (k : Int) < 10 := by omega
                    obtain ⟨t1, ht1, hz1⟩ := HE.out.below HI.out i (by omega)
                    obtain ⟨t2, ht2, hz2⟩ := HE.out.below HI.out k (by omega)
                    have hsz : (s ++ t1 ++ t2).size ≤ 4 := by rw [ByteArray.size_append, ByteArray.size_append]; have := HSZ.out; omega
                    obtain ⟨⟨l, at_, z⟩, hr⟩ : ∃ r, r = ofR (s ++ t1 ++ t2).data.toList := ⟨_, rfl⟩
                    have hlen := ofR_len (s ++ t1 ++ t2).data.toList
                    rw [← hr, show (s ++ t1 ++ t2).data.toList.length = (s ++ t1 ++ t2).size by simp; omega] at hlen
                    have HLE := Lib.hid (show l.length ≤ 4 by simp only at hlen; omega)
                    have HLK := Lib.hid (HL.out.below (HB.out.trans (HI.out.mono HB.out.size)))
                    have HR := Lib.hid hr.symm
                    have Z1 := Lib.hid (show s.size + t1.size ≤ 4 by have := HSZ.out; omega)
                    have Z2 := Lib.hid (show s.size + t1.size + t2.size ≤ 4 by have := HSZ.out; omega)
                    have Z3 := Lib.hid hsz
                    have HT1 := Lib.hid ht1
                    have HT2 := Lib.hid ht2
                    clear hsz hr hlen hz1 hz2 ht1 ht2
                    go_wp2_with fail
                    refine bytes18_wp s t1 t2 be i k l at_ z (z := 0) (Nat.zero_le _) (by rfl) (by rfl) (by rfl) (by rfl) (by rfl) (by omega) (by omega) (below_cell (bl_drewD wk) HT1.out) (below_cell (bl_drewD wk) HT2.out) Z1.out Z2.out Z3.out HR.out ((HLK.out).below (bl_drewD wk)) ?_ 18
                    intro f w1 hkk hb
                    have hb := bl_trans (bl_drewD wk) hb
                    obtain ⟨p1, q1, e16, s16⟩ : Kd.ok 0 (.ofs l) (f 16) w1 := hkk 16 (by decide) (by decide)
                    have e17 : f 17 = .int .i64 (at_ : Nat) := hkk 17 (by decide) (by decide)
                    have e18 : f 18 = .int .i64 (z : Nat) := hkk 18 (by decide) (by decide)
                    rw [e16, e17, e18]
                    have S1 := Lib.hid s16
                    have HB1 := Lib.hid hb
                    clear hkk e16 e17 e18 s16 hb
                    generalize f 0 = f0, f 1 = f1, f 2 = f2, f 3 = f3, f 4 = f4, f 5 = f5, f 6 = f6, f 7 = f7, f 8 = f8, f 9 = f9, f 10 = f10, f 11 = f11, f 12 = f12, f 13 = f13, f 14 = f14, f 15 = f15
                    simp only [putL, List.foldl, Act.put, List.setIfInBounds_toArray, List.set_cons_zero, List.set_cons_succ]
                    clear f
                    go_wp2_with fail
                    refine bytes19_wp s t1 t2 be i k l at_ z (z := 0) (Nat.zero_le _) (by rfl) (by rfl) (by rfl) (by rfl) (by rfl) (by omega) (by omega) (below_cell (bl_drewD w1) (below_cell HB1.out HT1.out)) (below_cell (bl_drewD w1) (below_cell HB1.out HT2.out)) Z1.out Z2.out Z3.out HR.out ((HLK.out.below HB1.out).below (bl_drewD w1)) ?_ 19
                    intro f w2 hkk hb
                    have hb := bl_trans (bl_drewD w1) hb
                    obtain ⟨p2, q2, e16, s16⟩ : Kd.ok 0 (.ofs l) (f 16) w2 := hkk 16 (by decide) (by decide)
                    have e17 : f 17 = .int .i64 (at_ : Nat) := hkk 17 (by decide) (by decide)
                    have e18 : f 18 = .int .i64 (z : Nat) := hkk 18 (by decide) (by decide)
                    rw [e16, e17, e18]
                    have HSAME := Lib.hid (same2 p1 p2 q1 q2 l w2 (S1.out.below hb) s16 (by have := HLE.out; omega))
                    have HB2 := Lib.hid (HI.out.trans ((bl_trans HB1.out hb).mono HI.out.size))
                    clear hkk e16 e17 e18 s16 hb
                    generalize f 0 = f0, f 1 = f1, f 2 = f2, f 3 = f3, f 4 = f4, f 5 = f5, f 6 = f6, f 7 = f7, f 8 = f8, f 9 = f9, f 10 = f10, f 11 = f11, f 12 = f12, f 13 = f13, f 14 = f14, f 15 = f15
                    simp only [putL, List.foldl, Act.put, List.setIfInBounds_toArray, List.set_cons_zero, List.set_cons_succ]
                    clear f
                    go_wp2_with fail
                    refine HSAME.out.mono ?_
                    rintro e w3 ⟨rfl, hb⟩
                    have HB3 := Lib.hid (HB2.out.trans (hb.mono HB2.out.size))
                    clear hb
                    go_wp2
                    go_roundw
                    case rel => exact ⟨k + 1, by omega, by go_num, HB3.out⟩
                    case measure => simp [intOf]; omega
                  · obtain rfl : k = 10 := by omega
                    go_wp2
                    go_roundw
                    case rel => exact ⟨i + 1, by omega, by go_num, HI.out⟩
                    case measure => simp [intOf]; omega
              · obtain rfl : i = 10 := by omega
                go_wp2
                go_roundw
                case rel => exact ⟨b + 1, by omega, by go_num, HI.out⟩
                case measure => simp [intOf]; omega
          · skip
            go_loopw [6] (fun iv wr => ∃ i : Nat, i ≤ 10 ∧ iv = .int .i64 i ∧ Hid (Below w0.heap.size w0 wr)) (fun iv _ => 10 - (intOf iv).toNat)
            case atStart => exact ⟨0, by omega, rfl, HA2.out⟩
            case round =>
              obtain ⟨i, hi, rfl, HI⟩ := hrel
              rename World => wi
              by_cases hi2 : i < 10
              · have hiI : (i : Int) < 10 := by omega
                go_wp2
                go_loopw [7] (fun iv wr => ∃ k : Nat, k ≤ 10 ∧ iv = .int .i64 k ∧ Hid (Below w0.heap.size w0 wr)) (fun iv _ => 10 - (intOf iv).toNat)
                case atStart => exact ⟨0, by omega, rfl, HI.out⟩
                case round =>
                  clear HI
                  obtain ⟨k, hk, rfl, HI⟩ := hrel
                  rename World => wk
                  by_cases hk2 : k < 10
                  · have hkI : (k : Int) < 10 := by omega
                    obtain ⟨t1, ht1, hz1⟩ := HE.out.below HI.out i (by omega)
                    obtain ⟨t2, ht2, hz2⟩ := HE.out.below HI.out k (by omega)
                    have hsz : (s ++ t1 ++ t2).size ≤ 4 := by rw [ByteArray.size_append, ByteArray.size_append]; have := HSZ.out; omega
                    obtain ⟨⟨l, at_, z⟩, hr⟩ : ∃ r, r = ofR (s ++ t1 ++ t2).data.toList := ⟨_, rfl⟩
                    have hlen := ofR_len (s ++ t1 ++ t2).data.toList
                    rw [← hr, show (s ++ t1 ++ t2).data.toList.length = (s ++ t1 ++ t2).size by simp; omega] at hlen
                    have HLE := Lib.hid (show l.length ≤ 4 by simp only at hlen; omega)
                    have HLK := Lib.hid (HL.out.below (HB.out.trans (HI.out.mono HB.out.size)))
                    have HR := Lib.hid hr.symm
                    have Z1 := Lib.hid (show s.size + t1.size ≤ 4 by have := HSZ.out; omega)
                    have Z2 := Lib.hid (show s.size + t1.size + t2.size ≤ 4 by have := HSZ.out; omega)
                    have Z3 := Lib.hid hsz
                    have HT1 := Lib.hid ht1
                    have HT2 := Lib.hid ht2
                    clear hsz hr hlen hz1 hz2 ht1 ht2
                    go_wp2_with fail
                    refine bytes18_wp s t1 t2 be i k l at_ z (z := 0) (Nat.zero_le _) (by rfl) (by rfl) (by rfl) (by rfl) (by rfl) (by omega) (by omega) (below_cell (bl_drewD wk) HT1.out) (below_cell (bl_drewD wk) HT2.out) Z1.out Z2.out Z3.out HR.out ((HLK.out).below (bl_drewD wk)) ?_ 18
                    intro f w1 hkk hb
                    have hb := bl_trans (bl_drewD wk) hb
                    obtain ⟨p1, q1, e16, s16⟩ : Kd.ok 0 (.ofs l) (f 16) w1 := hkk 16 (by decide) (by decide)
                    have e17 : f 17 = .int .i64 (at_ : Nat) := hkk 17 (by decide) (by decide)
                    have e18 : f 18 = .int .i64 (z : Nat) := hkk 18 (by decide) (by decide)
                    rw [e16, e17, e18]
                    have S1 := Lib.hid s16
                    have HB1 := Lib.hid hb
                    clear hkk e16 e17 e18 s16 hb
                    generalize f 0 = f0, f 1 = f1, f 2 = f2, f 3 = f3, f 4 = f4, f 5 = f5, f 6 = f6, f 7 = f7, f 8 = f8, f 9 = f9, f 10 = f10, f 11 = f11, f 12 = f12, f 13 = f13, f 14 = f14, f 15 = f15
                    simp only [putL, List.foldl, Act.put, List.setIfInBounds_toArray, List.set_cons_zero, List.set_cons_succ]
                    clear f
                    go_wp2_with fail
                    refine bytes19_wp s t1 t2 be i k l at_ z (z := 0) (Nat.zero_le _) (by rfl) (by rfl) (by rfl) (by rfl) (by rfl) (by omega) (by omega) (below_cell (bl_drewD w1) (below_cell HB1.out HT1.out)) (below_cell (bl_drewD w1) (below_cell HB1.out HT2.out)) Z1.out Z2.out Z3.out HR.out ((HLK.out.below HB1.out).below (bl_drewD w1)) ?_ 19
                    intro f w2 hkk hb
                    have hb := bl_trans (bl_drewD w1) hb
                    obtain ⟨p2, q2, e16, s16⟩ : Kd.ok 0 (.ofs l) (f 16) w2 := hkk 16 (by decide) (by decide)
                    have e17 : f 17 = .int .i64 (at_ : Nat) := hkk 17 (by decide) (by decide)
                    have e18 : f 18 = .int .i64 (z : Nat) := hkk 18 (by decide) (by decide)
                    rw [e16, e17, e18]
                    have HSAME := Lib.hid (same2 p1 p2 q1 q2 l w2 (S1.out.below hb) s16 (by have := HLE.out; omega))
                    have HB2 := Lib.hid (HI.out.trans ((bl_trans HB1.out hb).mono HI.out.size))
                    clear hkk e16 e17 e18 s16 hb
                    generalize f 0 = f0, f 1 = f1, f 2 = f2, f 3 = f3, f 4 = f4, f 5 = f5, f 6 = f6, f 7 = f7, f 8 = f8, f 9 = f9, f 10 = f10, f 11 = f11, f 12 = f12, f 13 = f13, f 14 = f14, f 15 = f15
                    simp only [putL, List.foldl, Act.put, List.setIfInBounds_toArray, List.set_cons_zero, List.set_cons_succ]
                    clear f
                    go_wp2_with fail
                    refine HSAME.out.mono ?_
                    rintro e w3 ⟨rfl, hb⟩
                    have HB3 := Lib.hid (HB2.out.trans (hb.mono HB2.out.size))
                    clear hb
                    go_wp2
                    go_roundw
                    case rel => exact ⟨k + 1, by omega, by go_num, HB3.out⟩
                    case measure => simp [intOf]; omega
                  · obtain rfl : k = 10 := by omega
                    go_wp2
                    go_roundw
                    case rel => exact ⟨i + 1, by omega, by go_num, HI.out⟩
                    case measure => simp [intOf]; omega
              · obtain rfl : i = 10 := by omega
                go_wp2
                go_roundw
                case rel => exact ⟨b + 1, by omega, by go_num, HI.out⟩
                case measure => simp [intOf]; omega
          · skip
            go_loopw [6] (fun iv wr => ∃ i : Nat, i ≤ 1 ∧ iv = .int .i64 i ∧ Hid (Below w0.heap.size w0 wr)) (fun iv _ => 1 - (intOf iv).toNat)
            case atStart => exact ⟨0, by omega, rfl, HA2.out⟩
            case round =>
              obtain ⟨i, hi, rfl, HI⟩ := hrel
              rename World => wi
              by_cases hi2 : i < 1
              · have hiI : (i : Int) < 1 := by omega
                go_wp2
                go_loopw [7] (fun iv wr => ∃ k : Nat, k ≤ 1 ∧ iv = .int .i64 k ∧ Hid (Below w0.heap.size w0 wr)) (fun iv _ => 1 - (intOf iv).toNat)
                case atStart => exact ⟨0, by omega, rfl, HI.out⟩
                case round =>
                  clear HI
                  obtain ⟨k, hk, rfl, HI⟩ := hrel
                  rename World => wk
                  by_cases hk2 : k < 1
                  · have hkI : (k : Int) < 1 := by omega
                    obtain ⟨t1, ht1, hz1⟩ := HE.out.below HI.out i (by omega)
                    obtain ⟨t2, ht2, hz2⟩ := HE.out.below HI.out k (by omega)
                    have hsz : (s ++ t1 ++ t2).size ≤ 4 := by rw [ByteArray.size_append, ByteArray.size_append]; have := HSZ.out; omega
                    obtain ⟨⟨l, at_, z⟩, hr⟩ : ∃ r, r = ofR (s ++ t1 ++ t2).data.toList := ⟨_, rfl⟩
                    have hlen := ofR_len (s ++ t1 ++ t2).data.toList
                    rw [← hr, show (s ++ t1 ++ t2).data.toList.length = (s ++ t1 ++ t2).size by simp; omega] at hlen
                    have HLE := Lib.hid (show l.length ≤ 4 by simp only at hlen; omega)
                    have HLK := Lib.hid (HL.out.below (HB.out.trans (HI.out.mono HB.out.size)))
                    have HR := Lib.hid hr.symm
                    have Z1 := Lib.hid (show s.size + t1.size ≤ 4 by have := HSZ.out; omega)
                    have Z2 := Lib.hid (show s.size + t1.size + t2.size ≤ 4 by have := HSZ.out; omega)
                    have Z3 := Lib.hid hsz
                    have HT1 := Lib.hid ht1
                    have HT2 := Lib.hid ht2
                    clear hsz hr hlen hz1 hz2 ht1 ht2
                    go_wp2_with fail
                    refine bytes18_wp s t1 t2 be i k l at_ z (z := 0) (Nat.zero_le _) (by rfl) (by rfl) (by rfl) (by rfl) (by rfl) (by omega) (by omega) (below_cell (bl_drewD wk) HT1.out) (below_cell (bl_drewD wk) HT2.out) Z1.out Z2.out Z3.out HR.out ((HLK.out).below (bl_drewD wk)) ?_ 18
                    intro f w1 hkk hb
                    have hb := bl_trans (bl_drewD wk) hb
                    obtain ⟨p1, q1, e16, s16⟩ : Kd.ok 0 (.ofs l) (f 16) w1 := hkk 16 (by decide) (by decide)
                    have e17 : f 17 = .int .i64 (at_ : Nat) := hkk 17 (by decide) (by decide)
                    have e18 : f 18 = .int .i64 (z : Nat) := hkk 18 (by decide) (by decide)
                    rw [e16, e17, e18]
                    have S1 := Lib.hid s16
                    have HB1 := Lib.hid hb
                    clear hkk e16 e17 e18 s16 hb
                    generalize f 0 = f0, f 1 = f1, f 2 = f2, f 3 = f3, f 4 = f4, f 5 = f5, f 6 = f6, f 7 = f7, f 8 = f8, f 9 = f9, f 10 = f10, f 11 = f11, f 12 = f12, f 13 = f13, f 14 = f14, f 15 = f15
                    simp only [putL, List.foldl, Act.put, List.setIfInBounds_toArray, List.set_cons_zero, List.set_cons_succ]
                    clear f
                    go_wp2_with fail
                    refine bytes19_wp s t1 t2 be i k l at_ z (z := 0) (Nat.zero_le _) (by rfl) (by rfl) (by rfl) (by rfl) (by rfl) (by omega) (by omega) (below_cell (bl_drewD w1) (below_cell HB1.out HT1.out)) (below_cell (bl_drewD w1) (below_cell HB1.out HT2.out)) Z1.out Z2.out Z3.out HR.out ((HLK.out.below HB1.out).below (bl_drewD w1)) ?_ 19
                    intro f w2 hkk hb
                    have hb := bl_trans (bl_drewD w1) hb
                    obtain ⟨p2, q2, e16, s16⟩ : Kd.ok 0 (.ofs l) (f 16) w2 := hkk 16 (by decide) (by decide)
                    have e17 : f 17 = .int .i64 (at_ : Nat) := hkk 17 (by decide) (by decide)
                    have e18 : f 18 = .int .i64 (z : Nat) := hkk 18 (by decide) (by decide)
                    rw [e16, e17, e18]
                    have HSAME := Lib.hid (same2 p1 p2 q1 q2 l w2 (S1.out.below hb) s16 (by have := HLE.out; omega))
                    have HB2 := Lib.hid (HI.out.trans ((bl_trans HB1.out hb).mono HI.out.size))
                    clear hkk e16 e17 e18 s16 hb
                    generalize f 0 = f0, f 1 = f1, f 2 = f2, f 3 = f3, f 4 = f4, f 5 = f5, f 6 = f6, f 7 = f7, f 8 = f8, f 9 = f9, f 10 = f10, f 11 = f11, f 12 = f12, f 13 = f13, f 14 = f14, f 15 = f15
                    simp only [putL, List.foldl, Act.put, List.setIfInBounds_toArray, List.set_cons_zero, List.set_cons_succ]
                    clear f
                    go_wp2_with fail
                    refine HSAME.out.mono ?_
                    rintro e w3 ⟨rfl, hb⟩
                    have HB3 := Lib.hid (HB2.out.trans (hb.mono HB2.out.size))
                    clear hb
                    go_wp2
                    go_roundw
                    case rel => exact ⟨k + 1, by omega, by go_num, HB3.out⟩
                    case measure => simp [intOf]; omega
                  · obtain rfl : k = 1 := by omega
                    go_wp2
                    go_roundw
                    case rel => exact ⟨i + 1, by omega, by go_num, HI.out⟩
                    case measure => simp [intOf]; omega
              · obtain rfl : i = 1 := by omega
                go_wp2
                go_roundw
                case rel => exact ⟨b + 1, by omega, by go_num, HI.out⟩
                case measure => simp [intOf]; omega
          · skip
            go_loopw [6] (fun iv wr => ∃ i : Nat, i ≤ 1 ∧ iv = .int .i64 i ∧ Hid (Below w0.heap.size w0 wr)) (fun iv _ => 1 - (intOf iv).toNat)
            case atStart => exact ⟨0, by omega, rfl, HA2.out⟩
            case round =>
              obtain ⟨i, hi, rfl, HI⟩ := hrel
              rename World => wi
              by_cases hi2 : i < 1
              · have hiI : (i : Int) < 1 := by omega
                go_wp2
                go_loopw [7] (fun iv wr => ∃ k : Nat, k ≤ 1 ∧ iv = .int .i64 k ∧ Hid (Below w0.heap.size w0 wr)) (fun iv _ => 1 - (intOf iv).toNat)
                case atStart => exact ⟨0, by omega, rfl, HI.out⟩
                case round =>
                  clear HI
                  obtain ⟨k, hk, rfl, HI⟩ := hrel
                  rename World => wk
                  by_cases hk2 : k < 1
                  · have hkI : (k : Int) < 1 := by omega
                    obtain ⟨t1, ht1, hz1⟩ := HE.out.below HI.out i (by omega)
                    obtain ⟨t2, ht2, hz2⟩ := HE.out.below HI.out k (by omega)
                    have hsz : (s ++ t1 ++ t2).size ≤ 4 := by rw [ByteArray.size_append, ByteArray.size_append]; have := HSZ.out; omega
                    obtain ⟨⟨l, at_, z⟩, hr⟩ : ∃ r, r = ofR (s ++ t1 ++ t2).data.toList := ⟨_, rfl⟩
                    have hlen := ofR_len (s ++ t1 ++ t2).data.toList
                    rw [← hr, show (s ++ t1 ++ t2).data.toList.length = (s ++ t1 ++ t2).size by simp; omega] at hlen
                    have HLE := Lib.hid (show l.length ≤ 4 by simp only at hlen; omega)
                    have HLK := Lib.hid (HL.out.below (HB.out.trans (HI.out.mono HB.out.size)))
                    have HR := Lib.hid hr.symm
                    have Z1 := Lib.hid (show s.size + t1.size ≤ 4 by have := HSZ.out; omega)
                    have Z2 := Lib.hid (show s.size + t1.size + t2.size ≤ 4 by have := HSZ.out; omega)
                    have Z3 := Lib.hid hsz
                    have HT1 := Lib.hid ht1
                    have HT2 := Lib.hid ht2
                    clear hsz hr hlen hz1 hz2 ht1 ht2
                    go_wp2_with fail
                    refine bytes18_wp s t1 t2 be i k l at_ z (z := 0) (Nat.zero_le _) (by rfl) (by rfl) (by rfl) (by rfl) (by rfl) (by omega) (by omega) (below_cell (bl_drewD wk) HT1.out) (below_cell (bl_drewD wk) HT2.out) Z1.out Z2.out Z3.out HR.out ((HLK.out).below (bl_drewD wk)) ?_ 18
                    intro f w1 hkk hb
                    have hb := bl_trans (bl_drewD wk) hb
                    obtain ⟨p1, q1, e16, s16⟩ : Kd.ok 0 (.ofs l) (f 16) w1 := hkk 16 (by decide) (by decide)
                    have e17 : f 17 = .int .i64 (at_ : Nat) := hkk 17 (by decide) (by decide)
                    have e18 : f 18 = .int .i64 (z : Nat) := hkk 18 (by decide) (by decide)
                    rw [e16, e17, e18]
                    have S1 := Lib.hid s16
                    have HB1 := Lib.hid hb
                    clear hkk e16 e17 e18 s16 hb
                    generalize f 0 = f0, f 1 = f1, f 2 = f2, f 3 = f3, f 4 = f4, f 5 = f5, f 6 = f6, f 7 = f7, f 8 = f8, f 9 = f9, f 10 = f10, f 11 = f11, f 12 = f12, f 13 = f13, f 14 = f14, f 15 = f15
                    simp only [putL, List.foldl, Act.put, List.setIfInBounds_toArray, List.set_cons_zero, List.set_cons_succ]
                    clear f
                    go_wp2_with fail
                    refine bytes19_wp s t1 t2 be i k l at_ z (z := 0) (Nat.zero_le _) (by rfl) (by rfl) (by rfl) (by rfl) (by rfl) (by omega) (by omega) (below_cell (bl_drewD w1) (below_cell HB1.out HT1.out)) (below_cell (bl_drewD w1) (below_cell HB1.out HT2.out)) Z1.out Z2.out Z3.out HR.out ((HLK.out.below HB1.out).below (bl_drewD w1)) ?_ 19
                    intro f w2 hkk hb
                    have hb := bl_trans (bl_drewD w1) hb
                    obtain ⟨p2, q2, e16, s16⟩ : Kd.ok 0 (.ofs l) (f 16) w2 := hkk 16 (by decide) (by decide)
                    have e17 : f 17 = .int .i64 (at_ : Nat) := hkk 17 (by decide) (by decide)
                    have e18 : f 18 = .int .i64 (z : Nat) := hkk 18 (by decide) (by decide)
                    rw [e16, e17, e18]
                    have HSAME := Lib.hid (same2 p1 p2 q1 q2 l w2 (S1.out.below hb) s16 (by have := HLE.out; omega))
                    have HB2 := Lib.hid (HI.out.trans ((bl_trans HB1.out hb).mono HI.out.size))
                    clear hkk e16 e17 e18 s16 hb
                    generalize f 0 = f0, f 1 = f1, f 2 = f2, f 3 = f3, f 4 = f4, f 5 = f5, f 6 = f6, f 7 = f7, f 8 = f8, f 9 = f9, f 10 = f10, f 11 = f11, f 12 = f12, f 13 = f13, f 14 = f14, f 15 = f15
                    simp only [putL, List.foldl, Act.put, List.setIfInBounds_toArray, List.set_cons_zero, List.set_cons_succ]
                    clear f
                    go_wp2_with fail
                    refine HSAME.out.mono ?_
                    rintro e w3 ⟨rfl, hb⟩
                    have HB3 := Lib.hid (HB2.out.trans (hb.mono HB2.out.size))
                    clear hb
                    go_wp2
                    go_roundw
                    case rel => exact ⟨k + 1, by omega, by go_num, HB3.out⟩
                    case measure => simp [intOf]; omega
                  · obtain rfl : k = 1 := by omega
                    go_wp2
                    go_roundw
                    case rel => exact ⟨i + 1, by omega, by go_num, HI.out⟩
                    case measure => simp [intOf]; omega
              · obtain rfl : i = 1 := by omega
                go_wp2
                go_roundw
                case rel => exact ⟨b + 1, by omega, by go_num, HI.out⟩
                case measure => simp [intOf]; omega
          · skip
            go_loopw [6] (fun iv wr => ∃ i : Nat, i ≤ 1 ∧ iv = .int .i64 i ∧ Hid (Below w0.heap.size w0 wr)) (fun iv _ => 1 - (intOf iv).toNat)
            case atStart => exact ⟨0, by omega, rfl, HA2.out⟩
            case round =>
              obtain ⟨i, hi, rfl, HI⟩ := hrel
              rename World => wi
              by_cases hi2 : i < 1
              · have hiI : (i : Int) < 1 := by omega
                go_wp2
                go_loopw [7] (fun iv wr => ∃ k : Nat, k ≤ 1 ∧ iv = .int .i64 k ∧ Hid (Below w0.heap.size w0 wr)) (fun iv _ => 1 - (intOf iv).toNat)
                case atStart => exact ⟨0, by omega, rfl, HI.out⟩
                case round =>
                  clear HI
                  obtain ⟨k, hk, rfl, HI⟩ := hrel
                  rename World => wk
                  by_cases hk2 : k < 1
                  · have hkI : (k : Int) < 1 := by omega
                    obtain ⟨t1, ht1, hz1⟩ := HE.out.below HI.out i (by omega)
                    obtain ⟨t2, ht2, hz2⟩ := HE.out.below HI.out k (by omega)
                    have hsz : (s ++ t1 ++ t2).size ≤ 4 := by rw [ByteArray.size_append, ByteArray.size_append]; have := HSZ.out; omega
                    obtain ⟨⟨l, at_, z⟩, hr⟩ : ∃ r, r = ofR (s ++ t1 ++ t2).data.toList := ⟨_, rfl⟩
                    have hlen := ofR_len (s ++ t1 ++ t2).data.toList
                    rw [← hr, show (s ++ t1 ++ t2).data.toList.length = (s ++ t1 ++ t2).size by simp; omega] at hlen
                    have HLE := Lib.hid (show l.length ≤ 4 by simp only at hlen; omega)
                    have HLK := Lib.hid (HL.out.below (HB.out.trans (HI.out.mono HB.out.size)))
                    have HR := Lib.hid hr.symm
                    have Z1 := Lib.hid (show s.size + t1.size ≤ 4 by have := HSZ.out; omega)
                    have Z2 := Lib.hid (show s.size + t1.size + t2.size ≤ 4 by have := HSZ.out; omega)
                    have Z3 := Lib.hid hsz
                    have HT1 := Lib.hid ht1
                    have HT2 := Lib.hid ht2
                    clear hsz hr hlen hz1 hz2 ht1 ht2
                    go_wp2_with fail
                    refine bytes18_wp s t1 t2 be i k l at_ z (z := 0) (Nat.zero_le _) (by rfl) (by rfl) (by rfl) (by rfl) (by rfl) (by omega) (by omega) (below_cell (bl_drewD wk) HT1.out) (below_cell (bl_drewD wk) HT2.out) Z1.out Z2.out Z3.out HR.out ((HLK.out).below (bl_drewD wk)) ?_ 18
                    intro f w1 hkk hb
                    have hb := bl_trans (bl_drewD wk) hb
                    obtain ⟨p1, q1, e16, s16⟩ : Kd.ok 0 (.ofs l) (f 16) w1 := hkk 16 (by decide) (by decide)
                    have e17 : f 17 = .int .i64 (at_ : Nat) := hkk 17 (by decide) (by decide)
                    have e18 : f 18 = .int .i64 (z : Nat) := hkk 18 (by decide) (by decide)
                    rw [e16, e17, e18]
                    have S1 := Lib.hid s16
                    have HB1 := Lib.hid hb
                    clear hkk e16 e17 e18 s16 hb
                    generalize f 0 = f0, f 1 = f1, f 2 = f2, f 3 = f3, f 4 = f4, f 5 = f5, f 6 = f6, f 7 = f7, f 8 = f8, f 9 = f9, f 10 = f10, f 11 = f11, f 12 = f12, f 13 = f13, f 14 = f14, f 15 = f15
                    simp only [putL, List.foldl, Act.put, List.setIfInBounds_toArray, List.set_cons_zero, List.set_cons_succ]
                    clear f
                    go_wp2_with fail
                    refine bytes19_wp s t1 t2 be i k l at_ z (z := 0) (Nat.zero_le _) (by rfl) (by rfl) (by rfl) (by rfl) (by rfl) (by omega) (by omega) (below_cell (bl_drewD w1) (below_cell HB1.out HT1.out)) (below_cell (bl_drewD w1) (below_cell HB1.out HT2.out)) Z1.out Z2.out Z3.out HR.out ((HLK.out.below HB1.out).below (bl_drewD w1)) ?_ 19
                    intro f w2 hkk hb
                    have hb := bl_trans (bl_drewD w1) hb
                    obtain ⟨p2, q2, e16, s16⟩ : Kd.ok 0 (.ofs l) (f 16) w2 := hkk 16 (by decide) (by decide)
                    have e17 : f 17 = .int .i64 (at_ : Nat) := hkk 17 (by decide) (by decide)
                    have e18 : f 18 = .int .i64 (z : Nat) := hkk 18 (by decide) (by decide)
                    rw [e16, e17, e18]
                    have HSAME := Lib.hid (same2 p1 p2 q1 q2 l w2 (S1.out.below hb) s16 (by have := HLE.out; omega))
                    have HB2 := Lib.hid (HI.out.trans ((bl_trans HB1.out hb).mono HI.out.size))
                    clear hkk e16 e17 e18 s16 hb
                    generalize f 0 = f0, f 1 = f1, f 2 = f2, f 3 = f3, f 4 = f4, f 5 = f5, f 6 = f6, f 7 = f7, f 8 = f8, f 9 = f9, f 10 = f10, f 11 = f11, f 12 = f12, f 13 = f13, f 14 = f14, f 15 = f15
                    simp only [putL, List.foldl, Act.put, List.setIfInBounds_toArray, List.set_cons_zero, List.set_cons_succ]
                    clear f
                    go_wp2_with fail
                    refine HSAME.out.mono ?_
                    rintro e w3 ⟨rfl, hb⟩
                    have HB3 := Lib.hid (HB2.out.trans (hb.mono HB2.out.size))
                    clear hb
                    go_wp2
                    go_roundw
                    case rel => exact ⟨k + 1, by omega, by go_num, HB3.out⟩
                    case measure => simp [intOf]; omega
                  · obtain rfl : k = 1 := by omega
                    go_wp2
                    go_roundw
                    case rel => exact ⟨i + 1, by omega, by go_num, HI.out⟩
                    case measure => simp [intOf]; omega
              · obtain rfl : i = 1 := by omega
                go_wp2
                go_roundw
                case rel => exact ⟨b + 1, by omega, by go_num, HI.out⟩
                case measure => simp [intOf]; omega
        · obtain rfl : b = 256 := by omega
          go_wp2
          go_roundw
          case rel => exact ⟨a + 1, by omega, by go_num, HA.out⟩
          case measure => simp [intOf]; omega
    · obtain rfl : a = 256 := by omega
      go_wp2_with fail
      have HN := Lib.hid (nums_lit wa 3)
      have HBN := Lib.hid (bl_alloc wa (.cells #[.int .i64 (-9223372036854775808), .int .i64 (-1), .int .i64 0, .int .i64 127, .int .i64 128, .int .i64 2047, .int .i64 2048, .int .i64 55295, .int .i64 55296, .int .i64 56319, .int .i64 56320, .int .i64 57343, .int .i64 57344, .int .i64 65535, .int .i64 65536, .int .i64 1114111, .int .i64 1114112, .int .i64 9223372036854775807] 3))
      generalize wa.alloc (.cells #[.int .i64 (-9223372036854775808), .int .i64 (-1), .int .i64 0, .int .i64 127, .int .i64 128, .int .i64 2047, .int .i64 2048, .int .i64 55295, .int .i64 55296, .int .i64 56319, .int .i64 56320, .int .i64 57343, .int .i64 57344, .int .i64 65535, .int .i64 65536, .int .i64 1114111, .int .i64 1114112, .int .i64 9223372036854775807] 3) = wn at *
      have HBW := Lib.hid (HB.out.trans ((HA.out.trans (HBN.out.mono HA.out.size)).mono HB.out.size))
      clear HBN HA HE HB
      generalize wa.heap.size = bn at *
      go_loopw [15] (fun iv wr => ∃ i : Nat, i ≤ 18 ∧ iv = .int .i64 i ∧ Hid (Below wn.heap.size wn wr)) (fun iv _ => 18 - (intOf iv).toNat)
      case atStart => exact ⟨0, by omega, rfl, Below.refl _ _⟩
      case round =>
        obtain ⟨i, hi, rfl, HI⟩ := hrel
        rename World => wi
        by_cases hi2 : i < 18
        · have hiI : (i : Int) < 18 := by omega
          go_wp2
          go_loopw [16] (fun iv wr => ∃ k : Nat, k ≤ 18 ∧ iv = .int .i64 k ∧ Hid (Below wn.heap.size wn wr)) (fun iv _ => 18 - (intOf iv).toNat)
          case atStart => exact ⟨0, by omega, rfl, HI.out⟩
          case round =>
            clear HI
            obtain ⟨k, hk, rfl, HI⟩ := hrel
            rename World => wk
            by_cases hk2 : k < 18
            · have hkI : (k : Int) < 18 := by omega
              obtain ⟨x1, hx1⟩ := HN.out.below HI.out i (by omega)
              obtain ⟨x2, hx2⟩ := HN.out.below HI.out k (by omega)
              have HX1 := Lib.hid hx1
              have HX2 := Lib.hid hx2
              have HBK := Lib.hid (HBW.out.trans (HI.out.mono HBW.out.size))
              have HLK := Lib.hid (HL.out.below HBK.out)
              have HSK := Lib.hid (HS.out.below HBK.out)
              clear hx1 hx2
              go_wp2_with fail
              refine bytes29_wp x1 x2 bn i k (z := 0) (Nat.zero_le _) (by rfl) (by rfl) (by rfl) (by rfl) hiI hkI (below_cell (bl_drewD wk) HX1.out) (below_cell (bl_drewD wk) HX2.out) (HLK.out.below (bl_drewD wk)) (HSK.out.below (bl_drewD wk)) ?_ 29
              intro f w1 hkk hb
              have e35 : f 35 = .bool false := hkk 35 (by decide) (by decide)
              rw [e35]
              have HB1 := Lib.hid (HI.out.trans ((bl_trans (bl_drewD wk) hb).mono HI.out.size))
              clear hkk hb e35
              generalize f 0 = f0, f 1 = f1, f 2 = f2, f 3 = f3, f 4 = f4, f 5 = f5, f 6 = f6, f 7 = f7, f 8 = f8, f 9 = f9, f 10 = f10, f 11 = f11, f 12 = f12, f 13 = f13, f 14 = f14, f 15 = f15, f 16 = f16, f 17 = f17, f 18 = f18, f 19 = f19, f 20 = f20, f 21 = f21, f 22 = f22, f 23 = f23, f 24 = f24, f 25 = f25, f 26 = f26, f 27 = f27, f 28 = f28, f 29 = f29, f 30 = f30, f 31 = f31, f 32 = f32, f 33 = f33, f 34 = f34
              simp only [putL, List.foldl, Act.put, List.setIfInBounds_toArray, List.set_cons_zero, List.set_cons_succ]
              clear f
              go_wp2
              go_roundw
              case rel => exact ⟨k + 1, by omega, by go_num, HB1.out⟩
              case measure => simp [intOf]; omega
            · obtain rfl : k = 18 := by omega
              go_wp2
              go_roundw
              case rel => exact ⟨i + 1, by omega, by go_num, HI.out⟩
              case measure => simp [intOf]; omega
        · obtain rfl : i = 18 := by omega
          have HBK := Lib.hid (HBW.out.trans (HI.out.mono HBW.out.size))
          obtain ⟨cn, hcn⟩ : ∃ c : Nat, c = 32768 := ⟨_, rfl⟩
          have HCN := Lib.hid hcn
          have HREP := Lib.hid (long_rep wi cn hcn)
          obtain ⟨n6, hn6⟩ : ∃ n : Nat, n = 65536 := ⟨_, rfl⟩
          obtain ⟨n5, hn5⟩ : ∃ n : Nat, n = 65535 := ⟨_, rfl⟩
          have L1 := Lib.hid (long1 cn hcn n6 hn6)
          have L2 := Lib.hid (long2 cn hcn)
          have L3 := Lib.hid (long3 cn hcn n5 hn5)
          have L4 := Lib.hid (long4 cn hcn n6 hn6)
          have L5 := Lib.hid (long5 cn hcn (n6 + 1) (by omega))
          have L6 := Lib.hid (long_join cn hcn n6 hn6)
          have hn6I : (n6 : Int) = 65536 := by omega
          have hn5I : (n5 : Int) = 65535 := by omega
          have hzS : (longS cn).size = 65536 := by rw [long_size]; omega
          have hzq : (longS cn).size + 1 ≤ 70000 := by omega
          have hz1I : (1 : Int) ≤ ((longS cn).size : Int) := by omega
          have hzy : (longS cn).size - 1 + 1 ≤ 70000 := by omega
          clear HBW HI HN hcn hzS hn6 hn5
          generalize longS cn = S at *
          clear HCN
          go_wp2_with fail
          refine HREP.out.mono ?_
          rintro e y1 ⟨rfl, hb⟩
          have HB1 := Lib.hid (bl_trans HBK.out hb)
          clear hb HREP HBK
          go_wp2_with fail
          refine (L1.out _ (HL.out.below HB1.out)).mono ?_
          rintro e y2 ⟨p1, q1, rfl, ho, hb⟩
          have HO := Lib.hid ho
          have HB2 := Lib.hid (bl_trans HB1.out hb)
          have HZ1 := Lib.hid hb.size
          clear ho hb
          go_wp2_with fail
          refine (L2.out _ (HL.out.below HB2.out)).mono ?_
          rintro e y3 ⟨p2, q2, rfl, hb⟩
          have HO := Lib.hid (own_below HO.out hb)
          have HB3 := Lib.hid (bl_trans HB2.out hb)
          have HZ1 := Lib.hid (Nat.le_trans HZ1.out hb.size)
          clear hb
          go_wp2_with fail
          refine (L3.out _ (HL.out.below HB3.out)).mono ?_
          rintro e y4 ⟨p3, q3, rfl, hb⟩
          have HO := Lib.hid (own_below HO.out hb)
          have HB4 := Lib.hid (bl_trans HB3.out hb)
          have HZ1 := Lib.hid (Nat.le_trans HZ1.out hb.size)
          clear hb
          go_wp2_with fail
          refine (L4.out _ _ _ _ HO.out (HS.out.below HB4.out)).mono ?_
          rintro e y5 ⟨rfl, hb⟩
          have HO := Lib.hid (own_below HO.out hb)
          have HB5 := Lib.hid (bl_trans HB4.out hb)
          have HZ1 := Lib.hid (Nat.le_trans HZ1.out hb.size)
          clear hb
          obtain ⟨p6, q6, y6, hr6, hs6, hb6⟩ := L6.out y5 _ p1 q1 HO.out HZ1.out 24
          have HR6 := Lib.hid hr6
          have HS6 := Lib.hid hs6
          have HB6 := Lib.hid (HB5.out.trans (((bl_alloc y5 _).mono HB5.out.size).trans (hb6.mono HB1.out.size)))
          clear hr6 hs6 hb6
          go_wp2_with (at_builtin; refine wpList_append_run (by rfl) _ _ 24 rfl _ _ _ rfl rfl HR6.out ?_)
          refine (L5.out _ p6 q6 HS6.out (HS.out.below HB6.out)).mono ?_
          rintro e y7 ⟨rfl, hb⟩
          have HB7 := Lib.hid (bl_trans HB6.out hb)
          have HAW := Lib.hid (awake_any y7 (HL.out.below HB7.out))
          clear hb
          go_wp2_with (go_at_call 11; refine HAW.out.mono ?_; rintro e y8 ⟨rfl, hb⟩; have HB8 := Lib.hid (bl_trans HB7.out hb); clear hb)
          go_ret
          exact ⟨rfl, HB8.out⟩
end Go.Proofs.YtalnfbbggmhbfaaDoor
