import Derived.Test.YtkefndfgkmdphaaGreatFi
import Derived.Test.YtkefndfgkmdphaaGreatMa
import Derived.Test.YtkefndfgkmdphaaGreatShelf

namespace Go.Proofs.YtkefndfgkmdphaaGreat
set_option maxHeartbeats 1600000
set_option maxRecDepth 100000
open Go.RowKit Tnr Tnt

theorem isName1_any (c : Nat) (w : World) : Calls Tryz.prog 209 #[.int .i32 (c : Nat)] w fun e w' => e = .returned (.bool (noSgT c)) ∧ ∃ q, w' = w.drewN q := by
 have HS := lh (sign_any c w)
 have HN : Hid (noSgT c = !sgT c) := rfl
 go_enter Tryz.func209, Tryz.ntmps209
 go_wp2_with fail
 refine HS.out.mono ?_
 rintro e w2 ⟨rfl, rfl⟩
 generalize sgT c = b at *
 go_wp2
 go_ret
 exact ⟨by show Ending.returned (Value.bool (!b)) = _; rw [HN.out], 0, rfl⟩
theorem enters_isName1 : ∀ args w, (callFunc 209 args).run Tryz.prog w = .ok (.enter 209 args) w := enters_of Tryz.func209 (by kernel_rfl) rfl
theorem has_noSgT (s : ByteArray) (w : World) : Calls Tryz.prog 208 #[.string s, .func (.func 209) #[] #[]] w fun e w' => e = .returned (.bool (!(s.data.toList.all fun b => sgT b.toNat))) ∧ Below w.heap.size w w' := by
 have h := Tryz.strings_ContainsFunc 209 #[] enters_isName1 noSgT s w (fun W x _ => isName1_any x W)
 rw [idx_sgT] at h
 exact h
def isNameB (l : List UInt8) : Bool := decide (1 ≤ l.length) && (decide (l.length ≤ 40) && (!dgT (l.headD 0).toNat && l.all fun b => sgT b.toNat))
theorem isName_any (s : ByteArray) (w : World) : Calls Tryz.prog 173 #[.string s] w fun e w' => e = .returned (.bool (isNameB s.data.toList)) ∧ Below w.heap.size w w' := by
 have HC := lh (has_noSgT s)
 have hlen : s.data.toList.length = s.size := by simp
 obtain ⟨hd, hhd⟩ : ∃ n : Nat, n = (s.data.toList.headD 0).toNat := ⟨_, rfl⟩
 have HV : Hid (isNameB s.data.toList = (decide (1 ≤ s.size) && (decide (s.size ≤ 40) && (!dgT hd && s.data.toList.all fun b => sgT b.toNat)))) := by
  show _ = _
  unfold isNameB; rw [hlen, hhd]
 have HD := lh (digit_any hd)
 have h0d : ∀ h : 0 < s.size, ((s[0].toNat : Nat) : Int) = (hd : Nat) := fun h => by
  rw [hhd]
  cases hl : s.data.toList with
  | nil => rw [hl] at hlen; simp at hlen; omega
  | cons a l =>
   have : s[0] = a := by
    have h2 : s.data.toList[0]'(by rw [hlen]; exact h) = a := by simp [hl]
    rw [← h2]; simp; rfl
   rw [this]; rfl
 have hd8 : hd < 256 := by rw [hhd]; exact (s.data.toList.headD 0).toNat_lt
 clear hlen hhd
 generalize (s.data.toList.all fun b => sgT b.toNat) = b at *
 by_cases h0 : 0 < s.size
 ·have d0 : decide ((0 : Int) < (s.size : Int)) = true := decide_eq_true (by omega)
  have dd := h0d h0
  have hw : IntKind.i32.wrap ((hd : Nat) : Int) = (hd : Nat) := by simp [IntKind.wrap, IntKind.bits, IntKind.signed]; omega
  by_cases h40 : s.size ≤ 40
  ·have d1 : decide ((s.size : Int) ≤ 40) = true := decide_eq_true (by omega)
   have HW : Hid (isNameB s.data.toList = (!dgT hd && b)) := by
    show _ = _
    rw [HV.out, decide_eq_true (show 1 ≤ s.size by omega), decide_eq_true h40]; rfl
   clear h40 h0d hd8
   cases hb : dgT hd with
   | true =>
    rw [hb] at HD HW
    have HW2 : Hid (isNameB s.data.toList = false) := HW.out
    clear HV hb
    go_enter Tryz.func173, Tryz.ntmps173
    go_wp2_with (go_at_call 207; refine (HD.out _).mono ?_; rintro e w2 ⟨rfl, rfl⟩)
    go_ret
    exact ⟨by rw [HW2.out]; rfl, Below.refl _ _⟩
   | false =>
    rw [hb] at HD HW
    have HW2 : Hid (isNameB s.data.toList = b) := by show _ = _; rw [HW.out]; rfl
    clear HV hb
    cases b with
    | true =>
     go_enter Tryz.func173, Tryz.ntmps173
     go_wp2_with (first | (go_at_call 207; refine (HD.out _).mono ?_; rintro e w2 ⟨rfl, rfl⟩) | (go_at_call 208; refine (HC.out _).mono ?_; rintro e w2 ⟨rfl, hb2⟩; have HB2 := lh hb2; clear hb2))
     go_ret
     exact ⟨by rw [HW2.out]; rfl, HB2.out⟩
    | false =>
     go_enter Tryz.func173, Tryz.ntmps173
     go_wp2_with (first | (go_at_call 207; refine (HD.out _).mono ?_; rintro e w2 ⟨rfl, rfl⟩) | (go_at_call 208; refine (HC.out _).mono ?_; rintro e w2 ⟨rfl, hb2⟩; have HB2 := lh hb2; clear hb2))
     go_ret
     exact ⟨by rw [HW2.out]; rfl, HB2.out⟩
  ·have d1 : decide ((s.size : Int) ≤ 40) = false := decide_eq_false (by omega)
   have HW : Hid (isNameB s.data.toList = false) := by show _ = _; rw [HV.out, decide_eq_false h40, Bool.false_and, Bool.and_false]
   have d0p : (0 : Int) < (s.size : Int) := by omega
   have d2 : decide (s.size ≤ 40) = false := decide_eq_false h40
   clear h0 h40 HV h0d dd hw hd8 HD d0
   go_enter Tryz.func173, Tryz.ntmps173
   go_wp2
   go_ret
   exact ⟨by rw [HW.out]; rfl, Below.refl _ _⟩
 ·have d1 : decide ((0 : Int) < (s.size : Int)) = false := decide_eq_false (by omega)
  have d2 : decide (0 < s.size) = false := decide_eq_false h0
  have HW : Hid (isNameB s.data.toList = false) := by show _ = _; rw [HV.out, decide_eq_false (show ¬ 1 ≤ s.size by omega), Bool.false_and]
  clear h0 HV h0d hd8 HD
  go_enter Tryz.func173, Tryz.ntmps173
  go_wp2
  go_ret
  exact ⟨by rw [HW.out]; rfl, Below.refl _ _⟩
end Go.Proofs.YtkefndfgkmdphaaGreat


namespace Go.Proofs.YtkefndfgkmdphaaGreat
set_option maxHeartbeats 1600000
set_option maxRecDepth 100000
open Go.RowKit Tnr Tnt

def memB (x : ByteArray) (l : List ByteArray) : Bool := l.any fun y => y.toList == x.toList
theorem memB_iff (x : ByteArray) (l : List ByteArray) : memB x l = true ↔ x ∈ l := by
 unfold memB
 rw [List.any_eq_true]
 constructor
 ·rintro ⟨y, hy, h⟩
  have := ba_inj (by simpa using h)
  rw [← this]; exact hy
 ·intro h; exact ⟨x, h, by simp⟩
def nameOk (l : List ByteArray) (i : Nat) : Bool := (gb l i).toList.isEmpty || (isNameB (gb l i).data.toList && !memB (gb l i) (l.take i))
def namedB (l : List ByteArray) : Bool := decide (l.length ≤ 20) && (List.range l.length).all (nameOk l)
theorem namedB_of {l : List ByteArray} (h : l.length ≤ 20) (h2 : ∀ i, i < l.length → nameOk l i = true) : namedB l = true := by
 unfold namedB; rw [decide_eq_true h, Bool.true_and, List.all_eq_true]; intro i hi; exact h2 i (List.mem_range.1 hi)
theorem namedB_bad {l : List ByteArray} {i : Nat} (hi : i < l.length) (h : nameOk l i = false) : namedB l = false := by
 unfold namedB
 rw [show (List.range l.length).all (nameOk l) = false by rw [List.all_eq_false]; exact ⟨i, List.mem_range.2 hi, by simp [h]⟩, Bool.and_false]
theorem SlX.take {w : World} {p : Option Addr} {l : List ByteArray} (h : SlX w p l) (k : Nat) : SlX w p (l.take k) := by
 rcases h with h | ⟨b, off, h1, h2⟩
 ·exact .inl (by rw [h]; simp)
 ·refine .inr ⟨b, off, h1, fun i hi => ?_⟩
  have hi2 : i < k ∧ i < l.length := by simp only [List.length_take] at hi; omega
  rw [h2 i hi2.2]
  unfold gb
  rw [List.getD_eq_getElem?_getD, List.getD_eq_getElem?_getD, List.getElem?_take_of_lt hi2.1]
theorem named_any (p : Option Addr) (n c : Nat) (l : List ByteArray) (w : World) (hn : n = l.length) (hnc : n ≤ c) (hp : SlX w p l) :
  Calls Tryz.prog 120 #[.slice p n c] w fun e w' => e = .returned (.bool (namedB l)) ∧ Below w.heap.size w w' := by
 have HN := lh hn
 have HP := lh hp
 have hncI : (n : Int) ≤ c := by omega
 by_cases h20 : n ≤ 20
 ·have e1 : decide ((n : Int) > 20) = false := by simp; omega
  have HL := lh h20
  have hn20 : (n : Int) ≤ 20 := by omega
  clear hn hp h20
  go_enter Tryz.func120, Tryz.ntmps120
  go_wp2
  go_loopw [10] (fun iv wr => ∃ k : Nat, k ≤ n ∧ iv = .int .i64 (k : Nat) ∧ Hid (∀ j, j < k → nameOk l j = true) ∧ Hid (Below w.heap.size w wr)) (fun iv _ => n - (intOf iv).toNat)
  case atStart => exact ⟨0, Nat.zero_le _, rfl, fun j hj => absurd hj (by omega), Below.refl _ _⟩
  case round =>
   obtain ⟨k, hk, rfl, HE, HW⟩ := hrel
   rename World => wr
   by_cases hkn : k < n
   ·have hkI : (k : Int) < n := by omega
    have hkc : (k : Int) ≤ c := by omega
    have hpw := HP.out.below HW.out
    obtain ⟨b, o, rfl, hc⟩ := slx_at hpw (show k < l.length by rw [← HN.out]; exact hkn)
    obtain ⟨s, hs⟩ : ∃ s, s = gb l k := ⟨_, rfl⟩
    rw [← hs] at hc
    have HCI := lh (isName_any s wr)
    have HCC : Hid (∀ W, Below wr.heap.size wr W → Calls Tryz.prog 174 #[.slice (some ⟨b, o, none⟩) k c, .string s] W fun e w' => e = .returned (.bool (memB s (l.take k))) ∧ w' = W) := fun W hW =>
     (containsX_any _ c k (l.take k) s W (by rw [List.length_take]; have := HN.out; omega) ((hpw.take k).below hW) (by omega)).mono fun e w' ⟨⟨bb, h1, h2⟩, h3⟩ => ⟨by rw [h1, show bb = memB s (l.take k) by rw [Bool.eq_iff_iff, h2, memB_iff]], h3⟩
    have HOK : Hid (nameOk l k = (s.toList.isEmpty || (isNameB s.data.toList && !memB s (l.take k)))) := by show _ = _; unfold nameOk; rw [← hs]
    have hwr : IntKind.i64.wrap ((k : Nat) + 1 : Int) = (k : Nat) + 1 := by rw [IntKind.wrap_i64]; omega
    clear hs hpw
    obtain ⟨b1, hb1⟩ : ∃ b : Bool, b = s.toList.isEmpty := ⟨_, rfl⟩
    obtain ⟨b2, hb2⟩ : ∃ b : Bool, b = isNameB s.data.toList := ⟨_, rfl⟩
    obtain ⟨b3, hb3⟩ : ∃ b : Bool, b = memB s (l.take k) := ⟨_, rfl⟩
    rw [← hb1, ← hb2, ← hb3] at HOK
    rw [← hb2] at HCI
    rw [← hb3] at HCC
    have hb1' := hb1.symm
    clear hb1 hb2 hb3
    have HGO : Hid (nameOk l k = true → ∀ W, Below wr.heap.size wr W → ((∀ j, j < k + 1 → nameOk l j = true) ∧ Below w.heap.size w W)) := fun h W hW => ⟨fun j hj => by
     by_cases hjk : j < k
     ·exact HE.out j hjk
     ·obtain rfl : j = k := by omega
      exact h, HW.out.trans (hW.mono HW.out.size)⟩
    have HNO : Hid (nameOk l k = false → namedB l = false) := fun h => namedB_bad (by rw [← HN.out]; exact hkn) h
    cases b1 with
    | true =>
     clear HCI HCC
     go_wp2
     go_roundw
     case rel => exact ⟨k + 1, by omega, by go_num, (HGO.out (by rw [HOK.out]; rfl) wr (Below.refl _ _)).1, HW.out⟩
     case measure => simp [intOf]; omega
    | false =>
     cases b2 with
     | false =>
      clear HCC
      go_wp2_with (go_at_call 173; refine (HCI.out).mono ?_; rintro e w5 ⟨rfl, hb5⟩; have HB5 := lh hb5; clear hb5)
      go_ret
      exact ⟨by rw [HNO.out (by rw [HOK.out]; rfl)]; rfl, HW.out.trans (HB5.out.mono HW.out.size)⟩
     | true =>
      cases b3 with
      | true =>
       go_wp2_with (first | (go_at_call 173; refine (HCI.out).mono ?_; rintro e w5 ⟨rfl, hb5⟩; have HCD := lh (HCC.out w5 hb5); have HB5 := lh hb5; clear hb5) | (go_at_call 174; refine (HCD.out).mono ?_; rintro e w6 ⟨rfl, rfl⟩))
       go_ret
       exact ⟨by rw [HNO.out (by rw [HOK.out]; rfl)]; rfl, HW.out.trans (HB5.out.mono HW.out.size)⟩
      | false =>
       go_wp2_with (first | (go_at_call 173; refine (HCI.out).mono ?_; rintro e w5 ⟨rfl, hb5⟩; have HCD := lh (HCC.out w5 hb5); have HB5 := lh hb5; clear hb5) | (go_at_call 174; refine (HCD.out).mono ?_; rintro e w6 ⟨rfl, rfl⟩))
       go_roundw
       case rel => exact ⟨k + 1, by omega, by go_num, (HGO.out (by rw [HOK.out]; rfl) wr (Below.refl _ _)).1, HW.out.trans (HB5.out.mono HW.out.size)⟩
       case measure => simp [intOf]; omega
   ·have hkI : (n : Int) ≤ k := by omega
    have HT : Hid (namedB l = true) := namedB_of (by have := HN.out; have := HL.out; omega) fun i hi => HE.out i (by have := HN.out; omega)
    go_wp2
    go_ret
    exact ⟨by rw [HT.out]; rfl, HW.out⟩
 ·have e1 : decide ((n : Int) > 20) = true := by simp; omega
  have HT : Hid (namedB l = false) := by show _ = _; unfold namedB; rw [decide_eq_false (by omega), Bool.false_and]
  clear hn hp h20
  go_enter Tryz.func120, Tryz.ntmps120
  go_wp2
  go_ret
  exact ⟨by rw [HT.out]; rfl, Below.refl _ _⟩
end Go.Proofs.YtkefndfgkmdphaaGreat

