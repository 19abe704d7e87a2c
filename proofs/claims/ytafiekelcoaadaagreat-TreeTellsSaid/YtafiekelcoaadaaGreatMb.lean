/- The walk of isName. -/
import Derived.Test.YtafiekelcoaadaaGreatMa
import Derived.Test.YtafiekelcoaadaaGreatShelf

namespace Go.Proofs.YtafiekelcoaadaaGreat
open Go.RowKit Tnr Tnt

set_option maxHeartbeats 800000 in
set_option maxRecDepth 100000 in
theorem isName1_any (c : Nat) (w : World) : Calls Tryz.prog 159 #[.int .i32 (c : Nat)] w fun e w' => e = .returned (.bool (noSgT c)) ∧ ∃ q, w' = w.drewN q := by
  have HS := Lib.hid (sign_any c w)
  have HN : Hid (noSgT c = !sgT c) := rfl
  go_enter Tryz.func159, Tryz.ntmps159
  go_wp2_with fail
  refine HS.out.mono ?_
  rintro e w2 ⟨rfl, rfl⟩
  generalize sgT c = b at *
  go_wp2
  go_ret
  exact ⟨by show Ending.returned (Value.bool (!b)) = _; rw [HN.out], 0, rfl⟩
theorem enters_isName1 : ∀ args w, (callFunc 159 args).run Tryz.prog w = .ok (.enter 159 args) w := enters_of Tryz.func159 (by kernel_rfl) rfl
theorem has_noSgT (s : ByteArray) (w : World) : Calls Tryz.prog 158 #[.string s, .func (.func 159) #[] #[]] w fun e w' => e = .returned (.bool (!(s.data.toList.all fun b => sgT b.toNat))) ∧ Below w.heap.size w w' := by
  have h := Tryz.strings_ContainsFunc 159 #[] enters_isName1 noSgT s w (fun W x _ => isName1_any x W)
  rw [idx_sgT] at h
  exact h
def isNameB (l : List UInt8) : Bool := decide (1 ≤ l.length) && (decide (l.length ≤ 40) && (!dgT (l.headD 0).toNat && l.all fun b => sgT b.toNat))
set_option maxHeartbeats 1600000 in
set_option maxRecDepth 100000 in
theorem isName_any (s : ByteArray) (w : World) : Calls Tryz.prog 122 #[.string s] w fun e w' => e = .returned (.bool (isNameB s.data.toList)) ∧ Below w.heap.size w w' := by
  have HC := Lib.hid (has_noSgT s)
  have hlen : s.data.toList.length = s.size := by simp
  obtain ⟨hd, hhd⟩ : ∃ n : Nat, n = (s.data.toList.headD 0).toNat := ⟨_, rfl⟩
  have HV : Hid (isNameB s.data.toList = (decide (1 ≤ s.size) && (decide (s.size ≤ 40) && (!dgT hd && s.data.toList.all fun b => sgT b.toNat)))) := by
    show _ = _
    unfold isNameB; rw [hlen, hhd]
  have HD := Lib.hid (digit_any hd)
  have h0d : ∀ h : 0 < s.size, ((s[0].toNat : Nat) : Int) = (hd : Nat) := fun h => by
    rw [hhd]
    cases hl : s.data.toList with
    | nil => rw [hl] at hlen; simp at hlen; omega
    | cons a l =>
      have : s[0] = a := by
        have h2 : s.data.toList[0]'(by rw [hlen]; exact h) = a := by simp [hl]
        rw [← h2]; simp; rfl
      rw [this]; rfl
  have hd8 : hd < 256 := by rw [hhd]; exact (s.data.toList.headD 0).toNat_lt
  clear hlen hhd
  generalize (s.data.toList.all fun b => sgT b.toNat) = b at *
  by_cases h0 : 0 < s.size
  · have d0 : decide ((0 : Int) < (s.size : Int)) = true := decide_eq_true (by omega)
    have dd := h0d h0
    have hw : IntKind.i32.wrap ((hd : Nat) : Int) = (hd : Nat) := by simp [IntKind.wrap, IntKind.bits, IntKind.signed]; omega
    by_cases h40 : s.size ≤ 40
    · have d1 : decide ((s.size : Int) ≤ 40) = true := decide_eq_true (by omega)
      have HW : Hid (isNameB s.data.toList = (!dgT hd && b)) := by
        show _ = _
        rw [HV.out, decide_eq_true (show 1 ≤ s.size by omega), decide_eq_true h40]; rfl
      clear h40 h0d hd8
      cases hb : dgT hd with
      | true =>
        rw [hb] at HD HW
        have HW2 : Hid (isNameB s.data.toList = false) := HW.out
        clear HV hb
        go_enter Tryz.func122, Tryz.ntmps122
        go_wp2_with (go_at_call 157; refine (HD.out _).mono ?_; rintro e w2 ⟨rfl, rfl⟩)
        go_ret
        exact ⟨by rw [HW2.out]; rfl, Below.refl _ _⟩
      | false =>
        rw [hb] at HD HW
        have HW2 : Hid (isNameB s.data.toList = b) := by show _ = _; rw [HW.out]; rfl
        clear HV hb
        cases b with
        | true =>
          go_enter Tryz.func122, Tryz.ntmps122
          go_wp2_with (first | (go_at_call 157; refine (HD.out _).mono ?_; rintro e w2 ⟨rfl, rfl⟩) | (go_at_call 158; refine (HC.out _).mono ?_; rintro e w2 ⟨rfl, hb2⟩; have HB2 := Lib.hid hb2; clear hb2))
          go_ret
          exact ⟨by rw [HW2.out]; rfl, HB2.out⟩
        | false =>
          go_enter Tryz.func122, Tryz.ntmps122
          go_wp2_with (first | (go_at_call 157; refine (HD.out _).mono ?_; rintro e w2 ⟨rfl, rfl⟩) | (go_at_call 158; refine (HC.out _).mono ?_; rintro e w2 ⟨rfl, hb2⟩; have HB2 := Lib.hid hb2; clear hb2))
          go_ret
          exact ⟨by rw [HW2.out]; rfl, HB2.out⟩
    · have d1 : decide ((s.size : Int) ≤ 40) = false := decide_eq_false (by omega)
      have HW : Hid (isNameB s.data.toList = false) := by show _ = _; rw [HV.out, decide_eq_false h40, Bool.false_and, Bool.and_false]
      have d0p : (0 : Int) < (s.size : Int) := by omega
      have d2 : decide (s.size ≤ 40) = false := decide_eq_false h40
      clear h0 h40 HV h0d dd hw hd8 HD d0
      go_enter Tryz.func122, Tryz.ntmps122
      go_wp2
      go_ret
      exact ⟨by rw [HW.out]; rfl, Below.refl _ _⟩
  · have d1 : decide ((0 : Int) < (s.size : Int)) = false := decide_eq_false (by omega)
    have d2 : decide (0 < s.size) = false := decide_eq_false h0
    have HW : Hid (isNameB s.data.toList = false) := by show _ = _; rw [HV.out, decide_eq_false (show ¬ 1 ≤ s.size by omega), Bool.false_and]
    clear h0 HV h0d hd8 HD
    go_enter Tryz.func122, Tryz.ntmps122
    go_wp2
    go_ret
    exact ⟨by rw [HW.out]; rfl, Below.refl _ _⟩
end Go.Proofs.YtafiekelcoaadaaGreat
