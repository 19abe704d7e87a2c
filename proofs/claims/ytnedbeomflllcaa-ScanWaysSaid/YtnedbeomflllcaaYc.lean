/- The walks of a scan's small calls: peek and next in one form, worth, among, oneOf. -/
import Derived.Test.YtnedbeomflllcaaYp
namespace Go.Proofs.Ytnedbeomflllcaa
open Go.RowKit Tnd

/-- what a call on a scan's cells leaves: what it tells; the place; nothing else has turned. -/
def CP (w : World) (B b : Nat) (T : TypeId) (R : List Value) (l : List Int) (v : Value) (k' : Nat) (e : Ending) (w' : World) : Prop :=
  e = .returned v ∧ Cu w' B b T R l k' ∧ w.grownBy w' (some b)
def hdR (l : List Int) (k : Nat) : Int := if k < l.length then gi l k else 0
theorem peek_any (B b : Nat) (T : TypeId) (R : List Value) (l : List Int) (k : Nat) (w : World) (h : Cu w B b T R l k) :
    Calls Try.prog 25 #[.pointer (some ⟨b, 0, none⟩)] w (CP w B b T R l (.tuple #[.int .i64 (hdR l k), .bool (decide (k < l.length))]) k) := by
  unfold hdR
  by_cases hk : k < l.length
  · rw [if_pos hk, decide_eq_true hk]
    refine (peek_yes B b T R l k w h hk).mono ?_
    rintro e w' ⟨rfl, n, rfl⟩
    exact ⟨rfl, h.drewN n, grown_drewN _ _ _⟩
  · rw [if_neg hk, decide_eq_false hk]
    have hk2 : k = l.length := by have := h.le; omega
    subst hk2
    refine (peek_no B b T R l w h).mono ?_
    rintro e w' ⟨rfl, n, rfl⟩
    exact ⟨rfl, h.drewN n, grown_drewN _ _ _⟩
theorem CP.seq {w w1 : World} {B b : Nat} {T : TypeId} {R : List Value} {l : List Int} {v : Value} {k' : Nat} {e : Ending} {w' : World} (h : CP w1 B b T R l v k' e w') (hg : w.grownBy w1 (some b)) : CP w B b T R l v k' e w' := ⟨h.1, h.2.1, hg.trans h.2.2⟩
set_option maxHeartbeats 800000 in
theorem next_any (B b : Nat) (T : TypeId) (R : List Value) (l : List Int) (k : Nat) (w : World) (h : Cu w B b T R l k) :
    Calls Try.prog 20 #[.pointer (some ⟨b, 0, none⟩)] w (CP w B b T R l (.tuple #[.int .i64 (hdR l k), .bool (decide (k < l.length))]) (if k < l.length then k + 1 else k)) := by
  have hp := peek_any B b T R l k w h
  have hkl := h.le
  obtain ⟨x, hx⟩ : ∃ x, x = hdR l k := ⟨_, rfl⟩
  rw [← hx] at hp ⊢
  have hkI : (k : Int) ≤ 1000000 := by omega
  have HKL := Lib.hid hkl
  clear hx h hkl
  by_cases hk : k < l.length
  · rw [if_pos hk]
    rw [decide_eq_true hk] at hp ⊢
    have HK := Lib.hid hk
    have HP := Lib.hid hp
    clear hk hp
    go_enter Try.func20, Try.ntmps20
    go_wp2_with fail
    refine HP.out.mono ?_
    rintro e w1 ⟨rfl, hc, hg⟩
    have h1 := hc.cell1
    have hf := hc.frz 1
    have HC := Lib.hid hc
    have HG := Lib.hid hg
    clear hc hg
    go_wp2
    go_ret2
    exact ⟨rfl, HC.out.set (k + 1) HK.out, HG.out.trans (grown_set w1 ⟨b, 1, none⟩ _)⟩
  · rw [if_neg hk]
    rw [decide_eq_false hk] at hp ⊢
    have HP := Lib.hid hp
    clear hk hp
    go_enter Try.func20, Try.ntmps20
    go_wp2_with fail
    refine HP.out.mono ?_
    rintro e w1 ⟨rfl, hc, hg⟩
    go_wp2
    go_ret2
    exact ⟨rfl, hc, hg⟩

theorem ret_int {k : IntKind} {a b : Int} (h : a = b) : Ending.returned (.int k a) = .returned (.int k b) := by rw [h]
theorem worth_any (p : Int) (w : World) : Calls Try.prog 32 #[.int .i64 p] w fun e w' => e = .returned (.int .i64 (wth p)) ∧ w' = w := by
  have hcase : (48 ≤ p ∧ p ≤ 57) ∨ (97 ≤ p ∧ p ≤ 102) ∨ (65 ≤ p ∧ p ≤ 70) ∨ (p < 48) ∨ (57 < p ∧ p < 65) ∨ (70 < p ∧ p < 97) ∨ (102 < p) := by omega
  have HV := Lib.hid (rfl : wth p = wth p)
  rcases hcase with h | h | h | h | h | h | h
  all_goals
    have hw : ∃ x, wth p = x ∧ (x = if 48 ≤ p ∧ p ≤ 57 then p - 48 else if 97 ≤ p ∧ p ≤ 102 then p - 97 + 10 else if 65 ≤ p ∧ p ≤ 70 then p - 65 + 10 else 16) := ⟨_, rfl, rfl⟩
    obtain ⟨x, hx, hy⟩ := hw
    rw [hx]
    have HY := Lib.hid hy
    clear hy hx HV
    go_enter Try.func32, Try.ntmps32
    go_wp2
    go_ret
    refine ⟨?_, rfl⟩
    refine ret_int ?_
    have e := HY.out
    clear HY
    (repeat' split at e) <;> omega

set_option maxHeartbeats 800000 in
theorem among_any (p : Int) (s : ByteArray) (w : World) (hs : s.size ≤ 1000000) :
    Calls Try.prog 34 #[.int .i64 p, .string s] w fun e w' => e = .returned (.bool (amg p s.data.toList)) ∧ w' = w := by
  have hsI : (s.size : Int) ≤ 1000000 := by omega
  have hsl : s.data.toList.length = s.size := by simp
  have HSL := Lib.hid hsl
  clear hs hsl
  go_enter Try.func34, Try.ntmps34
  go_wp2
  go_loop [8] (fun iv => ∃ (k : Nat), k ≤ s.size ∧ iv = .int .i64 (k : Nat) ∧ Hid (∀ j, (hj : j < s.data.toList.length) → j < k → p ≠ (s.data.toList[j].toNat : Int))) (fun iv => s.size - (intOf iv).toNat)
  case atStart => exact ⟨0, Nat.zero_le _, rfl, fun j _ h => by omega⟩
  case round =>
    obtain ⟨k, hk, rfl, HE⟩ := hrel
    by_cases hkn : k < s.size
    · have hkI : (k : Int) < s.size := by omega
      have hbyte : ∀ h2 : k < s.data.toList.length, s.data.toList[k] = s[k] := fun _ => by simp; rfl
      obtain ⟨x, hx⟩ : ∃ x, x = s[k].toNat := ⟨_, rfl⟩
      have hx8 : x < 256 := by rw [hx]; exact s[k].toNat_lt
      have hxe : ((s[k].toNat : Nat) : Int) = (x : Int) := by rw [hx]
      have hk2 : k < s.data.toList.length := by rw [HSL.out]; exact hkn
      have HX : Hid (∀ h2 : k < s.data.toList.length, s.data.toList[k].toNat = x) := fun h2 => by rw [hbyte h2, ← hx]
      have HK2 := Lib.hid hk2
      clear hx hbyte hk2
      by_cases hp : p = (x : Int)
      · have hpx : (p == (x : Int)) = true := by rw [hp]; simp
        have HP := Lib.hid hp
        clear hp
        go_wp2
        go_ret
        refine ⟨ret_bool ?_, rfl⟩
        rw [amg_of HK2.out (by rw [HX.out HK2.out]; exact HP.out)]
      · have hpx : (p == (x : Int)) = false := by rw [beq_eq_false_iff_ne]; exact hp
        have HP := Lib.hid hp
        clear hp
        go_wp2
        go_round
        case rel =>
          refine ⟨k + 1, by omega, by go_num, fun j hj hjk => ?_⟩
          by_cases e : j = k
          · subst e; rw [HX.out hj]; exact HP.out
          · exact HE.out j hj (by omega)
        case measure => simp [intOf]; omega
    · have hkI : (s.size : Int) ≤ k := by omega
      go_wp2
      go_ret
      refine ⟨ret_bool ?_, rfl⟩
      rw [amg_no (fun j hj => HE.out j hj (by have := HSL.out; omega))]

set_option maxHeartbeats 800000 in
/-- the next one, if it is one of a text's bytes. -/
theorem oneOf_any (B b : Nat) (T : TypeId) (R : List Value) (l : List Int) (k : Nat) (s : ByteArray) (w : World) (h : Cu w B b T R l k) (hs : s.size ≤ 1000000) :
    Calls Try.prog 33 #[.pointer (some ⟨b, 0, none⟩), .string s] w (CP w B b T R l (.tuple #[.int .i64 (if k < l.length ∧ amg (gi l k) s.data.toList = true then gi l k else 0), .bool (decide (k < l.length ∧ amg (gi l k) s.data.toList = true))]) (if k < l.length ∧ amg (gi l k) s.data.toList = true then k + 1 else k)) := by
  have hp := peek_any B b T R l k w h
  have HC := Lib.hid h
  have HS := Lib.hid hs
  clear h
  by_cases hk : k < l.length
  · have hx : hdR l k = gi l k := by unfold hdR; rw [if_pos hk]
    rw [hx, decide_eq_true hk] at hp
    have hn : ∀ w1 : World, Cu w1 B b T R l k → Calls Try.prog 20 #[.pointer (some ⟨b, 0, none⟩)] w1 (CP w1 B b T R l (.tuple #[.int .i64 (gi l k), .bool true]) (k + 1)) := fun w1 h1 => by
      have := next_any B b T R l k w1 h1
      rw [hx, decide_eq_true hk, if_pos hk] at this
      exact this
    clear hx
    obtain ⟨x, hx⟩ : ∃ x, x = gi l k := ⟨_, rfl⟩
    rw [← hx] at hp ⊢
    have HN : Hid (∀ w1 : World, Cu w1 B b T R l k → Calls Try.prog 20 #[.pointer (some ⟨b, 0, none⟩)] w1 (CP w1 B b T R l (.tuple #[.int .i64 x, .bool true]) (k + 1))) := by rw [hx]; exact hn
    have HP := Lib.hid hp
    clear hp hn hx
    by_cases ha : amg x s.data.toList = true
    · rw [if_pos ⟨hk, ha⟩, if_pos ⟨hk, ha⟩, decide_eq_true ⟨hk, ha⟩]
      have HK := Lib.hid hk
      clear hk
      go_enter Try.func33, Try.ntmps33
      go_wp2_with fail
      refine HP.out.mono ?_
      rintro e w1 ⟨rfl, hc, hg⟩
      have HC1 := Lib.hid hc
      have HG1 := Lib.hid hg
      clear hc hg
      go_wp2_with (first
        | (go_at_call 34; refine (among_any _ _ _ HS.out).mono ?_; rintro e w2 ⟨rfl, rfl⟩; rw [ha])
        | (go_at_call 20; refine (HN.out _ HC1.out).mono ?_; rintro e w3 ⟨rfl, hc3, hg3⟩; have HC3 := Lib.hid hc3; have HG3 := Lib.hid hg3; clear hc3 hg3))
      go_ret2
      exact ⟨rfl, HC3.out, HG1.out.trans HG3.out⟩
    · have ha2 : amg x s.data.toList = false := by simpa using ha
      rw [if_neg (fun h => ha h.2), if_neg (fun h => ha h.2), decide_eq_false (fun h => ha h.2)]
      clear hk ha
      go_enter Try.func33, Try.ntmps33
      go_wp2_with fail
      refine HP.out.mono ?_
      rintro e w1 ⟨rfl, hc, hg⟩
      have HC1 := Lib.hid hc
      have HG1 := Lib.hid hg
      clear hc hg
      go_wp2_with (go_at_call 34; refine (among_any _ _ _ HS.out).mono ?_; rintro e w2 ⟨rfl, rfl⟩; rw [ha2])
      go_ret2
      exact ⟨rfl, HC1.out, HG1.out⟩
  · rw [if_neg (fun h => hk h.1), if_neg (fun h => hk h.1), decide_eq_false (fun h => hk h.1)]
    have hx : hdR l k = 0 := by unfold hdR; rw [if_neg hk]
    rw [hx, decide_eq_false hk] at hp
    have HP := Lib.hid hp
    clear hp hx hk
    go_enter Try.func33, Try.ntmps33
    go_wp2_with fail
    refine HP.out.mono ?_
    rintro e w1 ⟨rfl, hc, hg⟩
    have HC1 := Lib.hid hc
    have HG1 := Lib.hid hg
    clear hc hg
    go_wp2
    go_ret2
    exact ⟨rfl, HC1.out, HG1.out⟩
end Go.Proofs.Ytnedbeomflllcaa
