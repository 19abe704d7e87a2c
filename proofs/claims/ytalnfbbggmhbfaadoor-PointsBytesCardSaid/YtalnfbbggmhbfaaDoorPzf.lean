/- The walk of the document's begins: is a text the beginning of a code point's bytes? -/
import Derived.Test.YtalnfbbggmhbfaaDoorPze
namespace Go.Proofs.YtalnfbbggmhbfaaDoor
open Go.RowKit Tnd

theorem lng_le (b : Nat) : lng b ≤ 4 := by
  unfold lng
  split
  · omega
  · split
    · omega
    · split
      · omega
      · split <;> omega
theorem first_any (s : ByteArray) (b : UInt8) (t : List UInt8) (w : World) (hs : s.data.toList = b :: t) (hn : lng b.toNat = t.length + 1) :
    Calls Tryd.prog 16 #[.string s] w fun e w' => e = .returned (.tuple #[.int .i64 ((fst (b :: t) : Nat) : Int), .bool (fstOk (b :: t))]) ∧ Below w.heap.size w w' := by
  have h4 := lng_le b.toNat
  rcases (show t.length = 0 ∨ t.length = 1 ∨ t.length = 2 ∨ t.length = 3 by omega) with h | h | h | h
  · exact first_1 s b t w hs (by omega) h
  · exact first_2 s b t w hs (by omega) h
  · exact first_3 s b t w hs (by omega) h
  · exact first_4 s b t w hs (by omega) h

theorem add_data (s m : ByteArray) : (s ++ m).data.toList = s.data.toList ++ m.data.toList := by
  rw [ByteArray.data_append, Array.toList_append]

set_option maxHeartbeats 1600000 in
set_option maxRecDepth 100000 in
theorem begins_step (s : ByteArray) (w : World) (hsz : s.size ≤ 1000000000000) (ih : ∀ (s' : ByteArray) (w' : World), s'.size = s.size + 1 → s'.size ≤ 4 → Calls Tryd.prog 15 #[.string s'] w' fun e w'' => e = .returned (.bool (pt s'.data.toList).2.isEmpty) ∧ Below w'.heap.size w' w'') :
    Calls Tryd.prog 15 #[.string s] w fun e w' => e = .returned (.bool (pt s.data.toList).2.isEmpty) ∧ Below w.heap.size w w' := by
  rcases hd : s.data.toList with _ | ⟨b, t⟩
  · obtain ⟨h1, h2, h3⟩ := str_nil hd
    have h3I : (s.size : Int) ≤ 0 := by omega
    clear hd hsz ih
    go_enter Tryd.func15, Tryd.ntmps15
    go_wp2
    go_ret
    exact ⟨rfl, Below.refl _ _⟩
  · obtain ⟨_, _, h0, hb0, _, hsz2⟩ := str_cons hd
    have HLN := Lib.hid (long_any b.toNat w)
    have HD := Lib.hid hd
    have h4 := lng_le b.toNat
    obtain ⟨L, hL⟩ : ∃ L, L = lng b.toNat := ⟨_, rfl⟩
    rw [← hL] at HLN h4
    have hLI : (L : Int) ≤ 4 := by omega
    have hsI : (s.size : Int) ≤ 1000000000000 := by omega
    have hs0 : 0 < (s.size : Int) := by omega
    have hne : ((s.size : Int) == 0) = false := by rw [beq_eq_false_iff_ne]; omega
    by_cases c1 : L < s.size
    · have HR := Lib.hid (over_no (b := b) (s := t) (by omega))
      have c1I : (L : Int) < s.size := by omega
      clear hd ih hsz2 hL h4 hsz c1
      go_enter Tryd.func15, Tryd.ntmps15
      go_wp2_with (go_at_call 14; refine HLN.out.mono ?_; rintro e w' ⟨rfl, rfl⟩)
      go_ret
      rw [HR.out]
      exact ⟨rfl, Below.refl _ _⟩
    · by_cases c2 : L = s.size
      · have HF := Lib.hid (first_any s b t w hd (by omega))
        have HR := Lib.hid (full_ok (b := b) (s := t) (by omega))
        have c1I : (s.size : Int) ≤ (L : Int) := by omega
        have c2B : ((L : Int) == (s.size : Int)) = true := by rw [beq_iff_eq]; omega
        clear hd ih hsz2 hL h4 hsz c1 c2
        go_enter Tryd.func15, Tryd.ntmps15
        go_wp2_with (first | (go_at_call 14; refine HLN.out.mono ?_; rintro e w' ⟨rfl, rfl⟩) | (go_at_call 16; refine HF.out.mono ?_; rintro e w2 ⟨rfl, hb2⟩))
        go_ret
        rw [← HR.out]
        exact ⟨rfl, hb2⟩
      · have c3 : s.size < L := by omega
        have HR := Lib.hid (less_or (b := b) (s := t) (by omega))
        have H1 : Hid (∀ W : World, Calls Tryd.prog 15 #[.string (s ++ ⟨#[128]⟩)] W fun e w' => e = .returned (.bool (pt (b :: t ++ [128])).2.isEmpty) ∧ Below W.heap.size W w') := by
          intro W
          have h := ih (s ++ ⟨#[128]⟩) W (by rw [ByteArray.size_append]; rfl) (by rw [ByteArray.size_append]; show s.size + 1 ≤ 4; omega)
          rw [add_data, hd] at h
          exact h
        have H2 : Hid (∀ W : World, Calls Tryd.prog 15 #[.string (s ++ ⟨#[191]⟩)] W fun e w' => e = .returned (.bool (pt (b :: t ++ [191])).2.isEmpty) ∧ Below W.heap.size W w') := by
          intro W
          have h := ih (s ++ ⟨#[191]⟩) W (by rw [ByteArray.size_append]; rfl) (by rw [ByteArray.size_append]; show s.size + 1 ≤ 4; omega)
          rw [add_data, hd] at h
          exact h
        have c1I : (s.size : Int) < (L : Int) := by omega
        have c2B : ((L : Int) == (s.size : Int)) = false := by rw [beq_eq_false_iff_ne]; omega
        obtain ⟨r1, hr1⟩ : ∃ r1, r1 = (pt (b :: t ++ [128])).2.isEmpty := ⟨_, rfl⟩
        obtain ⟨r2, hr2⟩ : ∃ r2, r2 = (pt (b :: t ++ [191])).2.isEmpty := ⟨_, rfl⟩
        rw [← hr1] at H1
        rw [← hr2] at H2
        rw [← hr1, ← hr2] at HR
        clear hd ih hsz2 hL h4 hsz c1 c2 c3 hr1 hr2
        cases r1 with
        | true =>
          go_enter Tryd.func15, Tryd.ntmps15
          go_wp2_with (go_at_call 14; refine HLN.out.mono ?_; rintro e w' ⟨rfl, rfl⟩)
          refine (H1.out _).mono ?_
          rintro e w2 ⟨rfl, hb2⟩
          have HB2 := Lib.hid hb2
          clear hb2
          go_wp2
          go_ret
          rw [HR.out]
          exact ⟨rfl, HB2.out⟩
        | false =>
          go_enter Tryd.func15, Tryd.ntmps15
          go_wp2_with (go_at_call 14; refine HLN.out.mono ?_; rintro e w' ⟨rfl, rfl⟩)
          refine (H1.out _).mono ?_
          rintro e w2 ⟨rfl, hb2⟩
          have HB2 := Lib.hid hb2
          clear hb2
          go_wp2_with (go_at_call 15; refine (H2.out _).mono ?_; rintro e w3 ⟨rfl, hb3⟩)
          go_ret
          rw [HR.out]
          exact ⟨rfl, bl_trans HB2.out hb3⟩
theorem begins_any (s : ByteArray) (w : World) (hsz : s.size ≤ 1000000000000) : Calls Tryd.prog 15 #[.string s] w fun e w' => e = .returned (.bool (pt s.data.toList).2.isEmpty) ∧ Below w.heap.size w w' := by
  have key : ∀ (n : Nat) (s : ByteArray) (w : World), s.size ≤ 1000000000000 → 4 - s.size ≤ n → Calls Tryd.prog 15 #[.string s] w fun e w' => e = .returned (.bool (pt s.data.toList).2.isEmpty) ∧ Below w.heap.size w w' := by
    intro n
    induction n with
    | zero => intro s w h1 h2; exact begins_step s w h1 (fun s' w' e h => by omega)
    | succ n ih => intro s w h1 h2; exact begins_step s w h1 (fun s' w' e h => ih s' w' (by omega) (by omega))
  exact key 4 s w hsz (by omega)
end Go.Proofs.YtalnfbbggmhbfaaDoor
