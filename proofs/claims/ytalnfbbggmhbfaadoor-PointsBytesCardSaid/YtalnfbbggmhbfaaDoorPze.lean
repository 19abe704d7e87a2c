/- The walk of the document's first: the code point whose bytes a text is. -/
import Derived.Test.YtalnfbbggmhbfaaDoorPzd
import Derived.Deep.RegionHeld3
namespace Go.Proofs.YtalnfbbggmhbfaaDoor
open Go.RowKit Tnd

theorem wrB_nat (c : Nat) : wrB (c : Int) = wholeB c := by
  rw [Bool.eq_iff_iff, wrB_iff, wholeB_iff]
  simp
def stepF (c : Nat) (x : UInt8) : Nat := c * 64 + x.toNat % 64
theorem fold_lt (l : List UInt8) : ∀ c : Nat, l.foldl stepF c + 1 ≤ (c + 1) * 64 ^ l.length := by
  induction l with
  | nil => intro c; simp
  | cons x l ih =>
    intro c
    have h := ih (stepF c x)
    have h2 : (stepF c x + 1) * 64 ^ l.length ≤ ((c + 1) * 64) * 64 ^ l.length := Nat.mul_le_mul_right _ (by unfold stepF; omega)
    rw [List.foldl_cons, List.length_cons, Nat.pow_succ, Nat.mul_comm (64 ^ l.length) 64, ← Nat.mul_assoc]
    omega
theorem str_at {s : ByteArray} {b : UInt8} {t : List UInt8} (h : s.data.toList = b :: t) (k : Nat) (hk : k + 1 < s.size) : ∃ hk2 : k < t.length, s[k + 1] = t[k] := by
  have h3 : s.size = t.length + 1 := by
    have := congrArg List.length h
    simpa using this
  refine ⟨by omega, ?_⟩
  have hl : k + 1 < s.data.toList.length := by rw [h]; simp; omega
  have h8 : s.data.toList[k + 1]? = some t[k] := by rw [h]; simp
  rw [List.getElem?_eq_getElem hl] at h8
  have h9 : s.data[k + 1]'(by simpa using hl) = t[k] := by simpa using h8
  exact h9

set_option maxHeartbeats 3200000 in
set_option maxRecDepth 100000 in
theorem first_1 (s : ByteArray) (b : UInt8) (t : List UInt8) (w : World) (hs : s.data.toList = b :: t) (hn : lng b.toNat = 1) (ht : t.length = 0) :
    Calls Tryd.prog 16 #[.string s] w fun e w' => e = .returned (.tuple #[.int .i64 ((fst (b :: t) : Nat) : Int), .bool (fstOk (b :: t))]) ∧ Below w.heap.size w w' := by
  obtain ⟨_, _, h0, hb0, _, hsz⟩ := str_cons hs
  have hsz2 : s.size = 1 := by omega
  have HS := Lib.hid hs
  have HLN := Lib.hid (long_any b.toNat w)
  rw [hn] at HLN
  have hbl : (b.toNat : Int) ≤ 255 := by have := b.toNat_lt; omega
  have HFST := Lib.hid (show fst (b :: t) = t.foldl stepF b.toNat by
    show t.foldl stepF (if t.length = 0 then b.toNat else b.toNat % 2 ^ (6 - t.length)) = _
    rw [ht]
    rfl)
  have HLT := Lib.hid (fun k => fold_lt (t.take k) b.toNat)
  have HOK := Lib.hid (show fstOk (b :: t) = (wholeB (fst (b :: t)) && decide (enc (fst (b :: t)) = b :: t)) by
    show (decide (lng b.toNat = t.length + 1) && (wholeB (fst (b :: t)) && decide (enc (fst (b :: t)) = b :: t))) = _
    rw [hn, ht]
    rfl)
  have HSZ := Lib.hid hsz2
  have HT := Lib.hid ht
  clear hs hn hsz ht
  go_enter Tryd.func16, Tryd.ntmps16
  go_wp2_with (go_at_call 14; refine HLN.out.mono ?_; rintro e w' ⟨rfl, rfl⟩)
  go_loop [4, 5] (fun cv iv => ∃ (k c : Nat), k + 1 ≤ 1 ∧ cv = .int .i64 (c : Nat) ∧ iv = .int .i64 ((k : Int) + 1) ∧ Hid (c = (t.take k).foldl stepF b.toNat)) (fun _ iv => 1 - (intOf iv).toNat)
  case atStart => exact ⟨0, b.toNat, by omega, by first | rfl | (push_cast; rfl), rfl, rfl⟩
  case round =>
    obtain ⟨k, c, hk, rfl, rfl, HC⟩ := hrel
    have hcb : (c : Int) ≤ 100000000 := by
      have h1 := HC.out
      have h2 := HLT.out k
      have h3 := HT.out
      have hb := b.toNat_lt
      have h4 : (t.take k).length = k := by rw [List.length_take]; omega
      rw [h4, ← h1] at h2
      have h5 : (b.toNat + 1) * 64 ^ k ≤ 256 * 64 ^ k := Nat.mul_le_mul_right _ (by omega)
      have h6 : 64 ^ k ≤ 64 ^ 3 := Nat.pow_le_pow_right (by omega) (by omega)
      omega
    have hkk : k = 0 := by omega
    have hcf : c = fst (b :: t) := by
      rw [HC.out, HFST.out, List.take_of_length_le (by have := HT.out; omega)]
    have hkI : 1 ≤ (k : Int) + 1 := by omega
    have HCF := Lib.hid hcf
    clear hcf hkk
    rcases hw : wrB (c : Int) with _ | _
    · have HWH : Hid (∀ W : World, Calls Tryd.prog 32 #[.int .i64 (c : Nat)] W fun e w' => e = .returned (.bool false) ∧ w' = W) := by
        intro W
        have h := whole_any (c : Nat) W
        rw [hw] at h
        exact h.mono fun _ _ h => ⟨h.1, h.2.symm⟩
      go_wp2
      go_quiet ((go_at_call 32; exact (HWH.out _).mono fun _ _ h => ⟨h.1, _, h.2⟩))
      go_wp2
      go_ret2
      have hfo : fstOk (b :: t) = false := by rw [HOK.out, ← HCF.out, ← wrB_nat, hw]; rfl
      rw [hfo, ← HCF.out]
      exact ⟨rfl, Joins.below_draws _ _ _⟩
    · have HWH : Hid (∀ W : World, Calls Tryd.prog 32 #[.int .i64 (c : Nat)] W fun e w' => e = .returned (.bool true) ∧ w' = W) := by
        intro W
        have h := whole_any (c : Nat) W
        rw [hw] at h
        exact h.mono fun _ _ h => ⟨h.1, h.2.symm⟩
      have hc1 : c ≤ 1114111 := by have := (wrB_iff.1 hw).2.1; simpa using this
      have HBY : Hid (∀ W : World, Calls Tryd.prog 33 #[.int .i64 (c : Nat)] W fun e w' => ∃ p n cp, e = .returned (.slice p n cp) ∧ Hid (Below W.heap.size W w') ∧ (∀ W', W'.heap = w'.heap → (convert 23 9 (.slice p n cp)).run Tryd.prog W' = .ok (.string ⟨((encN c).map UInt8.ofNat).toArray⟩) W')) := by
        intro W
        refine (bytes_any c W hc1).mono ?_
        rintro e w' ⟨p, cp, rfl, ho, hb⟩
        refine ⟨p, _, cp, rfl, hb, fun W' hW' => ?_⟩
        refine back_text (B := W.heap.size) ?_ (encN_bytes hc1)
        unfold Own World.ownsRow at ho ⊢
        rw [hW']; exact ho
      obtain ⟨S2, hS2⟩ : ∃ S2 : ByteArray, S2 = ⟨((encN c).map UInt8.ofNat).toArray⟩ := ⟨_, rfl⟩
      rw [← hS2] at HBY
      have HS2 := Lib.hid (show S2.data.toList = enc c by rw [hS2]; rfl)
      clear hS2 hc1
      go_wp2
      go_region_with (first | (go_at_call 32; (with_reducible refine (HWH.out _).mono ?_); rintro e w' ⟨rfl, hw'⟩; obtain rfl := hw'.symm; clear hw') | (go_at_call 33; (with_reducible refine (HBY.out _).mono ?_); rintro e w2 ⟨p2, n2, c2, rfl, hb2, hcv⟩; have hcv2 := hcv w2 rfl; have hcv3 := hcv w2.drew rfl; clear hcv))
      go_wp2
      go_ret2
      have hfo : fstOk (b :: t) = (S2.toList == s.toList) := by
        rw [HOK.out, ← HCF.out, ← wrB_nat, hw, Bool.true_and, ByteArray.toList_eq, ByteArray.toList_eq, HS2.out, HS.out, Bool.eq_iff_iff, decide_eq_true_iff, beq_iff_eq]
      rw [hfo, ← HCF.out]
      exact ⟨rfl, by first | exact hb2.out | exact bl_trans (bl_drew _) hb2.out⟩


set_option maxHeartbeats 3200000 in
set_option maxRecDepth 100000 in
theorem first_2 (s : ByteArray) (b : UInt8) (t : List UInt8) (w : World) (hs : s.data.toList = b :: t) (hn : lng b.toNat = 2) (ht : t.length = 1) :
    Calls Tryd.prog 16 #[.string s] w fun e w' => e = .returned (.tuple #[.int .i64 ((fst (b :: t) : Nat) : Int), .bool (fstOk (b :: t))]) ∧ Below w.heap.size w w' := by
  obtain ⟨_, _, h0, hb0, _, hsz⟩ := str_cons hs
  have hsz2 : s.size = 2 := by omega
  have HS := Lib.hid hs
  have HLN := Lib.hid (long_any b.toNat w)
  rw [hn] at HLN
  have hbl : (b.toNat : Int) ≤ 255 := by have := b.toNat_lt; omega
  have HFST := Lib.hid (show fst (b :: t) = t.foldl stepF (b.toNat % 32) by
    show t.foldl stepF (if t.length = 0 then b.toNat else b.toNat % 2 ^ (6 - t.length)) = _
    rw [ht]
    rfl)
  have HLT := Lib.hid (fun k => fold_lt (t.take k) (b.toNat % 32))
  have HOK := Lib.hid (show fstOk (b :: t) = (wholeB (fst (b :: t)) && decide (enc (fst (b :: t)) = b :: t)) by
    show (decide (lng b.toNat = t.length + 1) && (wholeB (fst (b :: t)) && decide (enc (fst (b :: t)) = b :: t))) = _
    rw [hn, ht]
    rfl)
  have HSZ := Lib.hid hsz2
  have HT := Lib.hid ht
  clear hs hn hsz ht
  go_enter Tryd.func16, Tryd.ntmps16
  go_wp2_with (go_at_call 14; refine HLN.out.mono ?_; rintro e w' ⟨rfl, rfl⟩)
  go_loop [4, 5] (fun cv iv => ∃ (k c : Nat), k + 1 ≤ 2 ∧ cv = .int .i64 (c : Nat) ∧ iv = .int .i64 ((k : Int) + 1) ∧ Hid (c = (t.take k).foldl stepF (b.toNat % 32))) (fun _ iv => 2 - (intOf iv).toNat)
  case atStart => exact ⟨0, (b.toNat % 32), by omega, by first | rfl | (push_cast; rfl), rfl, rfl⟩
  case round =>
    obtain ⟨k, c, hk, rfl, rfl, HC⟩ := hrel
    have hcb : (c : Int) ≤ 100000000 := by
      have h1 := HC.out
      have h2 := HLT.out k
      have h3 := HT.out
      have hb := b.toNat_lt
      have h4 : (t.take k).length = k := by rw [List.length_take]; omega
      rw [h4, ← h1] at h2
      have h5 : ((b.toNat % 32) + 1) * 64 ^ k ≤ 256 * 64 ^ k := Nat.mul_le_mul_right _ (by omega)
      have h6 : 64 ^ k ≤ 64 ^ 3 := Nat.pow_le_pow_right (by omega) (by omega)
      omega
    by_cases hkn : k + 1 < 2
    · obtain ⟨hk2, hsk⟩ := str_at HS.out k (by rw [HSZ.out]; exact hkn)
      have HSK := Lib.hid hsk
      have hkI : (k : Int) + 1 < 2 := by omega
      have hkS : k + 1 < s.size := by rw [HSZ.out]; exact hkn
      have hyb : (s[k + 1].toNat : Int) ≤ 255 := by have := (s[k + 1]).toNat_lt; omega
      clear hsk
      go_wp2
      go_round
      case rel =>
        refine ⟨k + 1, stepF c t[k], by omega, ?_, by go_num, ?_⟩
        · rw [HSK.out]; unfold stepF; push_cast; rfl
        · show stepF c t[k] = (t.take (k + 1)).foldl stepF (b.toNat % 32)
          rw [List.take_succ_eq_append_getElem hk2, List.foldl_append, ← HC.out]; rfl
      case measure => simp [intOf]; omega
    · have hkk : k = 1 := by omega
      have hcf : c = fst (b :: t) := by
        rw [HC.out, HFST.out, List.take_of_length_le (by have := HT.out; omega)]
      have hkI : 2 ≤ (k : Int) + 1 := by omega
      have HCF := Lib.hid hcf
      clear hcf hkk
      rcases hw : wrB (c : Int) with _ | _
      · have HWH : Hid (∀ W : World, Calls Tryd.prog 32 #[.int .i64 (c : Nat)] W fun e w' => e = .returned (.bool false) ∧ w' = W) := by
          intro W
          have h := whole_any (c : Nat) W
          rw [hw] at h
          exact h.mono fun _ _ h => ⟨h.1, h.2.symm⟩
        go_wp2
        go_quiet ((go_at_call 32; exact (HWH.out _).mono fun _ _ h => ⟨h.1, _, h.2⟩))
        go_wp2
        go_ret2
        have hfo : fstOk (b :: t) = false := by rw [HOK.out, ← HCF.out, ← wrB_nat, hw]; rfl
        rw [hfo, ← HCF.out]
        exact ⟨rfl, Joins.below_draws _ _ _⟩
      · have HWH : Hid (∀ W : World, Calls Tryd.prog 32 #[.int .i64 (c : Nat)] W fun e w' => e = .returned (.bool true) ∧ w' = W) := by
          intro W
          have h := whole_any (c : Nat) W
          rw [hw] at h
          exact h.mono fun _ _ h => ⟨h.1, h.2.symm⟩
        have hc1 : c ≤ 1114111 := by have := (wrB_iff.1 hw).2.1; simpa using this
        have HBY : Hid (∀ W : World, Calls Tryd.prog 33 #[.int .i64 (c : Nat)] W fun e w' => ∃ p n cp, e = .returned (.slice p n cp) ∧ Hid (Below W.heap.size W w') ∧ (∀ W', W'.heap = w'.heap → (convert 23 9 (.slice p n cp)).run Tryd.prog W' = .ok (.string ⟨((encN c).map UInt8.ofNat).toArray⟩) W')) := by
          intro W
          refine (bytes_any c W hc1).mono ?_
          rintro e w' ⟨p, cp, rfl, ho, hb⟩
          refine ⟨p, _, cp, rfl, hb, fun W' hW' => ?_⟩
          refine back_text (B := W.heap.size) ?_ (encN_bytes hc1)
          unfold Own World.ownsRow at ho ⊢
          rw [hW']; exact ho
        obtain ⟨S2, hS2⟩ : ∃ S2 : ByteArray, S2 = ⟨((encN c).map UInt8.ofNat).toArray⟩ := ⟨_, rfl⟩
        rw [← hS2] at HBY
        have HS2 := Lib.hid (show S2.data.toList = enc c by rw [hS2]; rfl)
        clear hS2 hc1
        go_wp2
        go_region_with (first | (go_at_call 32; (with_reducible refine (HWH.out _).mono ?_); rintro e w' ⟨rfl, hw'⟩; obtain rfl := hw'.symm; clear hw') | (go_at_call 33; (with_reducible refine (HBY.out _).mono ?_); rintro e w2 ⟨p2, n2, c2, rfl, hb2, hcv⟩; have hcv2 := hcv w2 rfl; have hcv3 := hcv w2.drew rfl; clear hcv))
        go_wp2
        go_ret2
        have hfo : fstOk (b :: t) = (S2.toList == s.toList) := by
          rw [HOK.out, ← HCF.out, ← wrB_nat, hw, Bool.true_and, ByteArray.toList_eq, ByteArray.toList_eq, HS2.out, HS.out, Bool.eq_iff_iff, decide_eq_true_iff, beq_iff_eq]
        rw [hfo, ← HCF.out]
        exact ⟨rfl, by first | exact hb2.out | exact bl_trans (bl_drew _) hb2.out⟩


set_option maxHeartbeats 3200000 in
set_option maxRecDepth 100000 in
theorem first_3 (s : ByteArray) (b : UInt8) (t : List UInt8) (w : World) (hs : s.data.toList = b :: t) (hn : lng b.toNat = 3) (ht : t.length = 2) :
    Calls Tryd.prog 16 #[.string s] w fun e w' => e = .returned (.tuple #[.int .i64 ((fst (b :: t) : Nat) : Int), .bool (fstOk (b :: t))]) ∧ Below w.heap.size w w' := by
  obtain ⟨_, _, h0, hb0, _, hsz⟩ := str_cons hs
  have hsz2 : s.size = 3 := by omega
  have HS := Lib.hid hs
  have HLN := Lib.hid (long_any b.toNat w)
  rw [hn] at HLN
  have hbl : (b.toNat : Int) ≤ 255 := by have := b.toNat_lt; omega
  have HFST := Lib.hid (show fst (b :: t) = t.foldl stepF (b.toNat % 16) by
    show t.foldl stepF (if t.length = 0 then b.toNat else b.toNat % 2 ^ (6 - t.length)) = _
    rw [ht]
    rfl)
  have HLT := Lib.hid (fun k => fold_lt (t.take k) (b.toNat % 16))
  have HOK := Lib.hid (show fstOk (b :: t) = (wholeB (fst (b :: t)) && decide (enc (fst (b :: t)) = b :: t)) by
    show (decide (lng b.toNat = t.length + 1) && (wholeB (fst (b :: t)) && decide (enc (fst (b :: t)) = b :: t))) = _
    rw [hn, ht]
    rfl)
  have HSZ := Lib.hid hsz2
  have HT := Lib.hid ht
  clear hs hn hsz ht
  go_enter Tryd.func16, Tryd.ntmps16
  go_wp2_with (go_at_call 14; refine HLN.out.mono ?_; rintro e w' ⟨rfl, rfl⟩)
  go_loop [4, 5] (fun cv iv => ∃ (k c : Nat), k + 1 ≤ 3 ∧ cv = .int .i64 (c : Nat) ∧ iv = .int .i64 ((k : Int) + 1) ∧ Hid (c = (t.take k).foldl stepF (b.toNat % 16))) (fun _ iv => 3 - (intOf iv).toNat)
  case atStart => exact ⟨0, (b.toNat % 16), by omega, by first | rfl | (push_cast; rfl), rfl, rfl⟩
  case round =>
    obtain ⟨k, c, hk, rfl, rfl, HC⟩ := hrel
    have hcb : (c : Int) ≤ 100000000 := by
      have h1 := HC.out
      have h2 := HLT.out k
      have h3 := HT.out
      have hb := b.toNat_lt
      have h4 : (t.take k).length = k := by rw [List.length_take]; omega
      rw [h4, ← h1] at h2
      have h5 : ((b.toNat % 16) + 1) * 64 ^ k ≤ 256 * 64 ^ k := Nat.mul_le_mul_right _ (by omega)
      have h6 : 64 ^ k ≤ 64 ^ 3 := Nat.pow_le_pow_right (by omega) (by omega)
      omega
    by_cases hkn : k + 1 < 3
    · obtain ⟨hk2, hsk⟩ := str_at HS.out k (by rw [HSZ.out]; exact hkn)
      have HSK := Lib.hid hsk
      have hkI : (k : Int) + 1 < 3 := by omega
      have hkS : k + 1 < s.size := by rw [HSZ.out]; exact hkn
      have hyb : (s[k + 1].toNat : Int) ≤ 255 := by have := (s[k + 1]).toNat_lt; omega
      clear hsk
      go_wp2
      go_round
      case rel =>
        refine ⟨k + 1, stepF c t[k], by omega, ?_, by go_num, ?_⟩
        · rw [HSK.out]; unfold stepF; push_cast; rfl
        · show stepF c t[k] = (t.take (k + 1)).foldl stepF (b.toNat % 16)
          rw [List.take_succ_eq_append_getElem hk2, List.foldl_append, ← HC.out]; rfl
      case measure => simp [intOf]; omega
    · have hkk : k = 2 := by omega
      have hcf : c = fst (b :: t) := by
        rw [HC.out, HFST.out, List.take_of_length_le (by have := HT.out; omega)]
      have hkI : 3 ≤ (k : Int) + 1 := by omega
      have HCF := Lib.hid hcf
      clear hcf hkk
      rcases hw : wrB (c : Int) with _ | _
      · have HWH : Hid (∀ W : World, Calls Tryd.prog 32 #[.int .i64 (c : Nat)] W fun e w' => e = .returned (.bool false) ∧ w' = W) := by
          intro W
          have h := whole_any (c : Nat) W
          rw [hw] at h
          exact h.mono fun _ _ h => ⟨h.1, h.2.symm⟩
        go_wp2
        go_quiet ((go_at_call 32; exact (HWH.out _).mono fun _ _ h => ⟨h.1, _, h.2⟩))
        go_wp2
        go_ret2
        have hfo : fstOk (b :: t) = false := by rw [HOK.out, ← HCF.out, ← wrB_nat, hw]; rfl
        rw [hfo, ← HCF.out]
        exact ⟨rfl, Joins.below_draws _ _ _⟩
      · have HWH : Hid (∀ W : World, Calls Tryd.prog 32 #[.int .i64 (c : Nat)] W fun e w' => e = .returned (.bool true) ∧ w' = W) := by
          intro W
          have h := whole_any (c : Nat) W
          rw [hw] at h
          exact h.mono fun _ _ h => ⟨h.1, h.2.symm⟩
        have hc1 : c ≤ 1114111 := by have := (wrB_iff.1 hw).2.1; simpa using this
        have HBY : Hid (∀ W : World, Calls Tryd.prog 33 #[.int .i64 (c : Nat)] W fun e w' => ∃ p n cp, e = .returned (.slice p n cp) ∧ Hid (Below W.heap.size W w') ∧ (∀ W', W'.heap = w'.heap → (convert 23 9 (.slice p n cp)).run Tryd.prog W' = .ok (.string ⟨((encN c).map UInt8.ofNat).toArray⟩) W')) := by
          intro W
          refine (bytes_any c W hc1).mono ?_
          rintro e w' ⟨p, cp, rfl, ho, hb⟩
          refine ⟨p, _, cp, rfl, hb, fun W' hW' => ?_⟩
          refine back_text (B := W.heap.size) ?_ (encN_bytes hc1)
          unfold Own World.ownsRow at ho ⊢
          rw [hW']; exact ho
        obtain ⟨S2, hS2⟩ : ∃ S2 : ByteArray, S2 = ⟨((encN c).map UInt8.ofNat).toArray⟩ := ⟨_, rfl⟩
        rw [← hS2] at HBY
        have HS2 := Lib.hid (show S2.data.toList = enc c by rw [hS2]; rfl)
        clear hS2 hc1
        go_wp2
        go_region_with (first | (go_at_call 32; (with_reducible refine (HWH.out _).mono ?_); rintro e w' ⟨rfl, hw'⟩; obtain rfl := hw'.symm; clear hw') | (go_at_call 33; (with_reducible refine (HBY.out _).mono ?_); rintro e w2 ⟨p2, n2, c2, rfl, hb2, hcv⟩; have hcv2 := hcv w2 rfl; have hcv3 := hcv w2.drew rfl; clear hcv))
        go_wp2
        go_ret2
        have hfo : fstOk (b :: t) = (S2.toList == s.toList) := by
          rw [HOK.out, ← HCF.out, ← wrB_nat, hw, Bool.true_and, ByteArray.toList_eq, ByteArray.toList_eq, HS2.out, HS.out, Bool.eq_iff_iff, decide_eq_true_iff, beq_iff_eq]
        rw [hfo, ← HCF.out]
        exact ⟨rfl, by first | exact hb2.out | exact bl_trans (bl_drew _) hb2.out⟩


set_option maxHeartbeats 3200000 in
set_option maxRecDepth 100000 in
theorem first_4 (s : ByteArray) (b : UInt8) (t : List UInt8) (w : World) (hs : s.data.toList = b :: t) (hn : lng b.toNat = 4) (ht : t.length = 3) :
    Calls Tryd.prog 16 #[.string s] w fun e w' => e = .returned (.tuple #[.int .i64 ((fst (b :: t) : Nat) : Int), .bool (fstOk (b :: t))]) ∧ Below w.heap.size w w' := by
  obtain ⟨_, _, h0, hb0, _, hsz⟩ := str_cons hs
  have hsz2 : s.size = 4 := by omega
  have HS := Lib.hid hs
  have HLN := Lib.hid (long_any b.toNat w)
  rw [hn] at HLN
  have hbl : (b.toNat : Int) ≤ 255 := by have := b.toNat_lt; omega
  have HFST := Lib.hid (show fst (b :: t) = t.foldl stepF (b.toNat % 8) by
    show t.foldl stepF (if t.length = 0 then b.toNat else b.toNat % 2 ^ (6 - t.length)) = _
    rw [ht]
    rfl)
  have HLT := Lib.hid (fun k => fold_lt (t.take k) (b.toNat % 8))
  have HOK := Lib.hid (show fstOk (b :: t) = (wholeB (fst (b :: t)) && decide (enc (fst (b :: t)) = b :: t)) by
    show (decide (lng b.toNat = t.length + 1) && (wholeB (fst (b :: t)) && decide (enc (fst (b :: t)) = b :: t))) = _
    rw [hn, ht]
    rfl)
  have HSZ := Lib.hid hsz2
  have HT := Lib.hid ht
  clear hs hn hsz ht
  go_enter Tryd.func16, Tryd.ntmps16
  go_wp2_with (go_at_call 14; refine HLN.out.mono ?_; rintro e w' ⟨rfl, rfl⟩)
  go_loop [4, 5] (fun cv iv => ∃ (k c : Nat), k + 1 ≤ 4 ∧ cv = .int .i64 (c : Nat) ∧ iv = .int .i64 ((k : Int) + 1) ∧ Hid (c = (t.take k).foldl stepF (b.toNat % 8))) (fun _ iv => 4 - (intOf iv).toNat)
  case atStart => exact ⟨0, (b.toNat % 8), by omega, by first | rfl | (push_cast; rfl), rfl, rfl⟩
  case round =>
    obtain ⟨k, c, hk, rfl, rfl, HC⟩ := hrel
    have hcb : (c : Int) ≤ 100000000 := by
      have h1 := HC.out
      have h2 := HLT.out k
      have h3 := HT.out
      have hb := b.toNat_lt
      have h4 : (t.take k).length = k := by rw [List.length_take]; omega
      rw [h4, ← h1] at h2
      have h5 : ((b.toNat % 8) + 1) * 64 ^ k ≤ 256 * 64 ^ k := Nat.mul_le_mul_right _ (by omega)
      have h6 : 64 ^ k ≤ 64 ^ 3 := Nat.pow_le_pow_right (by omega) (by omega)
      omega
    by_cases hkn : k + 1 < 4
    · obtain ⟨hk2, hsk⟩ := str_at HS.out k (by rw [HSZ.out]; exact hkn)
      have HSK := Lib.hid hsk
      have hkI : (k : Int) + 1 < 4 := by omega
      have hkS : k + 1 < s.size := by rw [HSZ.out]; exact hkn
      have hyb : (s[k + 1].toNat : Int) ≤ 255 := by have := (s[k + 1]).toNat_lt; omega
      clear hsk
      go_wp2
      go_round
      case rel =>
        refine ⟨k + 1, stepF c t[k], by omega, ?_, by go_num, ?_⟩
        · rw [HSK.out]; unfold stepF; push_cast; rfl
        · show stepF c t[k] = (t.take (k + 1)).foldl stepF (b.toNat % 8)
          rw [List.take_succ_eq_append_getElem hk2, List.foldl_append, ← HC.out]; rfl
      case measure => simp [intOf]; omega
    · have hkk : k = 3 := by omega
      have hcf : c = fst (b :: t) := by
        rw [HC.out, HFST.out, List.take_of_length_le (by have := HT.out; omega)]
      have hkI : 4 ≤ (k : Int) + 1 := by omega
      have HCF := Lib.hid hcf
      clear hcf hkk
      rcases hw : wrB (c : Int) with _ | _
      · have HWH : Hid (∀ W : World, Calls Tryd.prog 32 #[.int .i64 (c : Nat)] W fun e w' => e = .returned (.bool false) ∧ w' = W) := by
          intro W
          have h := whole_any (c : Nat) W
          rw [hw] at h
          exact h.mono fun _ _ h => ⟨h.1, h.2.symm⟩
        go_wp2
        go_quiet ((go_at_call 32; exact (HWH.out _).mono fun _ _ h => ⟨h.1, _, h.2⟩))
        go_wp2
        go_ret2
        have hfo : fstOk (b :: t) = false := by rw [HOK.out, ← HCF.out, ← wrB_nat, hw]; rfl
        rw [hfo, ← HCF.out]
        exact ⟨rfl, Joins.below_draws _ _ _⟩
      · have HWH : Hid (∀ W : World, Calls Tryd.prog 32 #[.int .i64 (c : Nat)] W fun e w' => e = .returned (.bool true) ∧ w' = W) := by
          intro W
          have h := whole_any (c : Nat) W
          rw [hw] at h
          exact h.mono fun _ _ h => ⟨h.1, h.2.symm⟩
        have hc1 : c ≤ 1114111 := by have := (wrB_iff.1 hw).2.1; simpa using this
        have HBY : Hid (∀ W : World, Calls Tryd.prog 33 #[.int .i64 (c : Nat)] W fun e w' => ∃ p n cp, e = .returned (.slice p n cp) ∧ Hid (Below W.heap.size W w') ∧ (∀ W', W'.heap = w'.heap → (convert 23 9 (.slice p n cp)).run Tryd.prog W' = .ok (.string ⟨((encN c).map UInt8.ofNat).toArray⟩) W')) := by
          intro W
          refine (bytes_any c W hc1).mono ?_
          rintro e w' ⟨p, cp, rfl, ho, hb⟩
          refine ⟨p, _, cp, rfl, hb, fun W' hW' => ?_⟩
          refine back_text (B := W.heap.size) ?_ (encN_bytes hc1)
          unfold Own World.ownsRow at ho ⊢
          rw [hW']; exact ho
        obtain ⟨S2, hS2⟩ : ∃ S2 : ByteArray, S2 = ⟨((encN c).map UInt8.ofNat).toArray⟩ := ⟨_, rfl⟩
        rw [← hS2] at HBY
        have HS2 := Lib.hid (show S2.data.toList = enc c by rw [hS2]; rfl)
        clear hS2 hc1
        go_wp2
        go_region_with (first | (go_at_call 32; (with_reducible refine (HWH.out _).mono ?_); rintro e w' ⟨rfl, hw'⟩; obtain rfl := hw'.symm; clear hw') | (go_at_call 33; (with_reducible refine (HBY.out _).mono ?_); rintro e w2 ⟨p2, n2, c2, rfl, hb2, hcv⟩; have hcv2 := hcv w2 rfl; have hcv3 := hcv w2.drew rfl; clear hcv))
        go_wp2
        go_ret2
        have hfo : fstOk (b :: t) = (S2.toList == s.toList) := by
          rw [HOK.out, ← HCF.out, ← wrB_nat, hw, Bool.true_and, ByteArray.toList_eq, ByteArray.toList_eq, HS2.out, HS.out, Bool.eq_iff_iff, decide_eq_true_iff, beq_iff_eq]
        rw [hfo, ← HCF.out]
        exact ⟨rfl, by first | exact hb2.out | exact bl_trans (bl_drew _) hb2.out⟩

end Go.Proofs.YtalnfbbggmhbfaaDoor
