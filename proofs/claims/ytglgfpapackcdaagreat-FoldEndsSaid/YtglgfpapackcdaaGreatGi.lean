/- The walk of the document's name. -/
/- Plain: a text has a rune that is no sign of names just if it has a byte that is none. -/
import Derived.Test.YtglgfpapackcdaaGreatGc
import Derived.Test.YtglgfpapackcdaaGreatGh
import Derived.Lib.MapLaws
import Derived.Shelf.GgClosure.StringsIndexFunc

namespace Go.Proofs.YtglgfpapackcdaaGreat
open Go.RowKit Tnr

def sgB (c : Nat) : Bool := (decide (97 ≤ c) && decide (c ≤ 122)) || (decide (65 ≤ c) && decide (c ≤ 90)) || (decide (48 ≤ c) && decide (c ≤ 57)) || decide (c = 95) || decide (c = 61)
def nameB (l : List UInt8) : Bool := l.all (fun b => sgB b.toNat) && decide (1 ≤ l.length) && decide (l.length ≤ 40)
theorem nameB_no {l : List UInt8} {k : Nat} {h : k < l.length} (hs : sgB l[k].toNat = false) : nameB l = false := by
  unfold nameB
  have : l.all (fun b => sgB b.toNat) = false := by
    rw [List.all_eq_false]
    exact ⟨l[k], List.getElem_mem h, by rw [hs]; decide⟩
  rw [this]; rfl
theorem str_byte (s : ByteArray) {k : Nat} (h : k < s.size) : ∃ h2 : k < s.data.toList.length, s.data.toList[k] = s[k] := ⟨by simpa using h, by simp; rfl⟩

set_option maxHeartbeats 3200000 in
set_option maxRecDepth 100000 in
theorem rname_any (s : ByteArray) (w : World) (hs : s.size ≤ 1000000000) :
    Calls Tryz.prog 54 #[.string s] w fun e w' => e = .returned (.bool (nameB s.data.toList)) ∧ w' = w := by
  have hsI : (s.size : Int) ≤ 1000000000 := by omega
  have hsl : s.data.toList.length = s.size := by simp
  have HSL := Lib.hid hsl
  clear hs hsl
  go_enter Tryz.func54, Tryz.ntmps54
  go_wp2
  go_loop [3, 4] (fun iv _ => ∃ (k : Nat), k ≤ s.size ∧ iv = .int .i64 (k : Nat) ∧ Hid ((s.data.toList.take k).all (fun b => sgB b.toNat) = true)) (fun iv _ => s.size - (intOf iv).toNat)
  case atStart => exact ⟨0, Nat.zero_le _, rfl, by show _ = true; simp⟩
  case round =>
    obtain ⟨k, hk, rfl, HE⟩ := hrel
    by_cases hkn : k < s.size
    · have hkI : (k : Int) < s.size := by omega
      obtain ⟨hk2, hbyte⟩ := str_byte s hkn
      have HBY : Hid (∀ x, x = s[k].toNat → s.data.toList[k].toNat = x) := fun x hx => by rw [hbyte, hx]
      have HT : Hid (sgB s[k].toNat = true → (s.data.toList.take (k + 1)).all (fun b => sgB b.toNat) = true) := fun h => by
        rw [List.take_add_one, List.all_append, HE.out, List.getElem?_eq_getElem hk2]
        simp [hbyte, h]
      have HNO : Hid (sgB s[k].toNat = false → nameB s.data.toList = false) := fun h => nameB_no (h := hk2) (by rw [hbyte]; exact h)
      obtain ⟨x, hx⟩ : ∃ x, x = s[k].toNat := ⟨_, rfl⟩
      have hx8 : x < 256 := by rw [hx]; exact s[k].toNat_lt
      have hxe : ((s[k].toNat : Nat) : Int) = (x : Int) := by rw [hx]
      rw [← hx] at HT HNO
      clear hx hbyte HBY
      have hcase : (97 ≤ x ∧ x ≤ 122) ∨ (122 < x) ∨ (65 ≤ x ∧ x ≤ 90) ∨ (x = 95) ∨ (90 < x ∧ x < 97 ∧ x ≠ 95) ∨ (48 ≤ x ∧ x ≤ 57) ∨ (x = 61) ∨ (57 < x ∧ x < 65 ∧ x ≠ 61) ∨ (x < 48) := by omega
      rcases hcase with h | h | h | h | h | h | h | h | h
      · have hs : sgB x = true := by unfold sgB; simp only [Bool.or_eq_true, Bool.and_eq_true, decide_eq_true_eq]; omega
        have c0c : (97 : Int) ≤ x := by omega
        have c1c : (65 : Int) ≤ x := by omega
        have c2c : (48 : Int) ≤ x := by omega
        have c3c : (x : Int) ≤ 122 := by omega
        have c4c : (90 : Int) < x := by omega
        have c5c : (57 : Int) < x := by omega
        have e95e : ((x : Int) == 95) = false := by rw [beq_eq_false_iff_ne]; omega
        have n95n : (x == 95) = false := by rw [beq_eq_false_iff_ne]; omega
        have e61e : ((x : Int) == 61) = false := by rw [beq_eq_false_iff_ne]; omega
        have n61n : (x == 61) = false := by rw [beq_eq_false_iff_ne]; omega
        have d97d : decide ((97 : Int) ≤ x) = true := decide_eq_true (by omega)
        have d65d : decide ((65 : Int) ≤ x) = true := decide_eq_true (by omega)
        have d48d : decide ((48 : Int) ≤ x) = true := decide_eq_true (by omega)
        have d122d : decide ((x : Int) ≤ 122) = true := decide_eq_true (by omega)
        have d90d : decide ((x : Int) ≤ 90) = false := decide_eq_false (by omega)
        have d57d : decide ((x : Int) ≤ 57) = false := decide_eq_false (by omega)
        have g95g : ¬ ((x : Int) = 95) := by omega
        have p95p : ¬ x = 95 := by omega
        have g61g : ¬ ((x : Int) = 61) := by omega
        have p61p : ¬ x = 61 := by omega
        have HS := Lib.hid hs
        clear hs h
        go_wp2
        go_round
        case rel => exact ⟨k + 1, by omega, by go_num, HT.out HS.out⟩
        case measure => simp [intOf]; omega
      · have hs : sgB x = false := by cases hsx : sgB x with | false => rfl | true => exfalso; unfold sgB at hsx; simp only [Bool.or_eq_true, Bool.and_eq_true, decide_eq_true_eq] at hsx; omega
        have c0c : (97 : Int) ≤ x := by omega
        have c1c : (65 : Int) ≤ x := by omega
        have c2c : (48 : Int) ≤ x := by omega
        have c3c : (122 : Int) < x := by omega
        have c4c : (90 : Int) < x := by omega
        have c5c : (57 : Int) < x := by omega
        have e95e : ((x : Int) == 95) = false := by rw [beq_eq_false_iff_ne]; omega
        have n95n : (x == 95) = false := by rw [beq_eq_false_iff_ne]; omega
        have e61e : ((x : Int) == 61) = false := by rw [beq_eq_false_iff_ne]; omega
        have n61n : (x == 61) = false := by rw [beq_eq_false_iff_ne]; omega
        have d97d : decide ((97 : Int) ≤ x) = true := decide_eq_true (by omega)
        have d65d : decide ((65 : Int) ≤ x) = true := decide_eq_true (by omega)
        have d48d : decide ((48 : Int) ≤ x) = true := decide_eq_true (by omega)
        have d122d : decide ((x : Int) ≤ 122) = false := decide_eq_false (by omega)
        have d90d : decide ((x : Int) ≤ 90) = false := decide_eq_false (by omega)
        have d57d : decide ((x : Int) ≤ 57) = false := decide_eq_false (by omega)
        have g95g : ¬ ((x : Int) = 95) := by omega
        have p95p : ¬ x = 95 := by omega
        have g61g : ¬ ((x : Int) = 61) := by omega
        have p61p : ¬ x = 61 := by omega
        have HS := Lib.hid hs
        clear hs h
        go_wp2
        go_ret
        exact ⟨ret_bool (HNO.out HS.out).symm, rfl⟩
      · have hs : sgB x = true := by unfold sgB; simp only [Bool.or_eq_true, Bool.and_eq_true, decide_eq_true_eq]; omega
        have c0c : (x : Int) < 97 := by omega
        have c1c : (65 : Int) ≤ x := by omega
        have c2c : (48 : Int) ≤ x := by omega
        have c3c : (x : Int) ≤ 122 := by omega
        have c4c : (x : Int) ≤ 90 := by omega
        have c5c : (57 : Int) < x := by omega
        have e95e : ((x : Int) == 95) = false := by rw [beq_eq_false_iff_ne]; omega
        have n95n : (x == 95) = false := by rw [beq_eq_false_iff_ne]; omega
        have e61e : ((x : Int) == 61) = false := by rw [beq_eq_false_iff_ne]; omega
        have n61n : (x == 61) = false := by rw [beq_eq_false_iff_ne]; omega
        have d97d : decide ((97 : Int) ≤ x) = false := decide_eq_false (by omega)
        have d65d : decide ((65 : Int) ≤ x) = true := decide_eq_true (by omega)
        have d48d : decide ((48 : Int) ≤ x) = true := decide_eq_true (by omega)
        have d122d : decide ((x : Int) ≤ 122) = true := decide_eq_true (by omega)
        have d90d : decide ((x : Int) ≤ 90) = true := decide_eq_true (by omega)
        have d57d : decide ((x : Int) ≤ 57) = false := decide_eq_false (by omega)
        have g95g : ¬ ((x : Int) = 95) := by omega
        have p95p : ¬ x = 95 := by omega
        have g61g : ¬ ((x : Int) = 61) := by omega
        have p61p : ¬ x = 61 := by omega
        have HS := Lib.hid hs
        clear hs h
        go_wp2
        go_round
        case rel => exact ⟨k + 1, by omega, by go_num, HT.out HS.out⟩
        case measure => simp [intOf]; omega
      · have hs : sgB x = true := by unfold sgB; simp only [Bool.or_eq_true, Bool.and_eq_true, decide_eq_true_eq]; omega
        have c0c : (x : Int) < 97 := by omega
        have c1c : (65 : Int) ≤ x := by omega
        have c2c : (48 : Int) ≤ x := by omega
        have c3c : (x : Int) ≤ 122 := by omega
        have c4c : (90 : Int) < x := by omega
        have c5c : (57 : Int) < x := by omega
        have e95e : ((x : Int) == 95) = true := by rw [beq_iff_eq]; omega
        have n95n : (x == 95) = true := by rw [beq_iff_eq]; omega
        have e61e : ((x : Int) == 61) = false := by rw [beq_eq_false_iff_ne]; omega
        have n61n : (x == 61) = false := by rw [beq_eq_false_iff_ne]; omega
        have d97d : decide ((97 : Int) ≤ x) = false := decide_eq_false (by omega)
        have d65d : decide ((65 : Int) ≤ x) = true := decide_eq_true (by omega)
        have d48d : decide ((48 : Int) ≤ x) = true := decide_eq_true (by omega)
        have d122d : decide ((x : Int) ≤ 122) = true := decide_eq_true (by omega)
        have d90d : decide ((x : Int) ≤ 90) = false := decide_eq_false (by omega)
        have d57d : decide ((x : Int) ≤ 57) = false := decide_eq_false (by omega)
        have g61g : ¬ ((x : Int) = 61) := by omega
        have p61p : ¬ x = 61 := by omega
        have HS := Lib.hid hs
        clear hs h
        go_wp2
        go_round
        case rel => exact ⟨k + 1, by omega, by go_num, HT.out HS.out⟩
        case measure => simp [intOf]; omega
      · have hs : sgB x = false := by cases hsx : sgB x with | false => rfl | true => exfalso; unfold sgB at hsx; simp only [Bool.or_eq_true, Bool.and_eq_true, decide_eq_true_eq] at hsx; omega
        have c0c : (x : Int) < 97 := by omega
        have c1c : (65 : Int) ≤ x := by omega
        have c2c : (48 : Int) ≤ x := by omega
        have c3c : (x : Int) ≤ 122 := by omega
        have c4c : (90 : Int) < x := by omega
        have c5c : (57 : Int) < x := by omega
        have e95e : ((x : Int) == 95) = false := by rw [beq_eq_false_iff_ne]; omega
        have n95n : (x == 95) = false := by rw [beq_eq_false_iff_ne]; omega
        have e61e : ((x : Int) == 61) = false := by rw [beq_eq_false_iff_ne]; omega
        have n61n : (x == 61) = false := by rw [beq_eq_false_iff_ne]; omega
        have d97d : decide ((97 : Int) ≤ x) = false := decide_eq_false (by omega)
        have d65d : decide ((65 : Int) ≤ x) = true := decide_eq_true (by omega)
        have d48d : decide ((48 : Int) ≤ x) = true := decide_eq_true (by omega)
        have d122d : decide ((x : Int) ≤ 122) = true := decide_eq_true (by omega)
        have d90d : decide ((x : Int) ≤ 90) = false := decide_eq_false (by omega)
        have d57d : decide ((x : Int) ≤ 57) = false := decide_eq_false (by omega)
        have g95g : ¬ ((x : Int) = 95) := by omega
        have p95p : ¬ x = 95 := by omega
        have g61g : ¬ ((x : Int) = 61) := by omega
        have p61p : ¬ x = 61 := by omega
        have HS := Lib.hid hs
        clear hs h
        go_wp2
        go_ret
        exact ⟨ret_bool (HNO.out HS.out).symm, rfl⟩
      · have hs : sgB x = true := by unfold sgB; simp only [Bool.or_eq_true, Bool.and_eq_true, decide_eq_true_eq]; omega
        have c0c : (x : Int) < 97 := by omega
        have c1c : (x : Int) < 65 := by omega
        have c2c : (48 : Int) ≤ x := by omega
        have c3c : (x : Int) ≤ 122 := by omega
        have c4c : (x : Int) ≤ 90 := by omega
        have c5c : (x : Int) ≤ 57 := by omega
        have e95e : ((x : Int) == 95) = false := by rw [beq_eq_false_iff_ne]; omega
        have n95n : (x == 95) = false := by rw [beq_eq_false_iff_ne]; omega
        have e61e : ((x : Int) == 61) = false := by rw [beq_eq_false_iff_ne]; omega
        have n61n : (x == 61) = false := by rw [beq_eq_false_iff_ne]; omega
        have d97d : decide ((97 : Int) ≤ x) = false := decide_eq_false (by omega)
        have d65d : decide ((65 : Int) ≤ x) = false := decide_eq_false (by omega)
        have d48d : decide ((48 : Int) ≤ x) = true := decide_eq_true (by omega)
        have d122d : decide ((x : Int) ≤ 122) = true := decide_eq_true (by omega)
        have d90d : decide ((x : Int) ≤ 90) = true := decide_eq_true (by omega)
        have d57d : decide ((x : Int) ≤ 57) = true := decide_eq_true (by omega)
        have g95g : ¬ ((x : Int) = 95) := by omega
        have p95p : ¬ x = 95 := by omega
        have g61g : ¬ ((x : Int) = 61) := by omega
        have p61p : ¬ x = 61 := by omega
        have HS := Lib.hid hs
        clear hs h
        go_wp2
        go_round
        case rel => exact ⟨k + 1, by omega, by go_num, HT.out HS.out⟩
        case measure => simp [intOf]; omega
      · have hs : sgB x = true := by unfold sgB; simp only [Bool.or_eq_true, Bool.and_eq_true, decide_eq_true_eq]; omega
        have c0c : (x : Int) < 97 := by omega
        have c1c : (x : Int) < 65 := by omega
        have c2c : (48 : Int) ≤ x := by omega
        have c3c : (x : Int) ≤ 122 := by omega
        have c4c : (x : Int) ≤ 90 := by omega
        have c5c : (57 : Int) < x := by omega
        have e95e : ((x : Int) == 95) = false := by rw [beq_eq_false_iff_ne]; omega
        have n95n : (x == 95) = false := by rw [beq_eq_false_iff_ne]; omega
        have e61e : ((x : Int) == 61) = true := by rw [beq_iff_eq]; omega
        have n61n : (x == 61) = true := by rw [beq_iff_eq]; omega
        have d97d : decide ((97 : Int) ≤ x) = false := decide_eq_false (by omega)
        have d65d : decide ((65 : Int) ≤ x) = false := decide_eq_false (by omega)
        have d48d : decide ((48 : Int) ≤ x) = true := decide_eq_true (by omega)
        have d122d : decide ((x : Int) ≤ 122) = true := decide_eq_true (by omega)
        have d90d : decide ((x : Int) ≤ 90) = true := decide_eq_true (by omega)
        have d57d : decide ((x : Int) ≤ 57) = false := decide_eq_false (by omega)
        have g95g : ¬ ((x : Int) = 95) := by omega
        have p95p : ¬ x = 95 := by omega
        have HS := Lib.hid hs
        clear hs h
        go_wp2
        go_round
        case rel => exact ⟨k + 1, by omega, by go_num, HT.out HS.out⟩
        case measure => simp [intOf]; omega
      · have hs : sgB x = false := by cases hsx : sgB x with | false => rfl | true => exfalso; unfold sgB at hsx; simp only [Bool.or_eq_true, Bool.and_eq_true, decide_eq_true_eq] at hsx; omega
        have c0c : (x : Int) < 97 := by omega
        have c1c : (x : Int) < 65 := by omega
        have c2c : (48 : Int) ≤ x := by omega
        have c3c : (x : Int) ≤ 122 := by omega
        have c4c : (x : Int) ≤ 90 := by omega
        have c5c : (57 : Int) < x := by omega
        have e95e : ((x : Int) == 95) = false := by rw [beq_eq_false_iff_ne]; omega
        have n95n : (x == 95) = false := by rw [beq_eq_false_iff_ne]; omega
        have e61e : ((x : Int) == 61) = false := by rw [beq_eq_false_iff_ne]; omega
        have n61n : (x == 61) = false := by rw [beq_eq_false_iff_ne]; omega
        have d97d : decide ((97 : Int) ≤ x) = false := decide_eq_false (by omega)
        have d65d : decide ((65 : Int) ≤ x) = false := decide_eq_false (by omega)
        have d48d : decide ((48 : Int) ≤ x) = true := decide_eq_true (by omega)
        have d122d : decide ((x : Int) ≤ 122) = true := decide_eq_true (by omega)
        have d90d : decide ((x : Int) ≤ 90) = true := decide_eq_true (by omega)
        have d57d : decide ((x : Int) ≤ 57) = false := decide_eq_false (by omega)
        have g95g : ¬ ((x : Int) = 95) := by omega
        have p95p : ¬ x = 95 := by omega
        have g61g : ¬ ((x : Int) = 61) := by omega
        have p61p : ¬ x = 61 := by omega
        have HS := Lib.hid hs
        clear hs h
        go_wp2
        go_ret
        exact ⟨ret_bool (HNO.out HS.out).symm, rfl⟩
      · have hs : sgB x = false := by cases hsx : sgB x with | false => rfl | true => exfalso; unfold sgB at hsx; simp only [Bool.or_eq_true, Bool.and_eq_true, decide_eq_true_eq] at hsx; omega
        have c0c : (x : Int) < 97 := by omega
        have c1c : (x : Int) < 65 := by omega
        have c2c : (x : Int) < 48 := by omega
        have c3c : (x : Int) ≤ 122 := by omega
        have c4c : (x : Int) ≤ 90 := by omega
        have c5c : (x : Int) ≤ 57 := by omega
        have e95e : ((x : Int) == 95) = false := by rw [beq_eq_false_iff_ne]; omega
        have n95n : (x == 95) = false := by rw [beq_eq_false_iff_ne]; omega
        have e61e : ((x : Int) == 61) = false := by rw [beq_eq_false_iff_ne]; omega
        have n61n : (x == 61) = false := by rw [beq_eq_false_iff_ne]; omega
        have d97d : decide ((97 : Int) ≤ x) = false := decide_eq_false (by omega)
        have d65d : decide ((65 : Int) ≤ x) = false := decide_eq_false (by omega)
        have d48d : decide ((48 : Int) ≤ x) = false := decide_eq_false (by omega)
        have d122d : decide ((x : Int) ≤ 122) = true := decide_eq_true (by omega)
        have d90d : decide ((x : Int) ≤ 90) = true := decide_eq_true (by omega)
        have d57d : decide ((x : Int) ≤ 57) = true := decide_eq_true (by omega)
        have g95g : ¬ ((x : Int) = 95) := by omega
        have p95p : ¬ x = 95 := by omega
        have g61g : ¬ ((x : Int) = 61) := by omega
        have p61p : ¬ x = 61 := by omega
        have HS := Lib.hid hs
        clear hs h
        go_wp2
        go_ret
        exact ⟨ret_bool (HNO.out HS.out).symm, rfl⟩
    · have hkI : (s.size : Int) ≤ k := by omega
      have hall : s.data.toList.all (fun b => sgB b.toNat) = true := by
        have := HE.out
        rwa [List.take_of_length_le (by have := HSL.out; omega)] at this
      have HALL : Hid (nameB s.data.toList = (decide (1 ≤ s.size) && decide (s.size ≤ 40))) := by
        show nameB _ = _
        unfold nameB
        rw [hall, HSL.out]; rfl
      clear hall
      by_cases h1 : 1 ≤ s.size
      · have h1I : (1 : Int) ≤ s.size := by omega
        by_cases h2 : s.size ≤ 40
        · have h2I : (s.size : Int) ≤ 40 := by omega
          go_wp2
          go_ret
          exact ⟨ret_bool (by rw [HALL.out, decide_eq_true h1, decide_eq_true h2]; rfl), rfl⟩
        · have h2I : (40 : Int) < s.size := by omega
          go_wp2
          go_ret
          exact ⟨ret_bool (by rw [HALL.out, decide_eq_false h2, Bool.and_false]; first | rfl | exact decide_eq_false (by omega)), rfl⟩
      · have h1I : (s.size : Int) < 1 := by omega
        go_wp2
        go_ret
        exact ⟨ret_bool (by rw [HALL.out, decide_eq_false h1]; rfl), rfl⟩
end Go.Proofs.YtglgfpapackcdaaGreat


namespace Go.Proofs.YtglgfpapackcdaaGreat
open Go.RowKit Tnr

theorem dec_low (s : ByteArray) (i : Nat) (h : (s.get! i).toNat < 128) : Utf8.decode s i = ((s.get! i).toNat, 1) := by
  rw [Lib.decode_at]
  unfold Lib.decodeN
  rw [if_pos h]
theorem dec_high (s : ByteArray) (i : Nat) (h : ¬ (s.get! i).toNat < 128) : 128 ≤ (Utf8.decode s i).1 := by
  rw [Lib.decode_at]
  rcases Lib.decodeN_shape (s.size - i) (s.get! i).toNat (s.get! (i + 1)).toNat (s.get! (i + 2)).toNat (s.get! (i + 3)).toNat with ⟨h1, _⟩ | ⟨_, _, _, h2, e⟩ | ⟨_, _, _, _, h2, _, e⟩ | ⟨_, _, _, _, _, h2, _, e⟩ | e
  · exact absurd h1 h
  · rw [e]; exact h2
  · rw [e]; simp only; omega
  · rw [e]; simp only; omega
  · rw [e]; decide
theorem sgB_low {n : Nat} (h : sgB n = true) : n < 128 := by
  rcases Nat.lt_or_ge n 128 with h2 | h2
  · exact h2
  · exfalso
    unfold sgB at h
    simp at h
    omega
def noSg (r : Nat) : Bool := !sgB r
theorem idx_from (s : ByteArray) : ∀ f pos, s.size ≤ pos + f → (0 ≤ Lib.idxFuncFrom noSg true s f pos ↔ ∃ i, pos ≤ i ∧ i < s.size ∧ sgB (s.get! i).toNat = false) := by
  intro f
  induction f with
  | zero =>
    intro pos h
    rw [Lib.idxFuncFrom_end _ _ _ _ _ (by omega)]
    constructor
    · intro h2; omega
    · rintro ⟨i, h1, h2, _⟩; omega
  | succ f ih =>
    intro pos h
    unfold Lib.idxFuncFrom
    by_cases hp : pos < s.size
    · rw [if_pos hp]
      cases hs : sgB (s.get! pos).toNat with
      | true =>
        have hl := dec_low s pos (sgB_low hs)
        rw [hl]
        simp only
        rw [if_neg (by unfold noSg; rw [hs]; decide), ih (pos + 1) (by omega)]
        constructor
        · rintro ⟨i, h1, h2, h3⟩; exact ⟨i, by omega, h2, h3⟩
        · rintro ⟨i, h1, h2, h3⟩
          refine ⟨i, ?_, h2, h3⟩
          rcases Nat.lt_or_ge pos i with q | q
          · omega
          · obtain rfl : i = pos := by omega
            rw [hs] at h3; cases h3
      | false =>
        have hn : noSg (Utf8.decode s pos).1 = true := by
          unfold noSg
          by_cases hl : (s.get! pos).toNat < 128
          · rw [dec_low s pos hl, hs]; rfl
          · have hh := dec_high s pos hl
            cases hq : sgB (Utf8.decode s pos).1 with
            | true => have := sgB_low hq; omega
            | false => rfl
        rw [if_pos hn]
        exact ⟨fun _ => ⟨pos, Nat.le_refl _, hp, hs⟩, fun _ => by omega⟩
    · rw [if_neg hp]
      constructor
      · intro h2; omega
      · rintro ⟨i, h1, h2, _⟩; omega
theorem idx_named (s : ByteArray) : decide (0 ≤ Lib.idxFunc noSg true s) = !(s.data.toList.all fun b => sgB b.toNat) := by
  have h := idx_from s s.size 0 (by omega)
  unfold Lib.idxFunc
  have hb : ∀ i, (h : i < s.size) → s.get! i = s.data.toList[i]'(by simpa using h) := by
    intro i hi
    simp [ByteArray.get!, Array.getElem!_eq_getD, Array.getD]
    rw [dif_pos (show i < s.size from hi)]
  cases ha : s.data.toList.all fun b => sgB b.toNat with
  | true =>
    rw [List.all_eq_true] at ha
    refine decide_eq_false fun h0 => ?_
    obtain ⟨i, _, h2, h3⟩ := h.1 h0
    have := ha _ (List.getElem_mem (show i < s.data.toList.length by simpa using h2))
    rw [← hb i h2] at this
    rw [h3] at this; cases this
  | false =>
    rw [List.all_eq_false] at ha
    obtain ⟨x, hx, hn⟩ := ha
    obtain ⟨i, hi, rfl⟩ := List.getElem_of_mem hx
    have hi2 : i < s.size := by simpa using hi
    refine decide_eq_true (h.2 ⟨i, Nat.zero_le _, hi2, ?_⟩)
    rw [hb i hi2]; simpa using hn
end Go.Proofs.YtglgfpapackcdaaGreat

