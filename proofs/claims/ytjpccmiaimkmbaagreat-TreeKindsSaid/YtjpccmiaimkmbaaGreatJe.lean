/- The document's trees: the walks of Name, names. -/
import Derived.Test.YtjpccmiaimkmbaaGreatJd
import Derived.Test.YtjpccmiaimkmbaaGreatMc

namespace Go.Proofs.YtjpccmiaimkmbaaGreat
open Go.RowKit Tnr Tnt

theorem isN_no {l : List UInt8} {k : Nat} {h : k < l.length} (hs : sgT l[k].toNat = false) : isNameB l = false := by
  unfold isNameB
  have : (l.all fun b => sgT b.toNat) = false := by
    rw [List.all_eq_false]
    exact ⟨l[k], List.getElem_mem h, by rw [hs]; decide⟩
  rw [this]; simp
theorem str_byte6 (s : ByteArray) {k : Nat} (h : k < s.size) : ∃ h2 : k < s.data.toList.length, s.data.toList[k] = s[k] := ⟨by simpa using h, by simp; rfl⟩
theorem isN_dig {l : List UInt8} {h : 0 < l.length} (hs : dgT l[0].toNat = true) : isNameB l = false := by
  unfold isNameB
  have e : l.headD 0 = l[0] := by cases l with
    | nil => simp at h
    | cons a l => rfl
  rw [e, hs]; simp
theorem isN_yes {l : List UInt8} {h : 0 < l.length} (hs : dgT l[0].toNat = false) (h4 : l.length ≤ 40) (ha : (l.all fun b => sgT b.toNat) = true) : isNameB l = true := by
  unfold isNameB
  have e : l.headD 0 = l[0] := by cases l with
    | nil => simp at h
    | cons a l => rfl
  rw [e, hs, ha, decide_eq_true (show 1 ≤ l.length by omega), decide_eq_true h4]; rfl
theorem ret_bool6 {a b : Bool} (h : a = b) : Ending.returned (.bool a) = Ending.returned (.bool b) := by rw [h]

set_option maxHeartbeats 3200000 in
set_option maxRecDepth 100000 in
theorem rName_any (s : ByteArray) (w : World) :
    Calls Tryz.prog 151 #[.string s] w fun e w' => e = .returned (.bool (isNameB s.data.toList)) ∧ w' = w := by
  have hsl : s.data.toList.length = s.size := by simp
  have HSL := Lib.hid hsl
  clear hsl
  by_cases h0 : s.size = 0
  · have e0 : ((s.size : Int) == 0) = true := by rw [beq_iff_eq]; omega
    have HF : Hid (isNameB s.data.toList = false) := by show _ = _; unfold isNameB; rw [HSL.out, h0]; rfl
    clear h0
    go_enter Tryz.func151, Tryz.ntmps151
    go_wp2
    go_ret
    exact ⟨ret_bool6 HF.out.symm, rfl⟩
  have e0 : ((s.size : Int) == 0) = false := by rw [beq_eq_false_iff_ne]; omega
  by_cases h40 : 40 < s.size
  · have e40 : decide ((40 : Int) < s.size) = true := by simp; omega
    have HF : Hid (isNameB s.data.toList = false) := by show _ = _; unfold isNameB; rw [HSL.out, decide_eq_false (show ¬ s.size ≤ 40 by omega)]; simp
    clear h0 h40
    go_enter Tryz.func151, Tryz.ntmps151
    go_wp2
    go_ret
    exact ⟨ret_bool6 HF.out.symm, rfl⟩
  have e40 : decide ((40 : Int) < s.size) = false := by simp; omega
  have hpos : 0 < s.size := by omega
  have hposI : (0 : Int) < s.size := by omega
  obtain ⟨hp2, hbyte0⟩ := str_byte6 s hpos
  obtain ⟨y, hy⟩ : ∃ y, y = (s[0]'hpos).toNat := ⟨_, rfl⟩
  have hye : (((s[0]'hpos).toNat : Nat) : Int) = (y : Int) := by rw [hy]
  have HDG : Hid (dgT y = true → isNameB s.data.toList = false) := fun h => isN_dig (h := hp2) (by rw [hbyte0, ← hy]; exact h)
  have HYS : Hid (dgT y = false → (s.data.toList.all fun b => sgT b.toNat) = true → isNameB s.data.toList = true) := fun h ha => isN_yes (h := hp2) (by rw [hbyte0, ← hy]; exact h) (by rw [HSL.out]; omega) ha
  have HPOS := Lib.hid hpos
  have hsI : (s.size : Int) ≤ 40 := by omega
  clear hy hbyte0 hp2 h0 h40
  by_cases hd : 48 ≤ y ∧ y ≤ 57
  · have q1 : decide ((48 : Int) ≤ y) = true := by simp; omega
    have q2 : decide ((y : Int) ≤ 57) = true := by simp; omega
    have q3 : decide (48 ≤ y) = true := decide_eq_true hd.1
    have q4 : decide (y ≤ 57) = true := decide_eq_true hd.2
    have HF := Lib.hid (HDG.out (by unfold dgT; rw [decide_eq_true hd.1, decide_eq_true hd.2]; rfl))
    clear hd
    go_enter Tryz.func151, Tryz.ntmps151
    go_wp2
    go_ret
    exact ⟨ret_bool6 HF.out.symm, rfl⟩
  have HY2 : Hid ((s.data.toList.all fun b => sgT b.toNat) = true → isNameB s.data.toList = true) := HYS.out (by cases hq : dgT y with
    | false => rfl
    | true => exfalso; unfold dgT at hq; simp only [Bool.and_eq_true, decide_eq_true_eq] at hq; exact hd hq)
  have HD := Lib.hid hd
  clear hd
  obtain ⟨b1, b2, hb12, hq1, hq2, hq3, hq4⟩ : ∃ b1 b2 : Bool, (b1 && b2) = false ∧ decide ((48 : Int) ≤ y) = b1 ∧ decide ((y : Int) ≤ 57) = b2 ∧ decide (48 ≤ y) = b1 ∧ decide (y ≤ 57) = b2 := ⟨decide (48 ≤ y), decide (y ≤ 57), by
    cases hq : (decide (48 ≤ y) && decide (y ≤ 57)) with
    | false => rfl
    | true => exfalso; simp only [Bool.and_eq_true, decide_eq_true_eq] at hq; exact HD.out hq, by rw [Bool.eq_iff_iff, decide_eq_true_eq, decide_eq_true_eq]; omega, by rw [Bool.eq_iff_iff, decide_eq_true_eq, decide_eq_true_eq]; omega, rfl, rfl⟩
  have HREST : Hid (∀ b1 b2 : Bool, (b1 && b2) = false → decide ((48 : Int) ≤ y) = b1 → decide ((y : Int) ≤ 57) = b2 → decide (48 ≤ y) = b1 → decide (y ≤ 57) = b2 → Calls Tryz.prog 151 #[.string s] w fun e w' => e = .returned (.bool (isNameB s.data.toList)) ∧ w' = w) := by
    clear hq1 hq2 hq3 hq4 hb12 b1 b2 HD HDG HYS
    intro b1 b2 hb12 q1 q2 q3 q4
    have hb1 : b1 = true ∨ b1 = false := by cases b1 <;> simp
    cases b1 with
    | true =>
      have hb2 : b2 = false := by simpa using hb12
      subst hb2
      clear hb12 hb1
      go_enter Tryz.func151, Tryz.ntmps151
      go_wp2
      go_loop [3, 4] (fun iv _ => ∃ (k : Nat), k ≤ s.size ∧ iv = .int .i64 (k : Nat) ∧ Hid ((s.data.toList.take k).all (fun b => sgT b.toNat) = true)) (fun iv _ => s.size - (intOf iv).toNat)
      case atStart => exact ⟨0, Nat.zero_le _, rfl, by show _ = true; simp⟩
      case round =>
        obtain ⟨k, hk, rfl, HE⟩ := hrel
        by_cases hkn : k < s.size
        · have hkI : (k : Int) < s.size := by omega
          obtain ⟨hk2, hbyte⟩ := str_byte6 s hkn
          have HT : Hid (sgT s[k].toNat = true → (s.data.toList.take (k + 1)).all (fun b => sgT b.toNat) = true) := fun h => by
            rw [List.take_add_one, List.all_append, HE.out, List.getElem?_eq_getElem hk2]
            simp [hbyte, h]
          have HNO : Hid (sgT s[k].toNat = false → isNameB s.data.toList = false) := fun h => isN_no (h := hk2) (by rw [hbyte]; exact h)
          obtain ⟨x, hx⟩ : ∃ x, x = s[k].toNat := ⟨_, rfl⟩
          have hxe : ((s[k].toNat : Nat) : Int) = (x : Int) := by rw [hx]
          rw [← hx] at HT HNO
          clear hx hbyte
          have hcase : (97 ≤ x ∧ x ≤ 122) ∨ (122 < x) ∨ (65 ≤ x ∧ x ≤ 90) ∨ (x = 95) ∨ (90 < x ∧ x < 97 ∧ x ≠ 95) ∨ (48 ≤ x ∧ x ≤ 57) ∨ (57 < x ∧ x < 65) ∨ (x = 36) ∨ (x < 48 ∧ x ≠ 36) := by omega
          rcases hcase with h | h | h | h | h | h | h | h | h
          · have hs : sgT x = true := by unfold sgT dgT; simp only [Bool.or_eq_true, Bool.and_eq_true, decide_eq_true_eq]; omega
            have c0c : (97 : Int) ≤ x := by omega
            have c1c : (65 : Int) ≤ x := by omega
            have c2c : (48 : Int) ≤ x := by omega
            have c3c : (x : Int) ≤ 122 := by omega
            have c4c : (90 : Int) < x := by omega
            have c5c : (57 : Int) < x := by omega
            have e95e : ((x : Int) == 95) = false := by rw [beq_eq_false_iff_ne]; omega
            have n95n : (x == 95) = false := by rw [beq_eq_false_iff_ne]; omega
            have e36e : ((x : Int) == 36) = false := by rw [beq_eq_false_iff_ne]; omega
            have n36n : (x == 36) = false := by rw [beq_eq_false_iff_ne]; omega
            have d97d : decide ((97 : Int) ≤ x) = true := decide_eq_true (by omega)
            have d65d : decide ((65 : Int) ≤ x) = true := decide_eq_true (by omega)
            have d48d : decide ((48 : Int) ≤ x) = true := decide_eq_true (by omega)
            have d122d : decide ((x : Int) ≤ 122) = true := decide_eq_true (by omega)
            have d90d : decide ((x : Int) ≤ 90) = false := decide_eq_false (by omega)
            have d57d : decide ((x : Int) ≤ 57) = false := decide_eq_false (by omega)
            have g95g : ¬ ((x : Int) = 95) := by omega
            have p95p : ¬ x = 95 := by omega
            have g36g : ¬ ((x : Int) = 36) := by omega
            have p36p : ¬ x = 36 := by omega
            have HS := Lib.hid hs
            clear hs h
            go_wp2
            go_round
            case rel => exact ⟨k + 1, by omega, by go_num, HT.out HS.out⟩
            case measure => simp [intOf]; omega
          · have hs : sgT x = false := by cases hsx : sgT x with | false => rfl | true => exfalso; unfold sgT dgT at hsx; simp only [Bool.or_eq_true, Bool.and_eq_true, decide_eq_true_eq] at hsx; omega
            have c0c : (97 : Int) ≤ x := by omega
            have c1c : (65 : Int) ≤ x := by omega
            have c2c : (48 : Int) ≤ x := by omega
            have c3c : (122 : Int) < x := by omega
            have c4c : (90 : Int) < x := by omega
            have c5c : (57 : Int) < x := by omega
            have e95e : ((x : Int) == 95) = false := by rw [beq_eq_false_iff_ne]; omega
            have n95n : (x == 95) = false := by rw [beq_eq_false_iff_ne]; omega
            have e36e : ((x : Int) == 36) = false := by rw [beq_eq_false_iff_ne]; omega
            have n36n : (x == 36) = false := by rw [beq_eq_false_iff_ne]; omega
            have d97d : decide ((97 : Int) ≤ x) = true := decide_eq_true (by omega)
            have d65d : decide ((65 : Int) ≤ x) = true := decide_eq_true (by omega)
            have d48d : decide ((48 : Int) ≤ x) = true := decide_eq_true (by omega)
            have d122d : decide ((x : Int) ≤ 122) = false := decide_eq_false (by omega)
            have d90d : decide ((x : Int) ≤ 90) = false := decide_eq_false (by omega)
            have d57d : decide ((x : Int) ≤ 57) = false := decide_eq_false (by omega)
            have g95g : ¬ ((x : Int) = 95) := by omega
            have p95p : ¬ x = 95 := by omega
            have g36g : ¬ ((x : Int) = 36) := by omega
            have p36p : ¬ x = 36 := by omega
            have HS := Lib.hid hs
            clear hs h
            go_wp2
            go_ret
            exact ⟨ret_bool6 (HNO.out HS.out).symm, rfl⟩
          · have hs : sgT x = true := by unfold sgT dgT; simp only [Bool.or_eq_true, Bool.and_eq_true, decide_eq_true_eq]; omega
            have c0c : (x : Int) < 97 := by omega
            have c1c : (65 : Int) ≤ x := by omega
            have c2c : (48 : Int) ≤ x := by omega
            have c3c : (x : Int) ≤ 122 := by omega
            have c4c : (x : Int) ≤ 90 := by omega
            have c5c : (57 : Int) < x := by omega
            have e95e : ((x : Int) == 95) = false := by rw [beq_eq_false_iff_ne]; omega
            have n95n : (x == 95) = false := by rw [beq_eq_false_iff_ne]; omega
            have e36e : ((x : Int) == 36) = false := by rw [beq_eq_false_iff_ne]; omega
            have n36n : (x == 36) = false := by rw [beq_eq_false_iff_ne]; omega
            have d97d : decide ((97 : Int) ≤ x) = false := decide_eq_false (by omega)
            have d65d : decide ((65 : Int) ≤ x) = true := decide_eq_true (by omega)
            have d48d : decide ((48 : Int) ≤ x) = true := decide_eq_true (by omega)
            have d122d : decide ((x : Int) ≤ 122) = true := decide_eq_true (by omega)
            have d90d : decide ((x : Int) ≤ 90) = true := decide_eq_true (by omega)
            have d57d : decide ((x : Int) ≤ 57) = false := decide_eq_false (by omega)
            have g95g : ¬ ((x : Int) = 95) := by omega
            have p95p : ¬ x = 95 := by omega
            have g36g : ¬ ((x : Int) = 36) := by omega
            have p36p : ¬ x = 36 := by omega
            have HS := Lib.hid hs
            clear hs h
            go_wp2
            go_round
            case rel => exact ⟨k + 1, by omega, by go_num, HT.out HS.out⟩
            case measure => simp [intOf]; omega
          · have hs : sgT x = true := by unfold sgT dgT; simp only [Bool.or_eq_true, Bool.and_eq_true, decide_eq_true_eq]; omega
            have c0c : (x : Int) < 97 := by omega
            have c1c : (65 : Int) ≤ x := by omega
            have c2c : (48 : Int) ≤ x := by omega
            have c3c : (x : Int) ≤ 122 := by omega
            have c4c : (90 : Int) < x := by omega
            have c5c : (57 : Int) < x := by omega
            have e95e : ((x : Int) == 95) = true := by rw [beq_iff_eq]; omega
            have n95n : (x == 95) = true := by rw [beq_iff_eq]; omega
            have e36e : ((x : Int) == 36) = false := by rw [beq_eq_false_iff_ne]; omega
            have n36n : (x == 36) = false := by rw [beq_eq_false_iff_ne]; omega
            have d97d : decide ((97 : Int) ≤ x) = false := decide_eq_false (by omega)
            have d65d : decide ((65 : Int) ≤ x) = true := decide_eq_true (by omega)
            have d48d : decide ((48 : Int) ≤ x) = true := decide_eq_true (by omega)
            have d122d : decide ((x : Int) ≤ 122) = true := decide_eq_true (by omega)
            have d90d : decide ((x : Int) ≤ 90) = false := decide_eq_false (by omega)
            have d57d : decide ((x : Int) ≤ 57) = false := decide_eq_false (by omega)
            have g36g : ¬ ((x : Int) = 36) := by omega
            have p36p : ¬ x = 36 := by omega
            have HS := Lib.hid hs
            clear hs h
            go_wp2
            go_round
            case rel => exact ⟨k + 1, by omega, by go_num, HT.out HS.out⟩
            case measure => simp [intOf]; omega
          · have hs : sgT x = false := by cases hsx : sgT x with | false => rfl | true => exfalso; unfold sgT dgT at hsx; simp only [Bool.or_eq_true, Bool.and_eq_true, decide_eq_true_eq] at hsx; omega
            have c0c : (x : Int) < 97 := by omega
            have c1c : (65 : Int) ≤ x := by omega
            have c2c : (48 : Int) ≤ x := by omega
            have c3c : (x : Int) ≤ 122 := by omega
            have c4c : (90 : Int) < x := by omega
            have c5c : (57 : Int) < x := by omega
            have e95e : ((x : Int) == 95) = false := by rw [beq_eq_false_iff_ne]; omega
            have n95n : (x == 95) = false := by rw [beq_eq_false_iff_ne]; omega
            have e36e : ((x : Int) == 36) = false := by rw [beq_eq_false_iff_ne]; omega
            have n36n : (x == 36) = false := by rw [beq_eq_false_iff_ne]; omega
            have d97d : decide ((97 : Int) ≤ x) = false := decide_eq_false (by omega)
            have d65d : decide ((65 : Int) ≤ x) = true := decide_eq_true (by omega)
            have d48d : decide ((48 : Int) ≤ x) = true := decide_eq_true (by omega)
            have d122d : decide ((x : Int) ≤ 122) = true := decide_eq_true (by omega)
            have d90d : decide ((x : Int) ≤ 90) = false := decide_eq_false (by omega)
            have d57d : decide ((x : Int) ≤ 57) = false := decide_eq_false (by omega)
            have g95g : ¬ ((x : Int) = 95) := by omega
            have p95p : ¬ x = 95 := by omega
            have g36g : ¬ ((x : Int) = 36) := by omega
            have p36p : ¬ x = 36 := by omega
            have HS := Lib.hid hs
            clear hs h
            go_wp2
            go_ret
            exact ⟨ret_bool6 (HNO.out HS.out).symm, rfl⟩
          · have hs : sgT x = true := by unfold sgT dgT; simp only [Bool.or_eq_true, Bool.and_eq_true, decide_eq_true_eq]; omega
            have c0c : (x : Int) < 97 := by omega
            have c1c : (x : Int) < 65 := by omega
            have c2c : (48 : Int) ≤ x := by omega
            have c3c : (x : Int) ≤ 122 := by omega
            have c4c : (x : Int) ≤ 90 := by omega
            have c5c : (x : Int) ≤ 57 := by omega
            have e95e : ((x : Int) == 95) = false := by rw [beq_eq_false_iff_ne]; omega
            have n95n : (x == 95) = false := by rw [beq_eq_false_iff_ne]; omega
            have e36e : ((x : Int) == 36) = false := by rw [beq_eq_false_iff_ne]; omega
            have n36n : (x == 36) = false := by rw [beq_eq_false_iff_ne]; omega
            have d97d : decide ((97 : Int) ≤ x) = false := decide_eq_false (by omega)
            have d65d : decide ((65 : Int) ≤ x) = false := decide_eq_false (by omega)
            have d48d : decide ((48 : Int) ≤ x) = true := decide_eq_true (by omega)
            have d122d : decide ((x : Int) ≤ 122) = true := decide_eq_true (by omega)
            have d90d : decide ((x : Int) ≤ 90) = true := decide_eq_true (by omega)
            have d57d : decide ((x : Int) ≤ 57) = true := decide_eq_true (by omega)
            have g95g : ¬ ((x : Int) = 95) := by omega
            have p95p : ¬ x = 95 := by omega
            have g36g : ¬ ((x : Int) = 36) := by omega
            have p36p : ¬ x = 36 := by omega
            have HS := Lib.hid hs
            clear hs h
            go_wp2
            go_round
            case rel => exact ⟨k + 1, by omega, by go_num, HT.out HS.out⟩
            case measure => simp [intOf]; omega
          · have hs : sgT x = false := by cases hsx : sgT x with | false => rfl | true => exfalso; unfold sgT dgT at hsx; simp only [Bool.or_eq_true, Bool.and_eq_true, decide_eq_true_eq] at hsx; omega
            have c0c : (x : Int) < 97 := by omega
            have c1c : (x : Int) < 65 := by omega
            have c2c : (48 : Int) ≤ x := by omega
            have c3c : (x : Int) ≤ 122 := by omega
            have c4c : (x : Int) ≤ 90 := by omega
            have c5c : (57 : Int) < x := by omega
            have e95e : ((x : Int) == 95) = false := by rw [beq_eq_false_iff_ne]; omega
            have n95n : (x == 95) = false := by rw [beq_eq_false_iff_ne]; omega
            have e36e : ((x : Int) == 36) = false := by rw [beq_eq_false_iff_ne]; omega
            have n36n : (x == 36) = false := by rw [beq_eq_false_iff_ne]; omega
            have d97d : decide ((97 : Int) ≤ x) = false := decide_eq_false (by omega)
            have d65d : decide ((65 : Int) ≤ x) = false := decide_eq_false (by omega)
            have d48d : decide ((48 : Int) ≤ x) = true := decide_eq_true (by omega)
            have d122d : decide ((x : Int) ≤ 122) = true := decide_eq_true (by omega)
            have d90d : decide ((x : Int) ≤ 90) = true := decide_eq_true (by omega)
            have d57d : decide ((x : Int) ≤ 57) = false := decide_eq_false (by omega)
            have g95g : ¬ ((x : Int) = 95) := by omega
            have p95p : ¬ x = 95 := by omega
            have g36g : ¬ ((x : Int) = 36) := by omega
            have p36p : ¬ x = 36 := by omega
            have HS := Lib.hid hs
            clear hs h
            go_wp2
            go_ret
            exact ⟨ret_bool6 (HNO.out HS.out).symm, rfl⟩
          · have hs : sgT x = true := by unfold sgT dgT; simp only [Bool.or_eq_true, Bool.and_eq_true, decide_eq_true_eq]; omega
            have c0c : (x : Int) < 97 := by omega
            have c1c : (x : Int) < 65 := by omega
            have c2c : (x : Int) < 48 := by omega
            have c3c : (x : Int) ≤ 122 := by omega
            have c4c : (x : Int) ≤ 90 := by omega
            have c5c : (x : Int) ≤ 57 := by omega
            have e95e : ((x : Int) == 95) = false := by rw [beq_eq_false_iff_ne]; omega
            have n95n : (x == 95) = false := by rw [beq_eq_false_iff_ne]; omega
            have e36e : ((x : Int) == 36) = true := by rw [beq_iff_eq]; omega
            have n36n : (x == 36) = true := by rw [beq_iff_eq]; omega
            have d97d : decide ((97 : Int) ≤ x) = false := decide_eq_false (by omega)
            have d65d : decide ((65 : Int) ≤ x) = false := decide_eq_false (by omega)
            have d48d : decide ((48 : Int) ≤ x) = false := decide_eq_false (by omega)
            have d122d : decide ((x : Int) ≤ 122) = true := decide_eq_true (by omega)
            have d90d : decide ((x : Int) ≤ 90) = true := decide_eq_true (by omega)
            have d57d : decide ((x : Int) ≤ 57) = true := decide_eq_true (by omega)
            have g95g : ¬ ((x : Int) = 95) := by omega
            have p95p : ¬ x = 95 := by omega
            have HS := Lib.hid hs
            clear hs h
            go_wp2
            go_round
            case rel => exact ⟨k + 1, by omega, by go_num, HT.out HS.out⟩
            case measure => simp [intOf]; omega
          · have hs : sgT x = false := by cases hsx : sgT x with | false => rfl | true => exfalso; unfold sgT dgT at hsx; simp only [Bool.or_eq_true, Bool.and_eq_true, decide_eq_true_eq] at hsx; omega
            have c0c : (x : Int) < 97 := by omega
            have c1c : (x : Int) < 65 := by omega
            have c2c : (x : Int) < 48 := by omega
            have c3c : (x : Int) ≤ 122 := by omega
            have c4c : (x : Int) ≤ 90 := by omega
            have c5c : (x : Int) ≤ 57 := by omega
            have e95e : ((x : Int) == 95) = false := by rw [beq_eq_false_iff_ne]; omega
            have n95n : (x == 95) = false := by rw [beq_eq_false_iff_ne]; omega
            have e36e : ((x : Int) == 36) = false := by rw [beq_eq_false_iff_ne]; omega
            have n36n : (x == 36) = false := by rw [beq_eq_false_iff_ne]; omega
            have d97d : decide ((97 : Int) ≤ x) = false := decide_eq_false (by omega)
            have d65d : decide ((65 : Int) ≤ x) = false := decide_eq_false (by omega)
            have d48d : decide ((48 : Int) ≤ x) = false := decide_eq_false (by omega)
            have d122d : decide ((x : Int) ≤ 122) = true := decide_eq_true (by omega)
            have d90d : decide ((x : Int) ≤ 90) = true := decide_eq_true (by omega)
            have d57d : decide ((x : Int) ≤ 57) = true := decide_eq_true (by omega)
            have g95g : ¬ ((x : Int) = 95) := by omega
            have p95p : ¬ x = 95 := by omega
            have g36g : ¬ ((x : Int) = 36) := by omega
            have p36p : ¬ x = 36 := by omega
            have HS := Lib.hid hs
            clear hs h
            go_wp2
            go_ret
            exact ⟨ret_bool6 (HNO.out HS.out).symm, rfl⟩
        · have hkI : (s.size : Int) ≤ k := by omega
          have HALL : Hid (isNameB s.data.toList = true) := HY2.out (by
            have := HE.out
            rwa [List.take_of_length_le (by have := HSL.out; omega)] at this)
          go_wp2
          go_ret
          exact ⟨ret_bool6 HALL.out.symm, rfl⟩
    | false =>
      clear hb12 hb1
      go_enter Tryz.func151, Tryz.ntmps151
      go_wp2
      go_loop [3, 4] (fun iv _ => ∃ (k : Nat), k ≤ s.size ∧ iv = .int .i64 (k : Nat) ∧ Hid ((s.data.toList.take k).all (fun b => sgT b.toNat) = true)) (fun iv _ => s.size - (intOf iv).toNat)
      case atStart => exact ⟨0, Nat.zero_le _, rfl, by show _ = true; simp⟩
      case round =>
        obtain ⟨k, hk, rfl, HE⟩ := hrel
        by_cases hkn : k < s.size
        · have hkI : (k : Int) < s.size := by omega
          obtain ⟨hk2, hbyte⟩ := str_byte6 s hkn
          have HT : Hid (sgT s[k].toNat = true → (s.data.toList.take (k + 1)).all (fun b => sgT b.toNat) = true) := fun h => by
            rw [List.take_add_one, List.all_append, HE.out, List.getElem?_eq_getElem hk2]
            simp [hbyte, h]
          have HNO : Hid (sgT s[k].toNat = false → isNameB s.data.toList = false) := fun h => isN_no (h := hk2) (by rw [hbyte]; exact h)
          obtain ⟨x, hx⟩ : ∃ x, x = s[k].toNat := ⟨_, rfl⟩
          have hxe : ((s[k].toNat : Nat) : Int) = (x : Int) := by rw [hx]
          rw [← hx] at HT HNO
          clear hx hbyte
          have hcase : (97 ≤ x ∧ x ≤ 122) ∨ (122 < x) ∨ (65 ≤ x ∧ x ≤ 90) ∨ (x = 95) ∨ (90 < x ∧ x < 97 ∧ x ≠ 95) ∨ (48 ≤ x ∧ x ≤ 57) ∨ (57 < x ∧ x < 65) ∨ (x = 36) ∨ (x < 48 ∧ x ≠ 36) := by omega
          rcases hcase with h | h | h | h | h | h | h | h | h
          · have hs : sgT x = true := by unfold sgT dgT; simp only [Bool.or_eq_true, Bool.and_eq_true, decide_eq_true_eq]; omega
            have c0c : (97 : Int) ≤ x := by omega
            have c1c : (65 : Int) ≤ x := by omega
            have c2c : (48 : Int) ≤ x := by omega
            have c3c : (x : Int) ≤ 122 := by omega
            have c4c : (90 : Int) < x := by omega
            have c5c : (57 : Int) < x := by omega
            have e95e : ((x : Int) == 95) = false := by rw [beq_eq_false_iff_ne]; omega
            have n95n : (x == 95) = false := by rw [beq_eq_false_iff_ne]; omega
            have e36e : ((x : Int) == 36) = false := by rw [beq_eq_false_iff_ne]; omega
            have n36n : (x == 36) = false := by rw [beq_eq_false_iff_ne]; omega
            have d97d : decide ((97 : Int) ≤ x) = true := decide_eq_true (by omega)
            have d65d : decide ((65 : Int) ≤ x) = true := decide_eq_true (by omega)
            have d48d : decide ((48 : Int) ≤ x) = true := decide_eq_true (by omega)
            have d122d : decide ((x : Int) ≤ 122) = true := decide_eq_true (by omega)
            have d90d : decide ((x : Int) ≤ 90) = false := decide_eq_false (by omega)
            have d57d : decide ((x : Int) ≤ 57) = false := decide_eq_false (by omega)
            have g95g : ¬ ((x : Int) = 95) := by omega
            have p95p : ¬ x = 95 := by omega
            have g36g : ¬ ((x : Int) = 36) := by omega
            have p36p : ¬ x = 36 := by omega
            have HS := Lib.hid hs
            clear hs h
            go_wp2
            go_round
            case rel => exact ⟨k + 1, by omega, by go_num, HT.out HS.out⟩
            case measure => simp [intOf]; omega
          · have hs : sgT x = false := by cases hsx : sgT x with | false => rfl | true => exfalso; unfold sgT dgT at hsx; simp only [Bool.or_eq_true, Bool.and_eq_true, decide_eq_true_eq] at hsx; omega
            have c0c : (97 : Int) ≤ x := by omega
            have c1c : (65 : Int) ≤ x := by omega
            have c2c : (48 : Int) ≤ x := by omega
            have c3c : (122 : Int) < x := by omega
            have c4c : (90 : Int) < x := by omega
            have c5c : (57 : Int) < x := by omega
            have e95e : ((x : Int) == 95) = false := by rw [beq_eq_false_iff_ne]; omega
            have n95n : (x == 95) = false := by rw [beq_eq_false_iff_ne]; omega
            have e36e : ((x : Int) == 36) = false := by rw [beq_eq_false_iff_ne]; omega
            have n36n : (x == 36) = false := by rw [beq_eq_false_iff_ne]; omega
            have d97d : decide ((97 : Int) ≤ x) = true := decide_eq_true (by omega)
            have d65d : decide ((65 : Int) ≤ x) = true := decide_eq_true (by omega)
            have d48d : decide ((48 : Int) ≤ x) = true := decide_eq_true (by omega)
            have d122d : decide ((x : Int) ≤ 122) = false := decide_eq_false (by omega)
            have d90d : decide ((x : Int) ≤ 90) = false := decide_eq_false (by omega)
            have d57d : decide ((x : Int) ≤ 57) = false := decide_eq_false (by omega)
            have g95g : ¬ ((x : Int) = 95) := by omega
            have p95p : ¬ x = 95 := by omega
            have g36g : ¬ ((x : Int) = 36) := by omega
            have p36p : ¬ x = 36 := by omega
            have HS := Lib.hid hs
            clear hs h
            go_wp2
            go_ret
            exact ⟨ret_bool6 (HNO.out HS.out).symm, rfl⟩
          · have hs : sgT x = true := by unfold sgT dgT; simp only [Bool.or_eq_true, Bool.and_eq_true, decide_eq_true_eq]; omega
            have c0c : (x : Int) < 97 := by omega
            have c1c : (65 : Int) ≤ x := by omega
            have c2c : (48 : Int) ≤ x := by omega
            have c3c : (x : Int) ≤ 122 := by omega
            have c4c : (x : Int) ≤ 90 := by omega
            have c5c : (57 : Int) < x := by omega
            have e95e : ((x : Int) == 95) = false := by rw [beq_eq_false_iff_ne]; omega
            have n95n : (x == 95) = false := by rw [beq_eq_false_iff_ne]; omega
            have e36e : ((x : Int) == 36) = false := by rw [beq_eq_false_iff_ne]; omega
            have n36n : (x == 36) = false := by rw [beq_eq_false_iff_ne]; omega
            have d97d : decide ((97 : Int) ≤ x) = false := decide_eq_false (by omega)
            have d65d : decide ((65 : Int) ≤ x) = true := decide_eq_true (by omega)
            have d48d : decide ((48 : Int) ≤ x) = true := decide_eq_true (by omega)
            have d122d : decide ((x : Int) ≤ 122) = true := decide_eq_true (by omega)
            have d90d : decide ((x : Int) ≤ 90) = true := decide_eq_true (by omega)
            have d57d : decide ((x : Int) ≤ 57) = false := decide_eq_false (by omega)
            have g95g : ¬ ((x : Int) = 95) := by omega
            have p95p : ¬ x = 95 := by omega
            have g36g : ¬ ((x : Int) = 36) := by omega
            have p36p : ¬ x = 36 := by omega
            have HS := Lib.hid hs
            clear hs h
            go_wp2
            go_round
            case rel => exact ⟨k + 1, by omega, by go_num, HT.out HS.out⟩
            case measure => simp [intOf]; omega
          · have hs : sgT x = true := by unfold sgT dgT; simp only [Bool.or_eq_true, Bool.and_eq_true, decide_eq_true_eq]; omega
            have c0c : (x : Int) < 97 := by omega
            have c1c : (65 : Int) ≤ x := by omega
            have c2c : (48 : Int) ≤ x := by omega
            have c3c : (x : Int) ≤ 122 := by omega
            have c4c : (90 : Int) < x := by omega
            have c5c : (57 : Int) < x := by omega
            have e95e : ((x : Int) == 95) = true := by rw [beq_iff_eq]; omega
            have n95n : (x == 95) = true := by rw [beq_iff_eq]; omega
            have e36e : ((x : Int) == 36) = false := by rw [beq_eq_false_iff_ne]; omega
            have n36n : (x == 36) = false := by rw [beq_eq_false_iff_ne]; omega
            have d97d : decide ((97 : Int) ≤ x) = false := decide_eq_false (by omega)
            have d65d : decide ((65 : Int) ≤ x) = true := decide_eq_true (by omega)
            have d48d : decide ((48 : Int) ≤ x) = true := decide_eq_true (by omega)
            have d122d : decide ((x : Int) ≤ 122) = true := decide_eq_true (by omega)
            have d90d : decide ((x : Int) ≤ 90) = false := decide_eq_false (by omega)
            have d57d : decide ((x : Int) ≤ 57) = false := decide_eq_false (by omega)
            have g36g : ¬ ((x : Int) = 36) := by omega
            have p36p : ¬ x = 36 := by omega
            have HS := Lib.hid hs
            clear hs h
            go_wp2
            go_round
            case rel => exact ⟨k + 1, by omega, by go_num, HT.out HS.out⟩
            case measure => simp [intOf]; omega
          · have hs : sgT x = false := by cases hsx : sgT x with | false => rfl | true => exfalso; unfold sgT dgT at hsx; simp only [Bool.or_eq_true, Bool.and_eq_true, decide_eq_true_eq] at hsx; omega
            have c0c : (x : Int) < 97 := by omega
            have c1c : (65 : Int) ≤ x := by omega
            have c2c : (48 : Int) ≤ x := by omega
            have c3c : (x : Int) ≤ 122 := by omega
            have c4c : (90 : Int) < x := by omega
            have c5c : (57 : Int) < x := by omega
            have e95e : ((x : Int) == 95) = false := by rw [beq_eq_false_iff_ne]; omega
            have n95n : (x == 95) = false := by rw [beq_eq_false_iff_ne]; omega
            have e36e : ((x : Int) == 36) = false := by rw [beq_eq_false_iff_ne]; omega
            have n36n : (x == 36) = false := by rw [beq_eq_false_iff_ne]; omega
            have d97d : decide ((97 : Int) ≤ x) = false := decide_eq_false (by omega)
            have d65d : decide ((65 : Int) ≤ x) = true := decide_eq_true (by omega)
            have d48d : decide ((48 : Int) ≤ x) = true := decide_eq_true (by omega)
            have d122d : decide ((x : Int) ≤ 122) = true := decide_eq_true (by omega)
            have d90d : decide ((x : Int) ≤ 90) = false := decide_eq_false (by omega)
            have d57d : decide ((x : Int) ≤ 57) = false := decide_eq_false (by omega)
            have g95g : ¬ ((x : Int) = 95) := by omega
            have p95p : ¬ x = 95 := by omega
            have g36g : ¬ ((x : Int) = 36) := by omega
            have p36p : ¬ x = 36 := by omega
            have HS := Lib.hid hs
            clear hs h
            go_wp2
            go_ret
            exact ⟨ret_bool6 (HNO.out HS.out).symm, rfl⟩
          · have hs : sgT x = true := by unfold sgT dgT; simp only [Bool.or_eq_true, Bool.and_eq_true, decide_eq_true_eq]; omega
            have c0c : (x : Int) < 97 := by omega
            have c1c : (x : Int) < 65 := by omega
            have c2c : (48 : Int) ≤ x := by omega
            have c3c : (x : Int) ≤ 122 := by omega
            have c4c : (x : Int) ≤ 90 := by omega
            have c5c : (x : Int) ≤ 57 := by omega
            have e95e : ((x : Int) == 95) = false := by rw [beq_eq_false_iff_ne]; omega
            have n95n : (x == 95) = false := by rw [beq_eq_false_iff_ne]; omega
            have e36e : ((x : Int) == 36) = false := by rw [beq_eq_false_iff_ne]; omega
            have n36n : (x == 36) = false := by rw [beq_eq_false_iff_ne]; omega
            have d97d : decide ((97 : Int) ≤ x) = false := decide_eq_false (by omega)
            have d65d : decide ((65 : Int) ≤ x) = false := decide_eq_false (by omega)
            have d48d : decide ((48 : Int) ≤ x) = true := decide_eq_true (by omega)
            have d122d : decide ((x : Int) ≤ 122) = true := decide_eq_true (by omega)
            have d90d : decide ((x : Int) ≤ 90) = true := decide_eq_true (by omega)
            have d57d : decide ((x : Int) ≤ 57) = true := decide_eq_true (by omega)
            have g95g : ¬ ((x : Int) = 95) := by omega
            have p95p : ¬ x = 95 := by omega
            have g36g : ¬ ((x : Int) = 36) := by omega
            have p36p : ¬ x = 36 := by omega
            have HS := Lib.hid hs
            clear hs h
            go_wp2
            go_round
            case rel => exact ⟨k + 1, by omega, by go_num, HT.out HS.out⟩
            case measure => simp [intOf]; omega
          · have hs : sgT x = false := by cases hsx : sgT x with | false => rfl | true => exfalso; unfold sgT dgT at hsx; simp only [Bool.or_eq_true, Bool.and_eq_true, decide_eq_true_eq] at hsx; omega
            have c0c : (x : Int) < 97 := by omega
            have c1c : (x : Int) < 65 := by omega
            have c2c : (48 : Int) ≤ x := by omega
            have c3c : (x : Int) ≤ 122 := by omega
            have c4c : (x : Int) ≤ 90 := by omega
            have c5c : (57 : Int) < x := by omega
            have e95e : ((x : Int) == 95) = false := by rw [beq_eq_false_iff_ne]; omega
            have n95n : (x == 95) = false := by rw [beq_eq_false_iff_ne]; omega
            have e36e : ((x : Int) == 36) = false := by rw [beq_eq_false_iff_ne]; omega
            have n36n : (x == 36) = false := by rw [beq_eq_false_iff_ne]; omega
            have d97d : decide ((97 : Int) ≤ x) = false := decide_eq_false (by omega)
            have d65d : decide ((65 : Int) ≤ x) = false := decide_eq_false (by omega)
            have d48d : decide ((48 : Int) ≤ x) = true := decide_eq_true (by omega)
            have d122d : decide ((x : Int) ≤ 122) = true := decide_eq_true (by omega)
            have d90d : decide ((x : Int) ≤ 90) = true := decide_eq_true (by omega)
            have d57d : decide ((x : Int) ≤ 57) = false := decide_eq_false (by omega)
            have g95g : ¬ ((x : Int) = 95) := by omega
            have p95p : ¬ x = 95 := by omega
            have g36g : ¬ ((x : Int) = 36) := by omega
            have p36p : ¬ x = 36 := by omega
            have HS := Lib.hid hs
            clear hs h
            go_wp2
            go_ret
            exact ⟨ret_bool6 (HNO.out HS.out).symm, rfl⟩
          · have hs : sgT x = true := by unfold sgT dgT; simp only [Bool.or_eq_true, Bool.and_eq_true, decide_eq_true_eq]; omega
            have c0c : (x : Int) < 97 := by omega
            have c1c : (x : Int) < 65 := by omega
            have c2c : (x : Int) < 48 := by omega
            have c3c : (x : Int) ≤ 122 := by omega
            have c4c : (x : Int) ≤ 90 := by omega
            have c5c : (x : Int) ≤ 57 := by omega
            have e95e : ((x : Int) == 95) = false := by rw [beq_eq_false_iff_ne]; omega
            have n95n : (x == 95) = false := by rw [beq_eq_false_iff_ne]; omega
            have e36e : ((x : Int) == 36) = true := by rw [beq_iff_eq]; omega
            have n36n : (x == 36) = true := by rw [beq_iff_eq]; omega
            have d97d : decide ((97 : Int) ≤ x) = false := decide_eq_false (by omega)
            have d65d : decide ((65 : Int) ≤ x) = false := decide_eq_false (by omega)
            have d48d : decide ((48 : Int) ≤ x) = false := decide_eq_false (by omega)
            have d122d : decide ((x : Int) ≤ 122) = true := decide_eq_true (by omega)
            have d90d : decide ((x : Int) ≤ 90) = true := decide_eq_true (by omega)
            have d57d : decide ((x : Int) ≤ 57) = true := decide_eq_true (by omega)
            have g95g : ¬ ((x : Int) = 95) := by omega
            have p95p : ¬ x = 95 := by omega
            have HS := Lib.hid hs
            clear hs h
            go_wp2
            go_round
            case rel => exact ⟨k + 1, by omega, by go_num, HT.out HS.out⟩
            case measure => simp [intOf]; omega
          · have hs : sgT x = false := by cases hsx : sgT x with | false => rfl | true => exfalso; unfold sgT dgT at hsx; simp only [Bool.or_eq_true, Bool.and_eq_true, decide_eq_true_eq] at hsx; omega
            have c0c : (x : Int) < 97 := by omega
            have c1c : (x : Int) < 65 := by omega
            have c2c : (x : Int) < 48 := by omega
            have c3c : (x : Int) ≤ 122 := by omega
            have c4c : (x : Int) ≤ 90 := by omega
            have c5c : (x : Int) ≤ 57 := by omega
            have e95e : ((x : Int) == 95) = false := by rw [beq_eq_false_iff_ne]; omega
            have n95n : (x == 95) = false := by rw [beq_eq_false_iff_ne]; omega
            have e36e : ((x : Int) == 36) = false := by rw [beq_eq_false_iff_ne]; omega
            have n36n : (x == 36) = false := by rw [beq_eq_false_iff_ne]; omega
            have d97d : decide ((97 : Int) ≤ x) = false := decide_eq_false (by omega)
            have d65d : decide ((65 : Int) ≤ x) = false := decide_eq_false (by omega)
            have d48d : decide ((48 : Int) ≤ x) = false := decide_eq_false (by omega)
            have d122d : decide ((x : Int) ≤ 122) = true := decide_eq_true (by omega)
            have d90d : decide ((x : Int) ≤ 90) = true := decide_eq_true (by omega)
            have d57d : decide ((x : Int) ≤ 57) = true := decide_eq_true (by omega)
            have g95g : ¬ ((x : Int) = 95) := by omega
            have p95p : ¬ x = 95 := by omega
            have g36g : ¬ ((x : Int) = 36) := by omega
            have p36p : ¬ x = 36 := by omega
            have HS := Lib.hid hs
            clear hs h
            go_wp2
            go_ret
            exact ⟨ret_bool6 (HNO.out HS.out).symm, rfl⟩
        · have hkI : (s.size : Int) ≤ k := by omega
          have HALL : Hid (isNameB s.data.toList = true) := HY2.out (by
            have := HE.out
            rwa [List.take_of_length_le (by have := HSL.out; omega)] at this)
          go_wp2
          go_ret
          exact ⟨ret_bool6 HALL.out.symm, rfl⟩
  exact HREST.out b1 b2 hb12 hq1 hq2 hq3 hq4

theorem memB_no {x : ByteArray} {l : List ByteArray} {k : Nat} (hk : k ≤ l.length) (h : ∀ t, t < k → gb l t ≠ x) : memB x (l.take k) = false := by
  cases hm : memB x (l.take k) with
  | false => rfl
  | true =>
    exfalso
    rw [memB_iff] at hm
    obtain ⟨t, ht, he⟩ := List.getElem_of_mem hm
    rw [List.length_take] at ht
    refine h t (by omega) ?_
    rw [gb_get (by omega), ← he, List.getElem_take]
theorem memB_yes {x : ByteArray} {l : List ByteArray} {k t : Nat} (ht : t < k) (hl : t < l.length) (h : gb l t = x) : memB x (l.take k) = true := by
  rw [memB_iff, ← h, gb_get hl, ← List.getElem_take (h := by rw [List.length_take]; omega) (j := k)]
  exact List.getElem_mem _
set_option maxHeartbeats 1600000 in
set_option maxRecDepth 100000 in
theorem rnames_any (p : Option Addr) (n c : Nat) (l : List ByteArray) (w : World) (hn : n = l.length) (hp : SlX w p l) :
    Calls Tryz.prog 134 #[.slice p n c] w fun e w' => e = .returned (.bool (namedB l)) ∧ Below w.heap.size w w' := by
  have HN := Lib.hid hn
  have HP := Lib.hid hp
  by_cases h20 : n ≤ 20
  · have e1 : decide ((n : Int) > 20) = false := by simp; omega
    have HL := Lib.hid h20
    have hn20 : (n : Int) ≤ 20 := by omega
    clear hn hp h20
    go_enter Tryz.func134, Tryz.ntmps134
    go_wp2
    go_loopw [3, 4] (fun iv _ wr => ∃ k : Nat, k ≤ n ∧ iv = .int .i64 (k : Nat) ∧ Hid (∀ j, j < k → nameOk l j = true) ∧ Hid (Below w.heap.size w wr)) (fun iv _ _ => n - (intOf iv).toNat)
    case atStart => exact ⟨0, Nat.zero_le _, rfl, fun j hj => absurd hj (by omega), Below.refl _ _⟩
    case round =>
      obtain ⟨k, hk, rfl, HE, HW⟩ := hrel
      rename World => wr
      by_cases hkn : k < n
      · have hkI : (k : Int) < n := by omega
        have hkl : k < l.length := by rw [← HN.out]; exact hkn
        have hpw := HP.out.below HW.out
        obtain ⟨b, o, rfl, hc⟩ := slx_at hpw hkl
        have HPW := Lib.hid hpw
        obtain ⟨s, hs⟩ : ∃ s, s = gb l k := ⟨_, rfl⟩
        rw [← hs] at hc
        have HOK : Hid (nameOk l k = (s.toList.isEmpty || (isNameB s.data.toList && !memB s (l.take k)))) := by show _ = _; unfold nameOk; rw [← hs]
        have HCI := Lib.hid (rName_any s wr)
        have hwr : IntKind.i64.wrap ((k : Nat) + 1 : Int) = (k : Nat) + 1 := by rw [IntKind.wrap_i64]; omega
        have HKL := Lib.hid hkl
        clear hs hpw hkl
        obtain ⟨b1, hb1⟩ : ∃ b : Bool, b = s.toList.isEmpty := ⟨_, rfl⟩
        obtain ⟨b2, hb2⟩ : ∃ b : Bool, b = isNameB s.data.toList := ⟨_, rfl⟩
        rw [← hb1, ← hb2] at HOK
        rw [← hb2] at HCI
        have hb1' := hb1.symm
        clear hb1 hb2
        have HGO : Hid (nameOk l k = true → ∀ j, j < k + 1 → nameOk l j = true) := fun h j hj => by
          by_cases hjk : j < k
          · exact HE.out j hjk
          · obtain rfl : j = k := by omega
            exact h
        have HNO : Hid (nameOk l k = false → namedB l = false) := fun h => namedB_bad HKL.out h
        cases b1 with
        | true =>
          have HX1 := Lib.hid (HGO.out (by rw [HOK.out]; rfl))
          clear HCI HGO
          go_wp2
          go_loopw [4] (fun jv wq => jv = .int .i64 0 ∧ wq = wr) (fun _ _ => 0)
          case atStart => exact ⟨rfl, by first | rfl | trivial⟩
          case round =>
            obtain ⟨rfl, hwq⟩ := hrel
            rename World => wq
            subst hwq
            by_cases hk0 : k = 0
            · have q1 : decide ((0 : Int) < k) = false := by simp; omega
              have q2 : decide (0 < k) = false := decide_eq_false (by omega)
              clear hk0
              go_wp2
              go_roundw
              case rel => exact ⟨k + 1, by omega, by go_num, HX1.out, HW.out⟩
              case measure => simp [intOf] <;> omega
            · have q1 : decide ((0 : Int) < k) = true := by simp; omega
              have q2 : decide (0 < k) = true := decide_eq_true (by omega)
              clear hk0
              go_wp2
              go_roundw
              case rel => exact ⟨k + 1, by omega, by go_num, HX1.out, HW.out⟩
              case measure => simp [intOf] <;> omega
        | false =>
          cases b2 with
          | false =>
            go_wp2_with (go_at_call 151; refine (HCI.out).mono ?_; rintro e w5 ⟨rfl, hw5⟩; obtain rfl := hw5.symm)
            go_ret
            exact ⟨by rw [HNO.out (by rw [HOK.out]; rfl)]; rfl, HW.out⟩
          | true =>
            go_wp2_with (go_at_call 151; refine (HCI.out).mono ?_; rintro e w5 ⟨rfl, hw5⟩; obtain rfl := hw5.symm)
            clear HCI
            go_loopw [4] (fun jv wq => ∃ j : Nat, j ≤ k ∧ jv = .int .i64 (j : Nat) ∧ Hid (∀ t, t < j → gb l t ≠ s) ∧ Hid (Below wr.heap.size wr wq)) (fun jv _ => k - (intOf jv).toNat)
            case atStart => exact ⟨0, Nat.zero_le _, rfl, fun t ht => absurd ht (by omega), Below.refl _ _⟩
            case round =>
              obtain ⟨j, hj, rfl, HJ, HQ⟩ := hrel
              rename World => wq
              have hcq : wq.cell? ⟨b, o + k, none⟩ = some (.string s) := by rw [HQ.out.cell (World.block_lt_of_cell? _ _ hc)]; exact hc
              by_cases hjk : j < k
              · have hjI : (j : Int) < k := by omega
                have hjn : (j : Int) < n := by omega
                have hjl : j < l.length := by have := HKL.out; omega
                obtain ⟨b', o', he, hcj⟩ := slx_at (HPW.out.below HQ.out) hjl
                cases he
                obtain ⟨t, ht⟩ : ∃ s, s = gb l j := ⟨_, rfl⟩
                rw [← ht] at hcj
                have HY : Hid (t = s → namedB l = false) := fun h => HNO.out (by rw [HOK.out, memB_yes hjk hjl (ht.symm.trans h)]; rfl)
                have HJ2 : Hid (t ≠ s → ∀ u, u < j + 1 → gb l u ≠ s) := fun h u hu => by
                  by_cases huj : u < j
                  · exact HJ.out u huj
                  · obtain rfl : u = j := by omega
                    rw [← ht]; exact h
                have hwj : IntKind.i64.wrap ((j : Nat) + 1 : Int) = (j : Nat) + 1 := by rw [IntKind.wrap_i64]; omega
                clear ht hjl
                by_cases hts : t = s
                · have q1 : (t.toList == s.toList) = true := by rw [hts]; simp
                  have HZ := Lib.hid (HY.out hts)
                  clear hts
                  go_wp2
                  go_quiet (fail)
                  go_wp2
                  go_ret
                  exact ⟨by rw [HZ.out]; rfl, bl_trans (HW.out.trans (HQ.out.mono HW.out.size)) (drewN_below wq nq)⟩
                · have q1 : (t.toList == s.toList) = false := by rw [beq_eq_false_iff_ne]; exact fun h => hts (ba_inj h)
                  have HZ := Lib.hid (HJ2.out hts)
                  clear hts
                  go_wp2
                  go_quiet (fail)
                  go_wp2
                  go_roundw
                  case rel => exact ⟨j + 1, by omega, by go_num, HZ.out, bl_trans HQ.out (drewN_below wq nq)⟩
                  case measure => simp [intOf] <;> omega
              · have hjI : (k : Int) ≤ j := by omega
                have q2 : decide ((j : Int) < k) = false := by simp; omega
                obtain rfl : j = k := by omega
                have HX1 := Lib.hid (HGO.out (by rw [HOK.out, memB_no (Nat.le_of_lt HKL.out) HJ.out]; rfl))
                go_wp2
                go_roundw
                case rel => exact ⟨j + 1, by omega, by go_num, HX1.out, HW.out.trans (HQ.out.mono HW.out.size)⟩
                case measure => simp [intOf] <;> omega
      · have hkI : (n : Int) ≤ k := by omega
        have HT : Hid (namedB l = true) := namedB_of (by have := HN.out; have := HL.out; omega) fun i hi => HE.out i (by have := HN.out; omega)
        go_wp2
        go_ret
        exact ⟨by rw [HT.out]; rfl, HW.out⟩
  · have e1 : decide ((n : Int) > 20) = true := by simp; omega
    have HT : Hid (namedB l = false) := by show _ = _; unfold namedB; rw [decide_eq_false (by omega), Bool.false_and]
    clear hn hp h20
    go_enter Tryz.func134, Tryz.ntmps134
    go_wp2
    go_ret
    exact ⟨by rw [HT.out]; rfl, Below.refl _ _⟩
end Go.Proofs.YtjpccmiaimkmbaaGreat
