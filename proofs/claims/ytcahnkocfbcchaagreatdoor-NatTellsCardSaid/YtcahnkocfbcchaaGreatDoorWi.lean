/- The walks of the orders and of what holds two numbers against each other: cmp.Compare at uint32, against, Cmp, Right, SameLimbs, SameNat, same. -/
import Derived.Test.YtcahnkocfbcchaaGreatDoorWf
import Derived.Test.YtcahnkocfbcchaaGreatDoorShelf

namespace Go.Proofs.YtcahnkocfbcchaaGreatDoor
open Go.RowKit Tnd

def ord (a b : Nat) : Int := if a < b then -1 else if a = b then 0 else 1

theorem cmp32_any (a b : Nat) (w : World) :
    Calls Tryz.prog 70 #[.int .u32 (a : Nat), .int .u32 (b : Nat)] w fun e w' => e = .returned (.int .i64 (ord a b)) ∧ w' = w := by
  rcases Nat.lt_trichotomy a b with h | h | h
  · have e : ord a b = -1 := by unfold ord; rw [if_pos h]
    have HE := Lib.hid e
    clear e
    go_enter Tryz.func70, Tryz.ntmps70
    go_wp2
    go_ret
    rw [HE.out]
    exact ⟨rfl, rfl⟩
  · subst h
    have e : ord a a = 0 := by unfold ord; simp
    have HE := Lib.hid e
    clear e
    go_enter Tryz.func70, Tryz.ntmps70
    go_wp2
    go_ret
    rw [HE.out]
    exact ⟨rfl, rfl⟩
  · have e : ord a b = 1 := by unfold ord; rw [if_neg (by omega), if_neg (by omega)]
    have HE := Lib.hid e
    clear e
    go_enter Tryz.func70, Tryz.ntmps70
    go_wp2
    go_ret
    rw [HE.out]
    exact ⟨rfl, rfl⟩

theorem samelimbs_any (p q : Option Addr) (c d : Nat) (l m : List Nat) (w : World) (h1 : Sl w .u32 p l) (h2 : Sl w .u32 q m) (hl : l.length ≤ 1000000000000) (hm : m.length ≤ 1000000000000) :
    Calls Tryz.prog 68 #[.slice p l.length c, .slice q m.length d] w fun e w' => e = .returned (.bool (decide (l = m))) ∧ ∃ n, w' = w.drewN n := by
  by_cases hlen : l.length = m.length
  · have H1 := Lib.hid h1
    have H2 := Lib.hid h2
    rw [← hlen]
    have HL := Lib.hid hlen
    clear h1 h2 hlen
    have hne : (((l.length : Nat) : Int) != ((l.length : Nat) : Int)) = false := by simp
    go_enter Tryz.func68, Tryz.ntmps68
    go_wp2
    go_loopw [5] (fun i wr => ∃ (k n : Nat), k ≤ l.length ∧ i = .int .i64 k ∧ Hid (l.take k = m.take k) ∧ wr = w.drewN n) (fun i _ => l.length - (intOf i).toNat)
    case atStart => exact ⟨0, 0, by omega, rfl, by show l.take 0 = m.take 0; simp, rfl⟩
    case round =>
      obtain ⟨k, n, hk, rfl, HT, rfl⟩ := hrel
      by_cases hk1 : k < l.length
      · obtain ⟨b1, o1, rfl, hc1⟩ : ∃ b o, p = some ⟨b, o, none⟩ ∧ w.cell? ⟨b, o + k, none⟩ = some (.int .u32 (gd l k : Nat)) := by
          rcases H1.out with h | ⟨b, o, h, hh⟩
          · subst h; simp at hk1
          · exact ⟨b, o, h, hh k hk1⟩
        obtain ⟨b2, o2, rfl, hc2⟩ : ∃ b o, q = some ⟨b, o, none⟩ ∧ w.cell? ⟨b, o + k, none⟩ = some (.int .u32 (gd m k : Nat)) := by
          have hk2 : k < m.length := by rw [← HL.out]; exact hk1
          rcases H2.out with h | ⟨b, o, h, hh⟩
          · subst h; simp at hk2
          · exact ⟨b, o, h, hh k hk2⟩
        have hs1 := take_succ_getD l k hk1
        have hs2 := take_succ_getD m k (by rw [← HL.out]; exact hk1)
        have HS1 := Lib.hid hs1
        have HS2 := Lib.hid hs2
        clear hs1 hs2
        by_cases he : gd l k = gd m k
        · rw [he] at hc1
          have HE := Lib.hid he
          clear he
          have hb : ((((gd m k : Nat) : Int)) != ((gd m k : Nat) : Int)) = false := by simp
          go_wp2
          go_quiet (fail)
          go_wp2
          go_roundw
          case rel => exact ⟨k + 1, _, by omega, by go_num, by show l.take (k + 1) = m.take (k + 1); rw [HS1.out, HS2.out, HT.out]; unfold gd at HE; rw [HE.out], rfl⟩
          case measure => simp [intOf]; omega
        · have hb : ((((gd l k : Nat) : Int)) != ((gd m k : Nat) : Int)) = true := by rw [bne_iff_ne]; omega
          have hlm : decide (l = m) = false := by
            rw [decide_eq_false_iff_not]; intro e; apply he; rw [e]
          have HLM := Lib.hid hlm
          clear he hlm
          go_wp2
          go_quiet (fail)
          go_wp2
          go_ret
          exact ⟨by rw [HLM.out]; rfl, _, by rw [World.drewN_drewN]⟩
      · obtain rfl : k = l.length := by omega
        have hlm : decide (l = m) = true := by
          have h := HT.out
          rw [List.take_length] at h
          rw [decide_eq_true_iff, h, HL.out, List.take_length]
        have HLM := Lib.hid hlm
        clear hlm
        go_wp2
        go_ret
        exact ⟨by rw [HLM.out]; rfl, _, rfl⟩
  · have hne : (((l.length : Nat) : Int) != ((m.length : Nat) : Int)) = true := by rw [bne_iff_ne]; omega
    have hlm : decide (l = m) = false := by rw [decide_eq_false_iff_not]; intro e; apply hlen; rw [e]
    have HLM := Lib.hid hlm
    clear hlm hlen h1 h2
    go_enter Tryz.func68, Tryz.ntmps68
    go_wp2
    go_ret
    exact ⟨by rw [HLM.out]; rfl, 0, rfl⟩

/-- what is known on the way down: from the place on the digits are one, or the order is found. -/
def AgInv (l m : List Nat) (j o : Int) : Prop :=
  (o = 0 ∧ l.drop (j + 1).toNat = m.drop (j + 1).toNat) ∨ (o ≠ 0 ∧ o = ord (nv 4294967296 l) (nv 4294967296 m))
theorem ag_step {l m : List Nat} {k : Nat} (hk : k < l.length) (hl : l.length = m.length) (dl : Digs 4294967296 l) (dm : Digs 4294967296 m) (h : l.drop (k + 1) = m.drop (k + 1)) :
    AgInv l m ((k : Int) - 1) (ord (gd l k) (gd m k)) := by
  have e1 : ((k : Int) - 1 + 1).toNat = k := by omega
  have hd1 : l.drop k = gd l k :: l.drop (k + 1) := by unfold gd; rw [getD_at hk]; exact List.drop_eq_getElem_cons hk
  have hd2 : m.drop k = gd m k :: m.drop (k + 1) := by unfold gd; rw [getD_at (by omega)]; exact List.drop_eq_getElem_cons (by omega)
  have hsp1 : l = l.take k ++ gd l k :: l.drop (k + 1) := by rw [← hd1, List.take_append_drop]
  have hsp2 : m = m.take k ++ gd m k :: m.drop (k + 1) := by rw [← hd2, List.take_append_drop]
  have htl : (l.take k).length = (m.take k).length := by rw [List.length_take, List.length_take, hl]
  unfold AgInv
  rw [e1]
  rcases Nat.lt_trichotomy (gd l k) (gd m k) with hlt | heq | hgt
  · right
    have hv : nv 4294967296 l < nv 4294967296 m := by
      have := nv_lt_of_top 4294967296 (l.take k) (m.take k) (l.drop (k + 1)) _ _ (digs_take dl k) htl hlt
      rw [← hsp1, h, ← hsp2] at this
      exact this
    have e : ord (gd l k) (gd m k) = -1 := by unfold ord; rw [if_pos hlt]
    have e2 : ord (nv 4294967296 l) (nv 4294967296 m) = -1 := by unfold ord; rw [if_pos hv]
    rw [e, e2]; exact ⟨by omega, rfl⟩
  · left
    refine ⟨by unfold ord; rw [if_neg (by omega), if_pos heq], ?_⟩
    rw [hd1, hd2, heq, h]
  · right
    have hv : nv 4294967296 m < nv 4294967296 l := by
      have := nv_lt_of_top 4294967296 (m.take k) (l.take k) (m.drop (k + 1)) _ _ (digs_take dm k) htl.symm hgt
      rw [← hsp2, ← h, ← hsp1] at this
      exact this
    have e : ord (gd l k) (gd m k) = 1 := by unfold ord; rw [if_neg (by omega), if_neg (by omega)]
    have e2 : ord (nv 4294967296 l) (nv 4294967296 m) = 1 := by unfold ord; rw [if_neg (by omega), if_neg (by omega)]
    rw [e, e2]; exact ⟨by omega, rfl⟩

theorem against_any (p q : Option Addr) (c d : Nat) (l m : List Nat) (w : World) (h1 : Sl w .u32 p l) (h2 : Sl w .u32 q m) (dl : Digs 4294967296 l) (dm : Digs 4294967296 m) (rl : RightL l) (rm : RightL m)
    (hl : l.length ≤ 1000000000000) (_hm : m.length ≤ 1000000000000) :
    Calls Tryz.prog 39 #[.slice p l.length c, .slice q m.length d] w fun e w' => e = .returned (.int .i64 (ord (nv 4294967296 l) (nv 4294967296 m))) ∧ ∃ n, w' = w.drewN n := by
  by_cases hlen : l.length = m.length
  · have HL := Lib.hid hlen
    have H1 := Lib.hid h1
    have H2 := Lib.hid h2
    have DL := Lib.hid dl
    have DM := Lib.hid dm
    have hci : Lib.compareInt (l.length : Nat) (l.length : Nat) = 0 := by unfold Lib.compareInt; simp
    rw [← hlen]
    clear hlen h1 h2 dl dm rl rm _hm
    have HCI := Lib.hid hci
    clear hci
    go_enter Tryz.func39, Tryz.ntmps39
    go_wp2_with fail
    refine (Tryz.cmp_Compare_int (l.length : Nat) (l.length : Nat) _).mono ?_
    rintro e w' ⟨rfl, hw⟩
    obtain rfl := hw.symm
    clear hw
    rw [HCI.out]
    go_wp2
    go_loopw [5, 6] (fun ov iv wr => ∃ (o j : Int) (n : Nat), -1 ≤ j ∧ j < l.length ∧ ov = .int .i64 o ∧ iv = .int .i64 j ∧ Hid (AgInv l m j o) ∧ wr = w.drewN n) (fun _ i _ => (intOf i + 1).toNat)
    case atStart =>
      refine ⟨0, (l.length : Int) - 1, 0, by omega, by omega, rfl, rfl, .inl ⟨rfl, ?_⟩, rfl⟩
      have e1 : ((l.length : Int) - 1 + 1).toNat = l.length := by omega
      rw [e1, List.drop_length, HL.out, List.drop_length]
    case round =>
      obtain ⟨o, j, n, hj1, hj2, rfl, rfl, HA, hw⟩ := hrel
      rename World => wr
      have HW := Lib.hid hw
      clear hw
      by_cases ho : o = 0
      · subst ho
        by_cases hj : 0 ≤ j
        · obtain ⟨k, rfl⟩ : ∃ k : Nat, j = k := ⟨j.toNat, by omega⟩
          have hk1 : k < l.length := by omega
          have hk2 : k < m.length := by rw [← HL.out]; exact hk1
          obtain ⟨b1, o1, rfl, hc1⟩ : ∃ b o, p = some ⟨b, o, none⟩ ∧ wr.cell? ⟨b, o + k, none⟩ = some (.int .u32 (gd l k : Nat)) := by
            rw [HW.out]
            rcases H1.out with h | ⟨b, o, h, hh⟩
            · subst h; simp at hk1
            · exact ⟨b, o, h, hh k hk1⟩
          obtain ⟨b2, o2, rfl, hc2⟩ : ∃ b o, q = some ⟨b, o, none⟩ ∧ wr.cell? ⟨b, o + k, none⟩ = some (.int .u32 (gd m k : Nat)) := by
            rw [HW.out]
            rcases H2.out with h | ⟨b, o, h, hh⟩
            · subst h; simp at hk2
            · exact ⟨b, o, h, hh k hk2⟩
          have hst : AgInv l m ((k : Int) - 1) (ord (gd l k) (gd m k)) := by
            refine ag_step hk1 HL.out DL.out DM.out ?_
            rcases HA.out with h | h
            · have e1 : ((k : Int) + 1).toNat = k + 1 := by omega
              have h3 := h.2
              rw [e1] at h3
              exact h3
            · exact absurd rfl h.1
          generalize gd l k = x at *
          generalize gd m k = y at *
          have HST := Lib.hid hst
          clear hst
          go_wp2
          go_quiet ((go_at_call 70; exact Calls.quiet_of_same (cmp32_any _ _ _)))
          go_wp2
          go_roundw
          case rel => exact ⟨_, (k : Int) - 1, _, by omega, by omega, rfl, rfl, HST, by rw [HW.out, World.drewN_drewN]⟩
          case measure => simp [intOf]
        · obtain rfl : j = -1 := by omega
          have hfin : ord (nv 4294967296 l) (nv 4294967296 m) = 0 := by
            rcases HA.out with h | h
            · have h3 := h.2
              have e1 : ((-1 : Int) + 1).toNat = 0 := rfl
              rw [e1, List.drop_zero, List.drop_zero] at h3
              rw [h3]; unfold ord; simp
            · exact absurd rfl h.1
          have HF := Lib.hid hfin
          clear hfin
          go_wp2
          go_ret
          exact ⟨by rw [HF.out]; rfl, _, HW.out⟩
      · have hfin : ord (nv 4294967296 l) (nv 4294967296 m) = o := by
          rcases HA.out with h | h
          · exact absurd h.1 ho
          · exact h.2.symm
        have hob : (o == 0) = false := by rw [beq_eq_false_iff_ne]; exact ho
        have HF := Lib.hid hfin
        clear hfin ho
        go_wp2
        go_ret
        exact ⟨by rw [HF.out]; rfl, _, HW.out⟩
  · obtain ⟨o, ho⟩ : ∃ o, o = Lib.compareInt (l.length : Nat) (m.length : Nat) := ⟨_, rfl⟩
    have hfin : ord (nv 4294967296 l) (nv 4294967296 m) = o := by
      rw [ho]; unfold Lib.compareInt ord
      rcases Nat.lt_or_gt_of_ne hlen with h | h
      · have hv := nv_lt_of_length 4294967296 (by omega) l m dl rm h
        rw [if_pos hv, if_pos (by omega)]
      · have hv := nv_lt_of_length 4294967296 (by omega) m l dm rl h
        rw [if_neg (by omega), if_neg (by omega), if_neg (by omega), if_pos (by omega)]
    have hob : (o == 0) = false := by
      rw [beq_eq_false_iff_ne, ho]; unfold Lib.compareInt
      split
      · omega
      · split <;> omega
    have HF := Lib.hid hfin
    have HO := Lib.hid ho
    clear hfin ho h1 h2 dl dm rl rm hlen
    go_enter Tryz.func39, Tryz.ntmps39
    go_wp2_with fail
    refine (Tryz.cmp_Compare_int (l.length : Nat) (m.length : Nat) _).mono ?_
    rintro e w' ⟨rfl, hw⟩
    obtain rfl := hw.symm
    clear hw
    rw [← HO.out]
    go_wp2
    go_loopw [5, 6] (fun ov iv wr => ∃ (j : Int), ov = .int .i64 o ∧ iv = .int .i64 j ∧ wr = w) (fun _ _ _ => 0)
    case atStart => exact ⟨_, rfl, rfl, rfl⟩
    case round =>
      obtain ⟨j, rfl, rfl, rfl⟩ := hrel
      go_wp2
      go_ret
      exact ⟨by rw [HF.out]; rfl, 0, rfl⟩

end Go.Proofs.YtcahnkocfbcchaaGreatDoor
