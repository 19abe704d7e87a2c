/- The walk of Pow: a power, or that it has too many digits. -/
import Derived.Test.YtcahnkocfbcchaaGreatDoorWf
import Derived.Test.YtcahnkocfbcchaaGreatDoorShelf
import Derived.Lib.RabinKarpLaws
import Derived.Lib.ItoaNum
import Derived.Laws.ShiftsVarLaws

namespace Go.Proofs.YtcahnkocfbcchaaGreatDoor
open Go.RowKit Tnd

theorem own_old {w : World} {B : Nat} {p : Option Addr} {c : Nat} {l : List Nat} (h : Own w B 46 .u32 (.slice p l.length c) l) : Old w w.heap.size p l := by
  obtain ⟨p', c', he, _, _, _, hs, _⟩ := own_form h
  simp only [Value.slice.injEq, true_and] at he
  obtain ⟨rfl, rfl⟩ := he
  rcases hs with hs | ⟨b, off, h1, h2⟩
  · exact .inl hs
  · by_cases hl : l = []
    · exact .inl hl
    · have h0 : 0 < l.length := Nat.pos_of_ne_zero (fun e => hl (List.eq_nil_of_length_eq_zero e))
      exact .inr ⟨b, off, h1, World.block_lt_of_cell? w _ (h2 0 h0), h2⟩
theorem bitLen_lt (n : Nat) (h : n < 18446744073709551616) : n < 2 ^ Lib.bitLen n ∧ Lib.bitLen n ≤ 64 := by
  refine ⟨?_, Lib.bitLen_le n 64 (by omega) h⟩
  by_cases h0 : n = 0
  · subst h0; exact Nat.pow_pos (by omega)
  · exact (Lib.bitLenAux_bounds 64 n h h0).2.2
def maxD : Nat := 2000
def tooBig : Nat := 4294967296 ^ maxD
theorem big_of_len {l : List Nat} (hr : RightL l) (h : 2000 < l.length) : tooBig ≤ nv 4294967296 l := by
  have h1 := right_ge 4294967296 l hr (by intro e; simp [e] at h)
  exact Nat.le_trans (Nat.pow_le_pow_right (by omega) (by unfold maxD; omega)) h1
theorem small_of_len {l : List Nat} (hd : Digs 4294967296 l) (h : l.length ≤ 2000) : nv 4294967296 l < tooBig :=
  Nat.lt_of_lt_of_le (nv_lt 4294967296 l hd) (Nat.pow_le_pow_right (by omega) h)
theorem one_lt_big : 1 < tooBig := Nat.one_lt_pow (by unfold maxD; omega) (by omega)
theorem big_mono (a e n : Nat) (h : tooBig ≤ a ^ e) (he : e ≤ n) : tooBig ≤ a ^ n := by
  by_cases h0 : a = 0
  · subst h0
    have := one_lt_big
    have h2 : 0 ^ e ≤ 1 := by cases e <;> simp
    omega
  · exact Nat.le_trans h (Nat.pow_le_pow_right (by omega) he)
theorem half_step (n j : Nat) : n / 2 ^ j = 2 * (n / 2 ^ (j + 1)) + n / 2 ^ j % 2 := by
  have : n / 2 ^ (j + 1) = n / 2 ^ j / 2 := by rw [Nat.pow_succ, Nat.div_div_eq_div_mul]
  rw [this]; omega
theorem and_shift (n k : Nat) (h : n ≤ 9223372036854775807) : bits BinOp.and IntKind.i64 ((n : Int) / 2 ^ k) 1 = ((n / 2 ^ k % 2 : Nat) : Int) := by
  have e : ((n : Int) / 2 ^ k) = ((n / 2 ^ k : Nat) : Int) := by rw [Int.natCast_ediv, Int.natCast_pow]; rfl
  rw [e]
  exact Go.Proofs.and_one _ (Nat.lt_of_le_of_lt (Nat.div_le_self _ _) (by omega))
theorem pow_bit1 (a m h : Nat) (hh : m = 2 * h + m % 2) (hb : m % 2 = 1) : a ^ (2 * h) * a = a ^ m := by
  have e : m = 2 * h + 1 := by omega
  rw [e, Nat.pow_succ]
theorem pow_bit0 (a m h : Nat) (hh : m = 2 * h + m % 2) (hb : m % 2 = 0) : a ^ (2 * h) = a ^ m := by
  have e : m = 2 * h := by omega
  rw [e]
theorem pow_square (a m : Nat) : a ^ m * a ^ m = a ^ (2 * m) := by rw [← Nat.pow_add]; congr 1; omega

/-- what Pow tells of n at least 0. -/
def PowSays (w : World) (B : Nat) (v : Value) (c : Int) (a n : Nat) : Prop :=
  (a ^ n < tooBig ∧ c = 0 ∧ FNat w B v (a ^ n)) ∨ (tooBig ≤ a ^ n ∧ c = 3 ∧ v = .agg #[.slice none 0 0])

set_option maxRecDepth 100000 in
theorem pow_pos (v : Value) (l : List Nat) (n : Nat) (w : World) (hin : NatIn w w.heap.size v l) (hn : n ≤ 9223372036854775807) (hl : l.length ≤ 10000000000) :
    Calls Tryz.prog 24 #[v, .int .i64 (n : Nat)] w fun e w' =>
      ∃ v c, e = .returned (.tuple #[v, .int .i64 c]) ∧ PowSays w' w.heap.size v c (nv 4294967296 l) n ∧ Below w.heap.size w w' := by
  have hin2 : NatIn ((w.alloc (.cells v.cells 24)).alloc (.cells #[.slice none 0 0] 24)) (w.heap.size + 2) v l :=
    (hin.below (((Below.refl _ w).alloc (Nat.le_refl _) _).alloc (by simp) _)).up (by omega)
  have hrow := row_any v l (w.heap.size + 2) _ hin2 (by simp)
  have hbl := bitLen_lt n (by omega)
  have hbz : n / 2 ^ Lib.bitLen n = 0 := Nat.div_eq_of_lt hbl.1
  have HBZ := Lib.hid hbz
  have hb64 := hbl.2
  clear hbz hbl
  have hn0 : decide ((n : Int) < 0) = false := by simp
  obtain ⟨p, c, rfl, hrest⟩ := hin
  have HR := Lib.hid hrow
  have HD : Hid (Digs 4294967296 l) := hrest.2.1
  clear hrow hin2 hrest
  go_enter Tryz.func24, Tryz.ntmps24
  go_wp2_with fail
  refine HR.out.mono ?_
  rintro e w1 ⟨bp, bc, rfl, hob, hb1, ht1, ht2, ht3⟩
  clear ht1 ht2 ht3
  have HOB := Lib.hid hob
  have HB1 := Lib.hid hb1
  clear hob hb1 HR
  have hs1 : w.heap.size + 2 ≤ w1.heap.size := by have := HB1.out.size; simp at this; omega
  go_wp2_with fail
  refine (one_any w1).mono ?_
  rintro e w2 ⟨q, qc, rfl, hoq, hb2⟩
  have HOQ := Lib.hid hoq
  have HB2 := Lib.hid hb2
  clear hoq hb2
  have hs2 := HB2.out.size
  go_wp2_with fail
  refine (Tryz.bits_Len (n : Nat) _ (by omega) (by omega)).mono ?_
  rintro e w3 ⟨rfl, rfl⟩
  rw [Int.toNat_natCast]
  generalize Lib.bitLen n = bl at *
  obtain ⟨nb, hnb⟩ : ∃ nb, nb = w2.heap.size := ⟨_, rfl⟩
  obtain ⟨w3, hw3⟩ : ∃ w3, w3 = w2.alloc (.cells #[.slice q 1 qc] 54) := ⟨_, rfl⟩
  have hN3 : Num w3 nb w1.heap.size [1] := by
    subst hw3; subst hnb
    exact ⟨.slice q 1 qc, heap_alloc_new w2 _, HOQ.out.alloc _, by intro d hd; simp only [List.mem_singleton] at hd; omega⟩
  have hB3 : Below w1.heap.size w1 w3 := by subst hw3; exact HB2.out.alloc hs2 _
  have hR3 : w1.heap[w.heap.size + 1]? = some (.cells #[.slice none 0 0] 24 (0, 0)) := by
    rw [HB1.out.block _ (by simp)]
    have := heap_alloc_new (w.alloc (.cells #[.slice p l.length c] 24)) (.cells #[.slice none 0 0] 24)
    simpa [Value.cells] using this
  rw [← hw3, ← hnb]
  have HN3 := Lib.hid hN3
  have HB3 := Lib.hid hB3
  have HR3 := Lib.hid hR3
  have HW3 := Lib.hid hw3
  have HNB := Lib.hid hnb
  have hbase0 : Below w.heap.size w w1 := (((Below.refl _ w).alloc (Nat.le_refl _) _).alloc (by simp) _).trans (HB1.out.mono (by simp; omega))
  have HBW := Lib.hid hbase0
  clear hbase0
  have HTL := Lib.hid (nv_tlen 4294967296 l)
  have HDT := Lib.hid (digs_take HD.out (tlen l))
  have htl := tlen_le l
  clear hN3 hB3 hR3 hw3 hnb
  have hlt : (l.take (tlen l)).length = tlen l := by rw [List.length_take]; omega
  generalize hbase : l.take (tlen l) = base at *
  rw [← hlt]
  have HLT := Lib.hid hlt
  have hbl : base.length ≤ 10000000000 := by omega
  clear hlt hbase
  generalize tlen l = tl at *
  go_wp2
  go_loopw [8] (fun i wr => ∃ (j : Int) (l1 : List Nat), -1 ≤ j ∧ j ≤ 63 ∧ i = .int .i64 j ∧ Hid (Num wr nb w1.heap.size l1) ∧ Hid (RightL l1) ∧ Hid (nv 4294967296 l1 = nv 4294967296 l ^ (n / 2 ^ (j + 1).toNat)) ∧ l1.length ≤ 2000 ∧ Hid (Below w1.heap.size w1 wr)) (fun i _ => (intOf i + 1).toNat)
  case atStart =>
    refine ⟨(bl : Int) - 1, [1], by omega, by omega, rfl, HN3, ?_, ?_, by simp, HB3⟩
    · show RightL [1]; simp [RightL]
    · show nv 4294967296 [1] = _
      have e : ((bl : Int) - 1 + 1).toNat = bl := by omega
      rw [e, HBZ.out]; simp [nv]
  case round =>
    obtain ⟨j, l1, hj1, hj2, rfl, HN, HRT, HV, hl1, HB⟩ := hrel
    rename World => wr
    by_cases hj0 : 0 ≤ j
    · obtain ⟨k, rfl⟩ : ∃ k : Nat, j = k := ⟨j.toNat, by omega⟩
      obtain ⟨s1, hv1, ho1, hd1⟩ := HN.out
      obtain ⟨p1, c1, rfl⟩ : ∃ p1 c1, s1 = .slice p1 l1.length c1 := by
        obtain ⟨p1, c1, hs1, _⟩ := own_form ho1
        exact ⟨p1, c1, hs1⟩
      have hc1 := cell_of_one hv1
      have hnb : w1.heap.size ≤ nb := by rw [HNB.out]; exact hs2
      have HT1 := Lib.hid (times_any nb w1.heap.size l1 l1 p1 c1 wr HN.out hnb (own_old ho1) hd1 (by omega) (by omega))
      clear hv1 ho1 hd1
      go_wp2_with fail
      refine HT1.out.mono ?_
      rintro e w4 ⟨rfl, hb4, l2, hn4, hr4, hv4, hl4⟩
      have HB4 := Lib.hid (HB.out.trans hb4)
      have HN4 := Lib.hid hn4
      have HR4 := Lib.hid hr4
      have hval4 : nv 4294967296 l2 = nv 4294967296 l ^ (2 * (n / 2 ^ (k + 1))) := by
        have e1 : ((k : Int) + 1).toNat = k + 1 := by omega
        have h := HV.out
        rw [e1] at h
        rw [hv4, h, pow_square]
      have HV4 := Lib.hid hval4
      clear hb4 hn4 hr4 hv4 hval4 HT1 hc1
      have hhalf := half_step n k
      have hand := and_shift n k hn
      generalize hm : n / 2 ^ k = m at *
      have HM := Lib.hid hm
      have HH := Lib.hid hhalf
      have HAND := Lib.hid hand
      clear hm hhalf hand
      by_cases hbit : m % 2 = 1
      · have hbt : (bits BinOp.and IntKind.i64 ((n : Int) / 2 ^ k) 1 == 1) = true := by rw [HAND.out, hbit]; rfl
        have HBIT := Lib.hid hbit
        clear hbit
        have HT2 := Lib.hid (times_any nb w1.heap.size l2 base bp bc w4 HN4.out hnb (((HOB.out.up hs1).below HB4.out).up HB4.out.size) HDT.out (by omega) (by omega))
        go_wp2_with fail
        refine HT2.out.mono ?_
        rintro e w5 ⟨rfl, hb5, l3, hn5, hr5, hv5, hl5⟩
        have HB5 := Lib.hid (HB4.out.trans hb5)
        have HN5 := Lib.hid hn5
        have HR5 := Lib.hid hr5
        have hval5 : nv 4294967296 l3 = nv 4294967296 l ^ m := by
          rw [hv5, HV4.out, HTL.out]; exact pow_bit1 _ _ _ HH.out HBIT.out
        have HV5 := Lib.hid hval5
        clear hb5 hn5 hr5 hv5 hval5 HT2
        obtain ⟨sx, hvx, hox, hdx⟩ := HN5.out
        obtain ⟨px, cx, rfl⟩ : ∃ px cx, sx = .slice px l3.length cx := by
          obtain ⟨px, cx, hsx, _⟩ := own_form hox
          exact ⟨px, cx, hsx⟩
        have hcx := cell_of_one hvx
        have hRx : w5.heap[w.heap.size + 1]? = some (.cells #[.slice none 0 0] 24 (0, 0)) := by
          rw [HB5.out.block _ (by omega)]; exact HR3.out
        have hcr := cell_of_one hRx
        have hfr := free_of_one hRx
        have HRX := Lib.hid hRx
        clear hvx hox hdx hRx
        by_cases hbig : 2000 < l3.length
        · go_wp2
          refine bodyPost_ret (v := .tuple #[.agg #[.slice none 0 0], .int .i64 3]) (by simp [results, Tryz.results24, go_sem, hcr]) rfl ?_
          refine ⟨_, _, rfl, .inr ⟨?_, rfl, rfl⟩, (HBW.out.trans (HB5.out.mono (by omega))).setCell (by simp) _⟩
          have h := big_of_len HR5.out hbig
          rw [HV5.out] at h
          exact big_mono _ _ _ h (by rw [← HM.out]; exact Nat.div_le_self _ _)
        · go_wp2
          go_roundw
          case rel =>
            refine ⟨(k : Int) - 1, l3, by omega, by omega, rfl, HN5, HR5, ?_, by omega, HB5⟩
            have e1 : ((k : Int) - 1 + 1).toNat = k := by omega
            show nv 4294967296 l3 = _
            rw [e1, HM.out, HV5.out]
          case measure => simp [intOf]
      · have hbt : (bits BinOp.and IntKind.i64 ((n : Int) / 2 ^ k) 1 == 1) = false := by rw [HAND.out, beq_eq_false_iff_ne]; omega
        have HBIT : Hid (m % 2 = 0) := by show m % 2 = 0; omega
        clear hbit
        have hval5 : nv 4294967296 l2 = nv 4294967296 l ^ m := by
          rw [HV4.out]; exact pow_bit0 _ _ _ HH.out HBIT.out
        have HV5 := Lib.hid hval5
        clear hval5
        obtain ⟨sx, hvx, hox, hdx⟩ := HN4.out
        obtain ⟨px, cx, rfl⟩ : ∃ px cx, sx = .slice px l2.length cx := by
          obtain ⟨px, cx, hsx, _⟩ := own_form hox
          exact ⟨px, cx, hsx⟩
        have hcx := cell_of_one hvx
        have hRx : w4.heap[w.heap.size + 1]? = some (.cells #[.slice none 0 0] 24 (0, 0)) := by
          rw [HB4.out.block _ (by omega)]; exact HR3.out
        have hcr := cell_of_one hRx
        have hfr := free_of_one hRx
        have HRX := Lib.hid hRx
        clear hvx hox hdx hRx
        by_cases hbig : 2000 < l2.length
        · go_wp2
          refine bodyPost_ret (v := .tuple #[.agg #[.slice none 0 0], .int .i64 3]) (by simp [results, Tryz.results24, go_sem, hcr]) rfl ?_
          refine ⟨_, _, rfl, .inr ⟨?_, rfl, rfl⟩, (HBW.out.trans (HB4.out.mono (by omega))).setCell (by simp) _⟩
          have h := big_of_len HR4.out hbig
          rw [HV5.out] at h
          exact big_mono _ _ _ h (by rw [← HM.out]; exact Nat.div_le_self _ _)
        · go_wp2
          go_roundw
          case rel =>
            refine ⟨(k : Int) - 1, l2, by omega, by omega, rfl, HN4, HR4, ?_, by omega, HB4⟩
            have e1 : ((k : Int) - 1 + 1).toNat = k := by omega
            show nv 4294967296 l2 = _
            rw [e1, HM.out, HV5.out]
          case measure => simp [intOf]
    · obtain rfl : j = -1 := by omega
      obtain ⟨sx, hvx, hox, hdx⟩ := HN.out
      have hval : nv 4294967296 l1 = nv 4294967296 l ^ n := by
        have h := HV.out
        have e1 : ((-1 : Int) + 1).toNat = 0 := rfl
        rw [e1, Nat.pow_zero, Nat.div_one] at h
        exact h
      have HNAT := Lib.hid (nat_any w1.heap.size sx l1 wr hox hdx HB.out.size (by omega))
      have HSM := Lib.hid (small_of_len hdx hl1)
      obtain ⟨px, cx, rfl⟩ : ∃ px cx, sx = .slice px l1.length cx := by
        obtain ⟨px, cx, hsx, _⟩ := own_form hox
        exact ⟨px, cx, hsx⟩
      have hcx := cell_of_one hvx
      have hRx : wr.heap[w.heap.size + 1]? = some (.cells #[.slice none 0 0] 24 (0, 0)) := by
        rw [HB.out.block _ (by omega)]; exact HR3.out
      have HRX := Lib.hid hRx
      have HVAL := Lib.hid hval
      clear hvx hox hdx hRx hval
      go_wp2_with fail
      refine HNAT.out.mono ?_
      rintro e w6 ⟨v, rfl, hf6, hb6⟩
      have hR6 : w6.heap[w.heap.size + 1]? = some (.cells #[.slice none 0 0] 24 (0, 0)) := by
        rw [hb6.block _ (by have := lt_of_block HRX.out; omega)]; exact HRX.out
      have hcr := cell_of_one hR6
      have hfr := free_of_one hR6
      have HR6 := Lib.hid hR6
      have HB6 := Lib.hid hb6
      have HF6 := Lib.hid hf6
      clear hR6 hb6 hf6 hcx
      obtain ⟨rp, rc, rl, hv, _⟩ := HF6.out
      subst hv
      go_wp2
      refine bodyPost_ret (v := .tuple #[.agg #[.slice rp rl.length rc], .int .i64 0]) (by simp [results, Tryz.results24, go_sem, hcr]) rfl ?_
      refine ⟨_, _, rfl, .inl ⟨?_, rfl, ?_⟩, ((HBW.out.trans (HB.out.mono (by omega))).trans (HB6.out.mono (by have := HB.out.size; omega))).setCell (by simp) _⟩
      · rw [← HVAL.out]; exact HSM.out
      · rw [← HVAL.out]; exact (HF6.out.setCell HR6.out (by decide) _).down (by omega)
end Go.Proofs.YtcahnkocfbcchaaGreatDoor
