/- The walks of Mul and Add, over any row of Nats. -/
/- The walks of the orders and of what holds two numbers against each other: cmp.Compare at uint32, against, Cmp, Right, SameLimbs, SameNat, same. -/
import Derived.Test.YtcahnkocfbcchaaGreatDoorWf
import Derived.Test.YtcahnkocfbcchaaGreatDoorShelf

namespace Go.Proofs.YtcahnkocfbcchaaGreatDoor
open Go.RowKit Tnd

theorem Num.below {w w' : World} {nb B : Nat} {l : List Nat} (h : Num w nb B l) (hb : Below w.heap.size w w') : Num w' nb B l := by
  obtain ⟨s, h1, h2, h3⟩ := h
  exact ⟨s, by rw [hb.block nb (lt_of_block h1)]; exact h1, own_below h2 hb, h3⟩
/-- a row of Nats that came in. -/
def NatsIn (w : World) (B : Nat) (p : Option Addr) (L : List (List Nat)) : Prop :=
  L = [] ∨ ∃ b off, p = some ⟨b, off, none⟩ ∧ b < B ∧ ∀ i, i < L.length →
    ∃ q c, w.cell? ⟨b, off + i, none⟩ = some (.slice q (gl L i).length c) ∧ Old w B q (gl L i) ∧ Digs 4294967296 (gl L i) ∧ (gl L i).length ≤ c ∧ c ≤ 9223372036854775807 ∧ (q = none → c = 0)

set_option maxRecDepth 100000 in
theorem mul_any (p : Option Addr) (c : Nat) (L : List (List Nat)) (w : World) (hin : NatsIn w w.heap.size p L) (hL : L.length ≤ 1000000000) (ht : tot L ≤ 1000000000) :
    Calls Tryz.prog 23 #[.slice p L.length c] w fun e w' =>
      ∃ v, e = .returned v ∧ FNat w' w.heap.size v (prodv L) ∧ Below w.heap.size w w' := by
  have HI := Lib.hid hin
  clear hin
  obtain ⟨w0, hw0⟩ : ∃ w0, w0 = w.alloc (.cells #[.slice none 0 0] 24) := ⟨_, rfl⟩
  have hB0 : Below w.heap.size w w0 := by subst hw0; exact (Below.refl _ _).alloc (Nat.le_refl _) _
  have hR0 : w0.heap[w.heap.size]? = some (.cells #[.slice none 0 0] 24 (0, 0)) := by subst hw0; exact heap_alloc_new w _
  have hs0 : w0.heap.size = w.heap.size + 1 := by subst hw0; simp
  have HB0 := Lib.hid hB0
  have HR0 := Lib.hid hR0
  have HS0 := Lib.hid hs0
  have HW0 := Lib.hid hw0
  clear hB0 hR0 hs0 hw0
  go_enter Tryz.func23, Tryz.ntmps23
  go_wp2_with fail
  rw [← HW0.out]
  refine (one_any w0).mono ?_
  rintro e w2 ⟨q, qc, rfl, hoq, hb2⟩
  have HOQ := Lib.hid hoq
  have HB2 := Lib.hid hb2
  clear hoq hb2
  have hs2 := HB2.out.size
  go_wp2
  obtain ⟨nb, hnb⟩ : ∃ nb, nb = w2.heap.size := ⟨_, rfl⟩
  obtain ⟨w3, hw3⟩ : ∃ w3, w3 = w2.alloc (.cells #[.slice q 1 qc] 54) := ⟨_, rfl⟩
  have hN3 : Num w3 nb w0.heap.size [1] := by
    subst hw3; subst hnb
    exact ⟨.slice q 1 qc, heap_alloc_new w2 _, HOQ.out.alloc _, by intro d hd; simp only [List.mem_singleton] at hd; omega⟩
  have hB3 : Below w0.heap.size w0 w3 := by subst hw3; exact HB2.out.alloc hs2 _
  rw [← hw3, ← hnb]
  have hnb1 : w0.heap.size ≤ nb := by omega
  have HN3 := Lib.hid hN3
  have HB3 := Lib.hid hB3
  have HW3 := Lib.hid hw3
  have HNB := Lib.hid hnb
  clear hN3 hB3 hw3 hnb
  go_loopw [9] (fun i wr => ∃ (k : Nat) (l1 : List Nat), k ≤ L.length ∧ i = .int .i64 k ∧ Hid (Num wr nb w0.heap.size l1) ∧ Hid (nv 4294967296 l1 = prodv (L.take k)) ∧ l1.length ≤ 1 + tot (L.take k) ∧ Hid (Below w0.heap.size w0 wr)) (fun i _ => L.length - (intOf i).toNat)
  case atStart => exact ⟨0, [1], by omega, rfl, HN3, by show nv _ [1] = _; simp [nv, prodv], by simp [tot], HB3⟩
  case round =>
    obtain ⟨k, l1, hk, rfl, HN, HV, hl1, HB⟩ := hrel
    rename World => wr
    by_cases hk1 : k < L.length
    · obtain ⟨b, off, rfl, qk, ck, hck, hok, hdk, hrk⟩ : ∃ b off, p = some ⟨b, off, none⟩ ∧ ∃ qk ck, wr.cell? ⟨b, off + k, none⟩ = some (.slice qk (gl L k).length ck) ∧ Old wr w0.heap.size qk (gl L k) ∧ Digs 4294967296 (gl L k) ∧ (gl L k).length ≤ ck ∧ ck ≤ 9223372036854775807 ∧ (qk = none → ck = 0) := by
        rcases HI.out with h | ⟨b, off, h1, h2, h3⟩
        · subst h; simp at hk1
        · obtain ⟨qk, ck, h4, h5, h6⟩ := h3 k hk1
          have hbb := HB0.out.trans (HB.out.mono (by rw [HS0.out]; omega))
          exact ⟨b, off, h1, qk, ck, by rw [hbb.cell (by simpa using h2)]; exact h4, (h5.below hbb).up (by rw [HS0.out]; omega), h6⟩
      have htk := tot_step hk1
      have htk2 := tot_take L (k + 1)
      have hpk := take_gl hk1
      generalize hgl : gl L k = y at *
      have HGL := Lib.hid hgl
      have HOK := Lib.hid hok
      have HDK := Lib.hid hdk
      have HRK := Lib.hid hrk
      have HPK := Lib.hid hpk
      clear hgl hok hdk hrk hpk
      have hbr : Below w0.heap.size wr (wr.alloc (.cells #[.slice qk y.length ck] 24)) := (Below.refl _ _).alloc HB.out.size _
      have HROW := Lib.hid (row_any (.agg #[.slice qk y.length ck]) y w0.heap.size _ ⟨qk, ck, rfl, HOK.out.below hbr, HDK.out, HRK.out⟩ (by have := HB.out.size; simp; omega))
      go_wp2_with fail
      refine HROW.out.mono ?_
      rintro e w4 ⟨rp, rc, rfl, hor, hb4, hr1, hr2, hr3⟩
      clear hr1 hr2 hr3
      have hbw : Below wr.heap.size wr w4 := ((Below.refl _ _).alloc (Nat.le_refl _) _).trans (hb4.mono (by simp))
      have htl := tlen_le y
      have hyl : (y.take (tlen y)).length = tlen y := by rw [List.length_take]; omega
      have hyv := nv_tlen 4294967296 y
      have hyd := digs_take HDK.out (tlen y)
      generalize hyt : y.take (tlen y) = z at *
      rw [← hyl]
      have htm := times_any nb w0.heap.size l1 z rp rc w4 (HN.out.below hbw) hnb1 (hor.up (by have := HB.out.size; have := hbw.size; omega)) hyd (by omega) (by omega)
      have HTM := Lib.hid htm
      have HBW := Lib.hid hbw
      have HYV := Lib.hid hyv
      have hzl : z.length ≤ y.length := by omega
      clear htm hbw hyv hyd hor hb4 hyl hyt htl HROW
      go_wp2_with fail
      refine HTM.out.mono ?_
      rintro e w5 ⟨rfl, hb5, l2, hn5, hr5, hv5, hl5⟩
      have HB5 := Lib.hid ((HB.out.trans (HBW.out.mono HB.out.size)).trans hb5)
      have HN5 := Lib.hid hn5
      have HV5 : Hid (nv 4294967296 l2 = prodv (L.take (k + 1))) := by
        show _ = _
        rw [hv5, HPK.out, prodv_snoc, HV.out, HYV.out]
      clear hb5 hn5 hr5 hv5 HTM
      go_wp2
      go_roundw
      case rel => exact ⟨k + 1, l2, by omega, by go_num, HN5, HV5, by omega, HB5⟩
      case measure => simp [intOf]; omega
    · obtain rfl : k = L.length := by omega
      obtain ⟨sx, hvx, hox, hdx⟩ := HN.out
      have hval : nv 4294967296 l1 = prodv L := by have h := HV.out; rwa [List.take_length] at h
      rw [List.take_length] at hl1
      have HNAT := Lib.hid (nat_any w0.heap.size sx l1 wr hox hdx HB.out.size (by omega))
      obtain ⟨px, cx, rfl⟩ : ∃ px cx, sx = .slice px l1.length cx := by
        obtain ⟨px, cx, hsx, _⟩ := own_form hox
        exact ⟨px, cx, hsx⟩
      have hcx := cell_of_one hvx
      have hRx : wr.heap[w.heap.size]? = some (.cells #[.slice none 0 0] 24 (0, 0)) := by
        rw [HB.out.block _ (by rw [HS0.out]; omega)]; exact HR0.out
      have HRX := Lib.hid hRx
      have HVAL := Lib.hid hval
      clear hvx hox hdx hRx hval
      go_wp2_with fail
      refine HNAT.out.mono ?_
      rintro e w6 ⟨v, rfl, hf6, hb6⟩
      have hR6 : w6.heap[w.heap.size]? = some (.cells #[.slice none 0 0] 24 (0, 0)) := by
        rw [hb6.block _ (by have := lt_of_block HRX.out; omega)]; exact HRX.out
      have hcr := cell_of_one hR6
      have hfr := free_of_one hR6
      have HR6 := Lib.hid hR6
      have HB6 := Lib.hid hb6
      have HF6 := Lib.hid hf6
      clear hR6 hb6 hf6 hcx
      obtain ⟨rp, rc, rl, hv, _⟩ := HF6.out
      subst hv
      go_wp2
      refine bodyPost_ret (v := .agg #[.slice rp rl.length rc]) (by simp [results, Tryz.results23, go_sem, hcr]) rfl ?_
      refine ⟨_, rfl, ?_, ((HB0.out.trans (HB.out.mono (by rw [HS0.out]; omega))).trans (HB6.out.mono (by have := HB.out.size; have := HS0.out; omega))).setCell (by simp) _⟩
      rw [← HVAL.out]
      exact (HF6.out.setCell HR6.out (by decide) _).down (by rw [HS0.out]; omega)
end Go.Proofs.YtcahnkocfbcchaaGreatDoor


namespace Go.Proofs.YtcahnkocfbcchaaGreatDoor
open Go.RowKit Tnd

def ord (a b : Nat) : Int := if a < b then -1 else if a = b then 0 else 1

theorem cmp32_any (a b : Nat) (w : World) :
    Calls Tryz.prog 70 #[.int .u32 (a : Nat), .int .u32 (b : Nat)] w fun e w' => e = .returned (.int .i64 (ord a b)) ∧ w' = w := by
  rcases Nat.lt_trichotomy a b with h | h | h
  · have e : ord a b = -1 := by unfold ord; rw [if_pos h]
    have HE := Lib.hid e
    clear e
    go_enter Tryz.func70, Tryz.ntmps70
    go_wp2
    go_ret
    rw [HE.out]
    exact ⟨rfl, rfl⟩
  · subst h
    have e : ord a a = 0 := by unfold ord; simp
    have HE := Lib.hid e
    clear e
    go_enter Tryz.func70, Tryz.ntmps70
    go_wp2
    go_ret
    rw [HE.out]
    exact ⟨rfl, rfl⟩
  · have e : ord a b = 1 := by unfold ord; rw [if_neg (by omega), if_neg (by omega)]
    have HE := Lib.hid e
    clear e
    go_enter Tryz.func70, Tryz.ntmps70
    go_wp2
    go_ret
    rw [HE.out]
    exact ⟨rfl, rfl⟩

theorem samelimbs_any (p q : Option Addr) (c d : Nat) (l m : List Nat) (w : World) (h1 : Sl w .u32 p l) (h2 : Sl w .u32 q m) (hl : l.length ≤ 1000000000000) (hm : m.length ≤ 1000000000000) :
    Calls Tryz.prog 68 #[.slice p l.length c, .slice q m.length d] w fun e w' => e = .returned (.bool (decide (l = m))) ∧ ∃ n, w' = w.drewN n := by
  by_cases hlen : l.length = m.length
  · have H1 := Lib.hid h1
    have H2 := Lib.hid h2
    rw [← hlen]
    have HL := Lib.hid hlen
    clear h1 h2 hlen
    have hne : (((l.length : Nat) : Int) != ((l.length : Nat) : Int)) = false := by simp
    go_enter Tryz.func68, Tryz.ntmps68
    go_wp2
    go_loopw [5] (fun i wr => ∃ (k n : Nat), k ≤ l.length ∧ i = .int .i64 k ∧ Hid (l.take k = m.take k) ∧ wr = w.drewN n) (fun i _ => l.length - (intOf i).toNat)
    case atStart => exact ⟨0, 0, by omega, rfl, by show l.take 0 = m.take 0; simp, rfl⟩
    case round =>
      obtain ⟨k, n, hk, rfl, HT, rfl⟩ := hrel
      by_cases hk1 : k < l.length
      · obtain ⟨b1, o1, rfl, hc1⟩ : ∃ b o, p = some ⟨b, o, none⟩ ∧ w.cell? ⟨b, o + k, none⟩ = some (.int .u32 (gd l k : Nat)) := by
          rcases H1.out with h | ⟨b, o, h, hh⟩
          · subst h; simp at hk1
          · exact ⟨b, o, h, hh k hk1⟩
        obtain ⟨b2, o2, rfl, hc2⟩ : ∃ b o, q = some ⟨b, o, none⟩ ∧ w.cell? ⟨b, o + k, none⟩ = some (.int .u32 (gd m k : Nat)) := by
          have hk2 : k < m.length := by rw [← HL.out]; exact hk1
          rcases H2.out with h | ⟨b, o, h, hh⟩
          · subst h; simp at hk2
          · exact ⟨b, o, h, hh k hk2⟩
        have hs1 := take_succ_getD l k hk1
        have hs2 := take_succ_getD m k (by rw [← HL.out]; exact hk1)
        have HS1 := Lib.hid hs1
        have HS2 := Lib.hid hs2
        clear hs1 hs2
        by_cases he : gd l k = gd m k
        · rw [he] at hc1
          have HE := Lib.hid he
          clear he
          have hb : ((((gd m k : Nat) : Int)) != ((gd m k : Nat) : Int)) = false := by simp
          go_wp2
          go_quiet (fail)
          go_wp2
          go_roundw
          case rel => exact ⟨k + 1, _, by omega, by go_num, by show l.take (k + 1) = m.take (k + 1); rw [HS1.out, HS2.out, HT.out]; unfold gd at HE; rw [HE.out], rfl⟩
          case measure => simp [intOf]; omega
        · have hb : ((((gd l k : Nat) : Int)) != ((gd m k : Nat) : Int)) = true := by rw [bne_iff_ne]; omega
          have hlm : decide (l = m) = false := by
            rw [decide_eq_false_iff_not]; intro e; apply he; rw [e]
          have HLM := Lib.hid hlm
          clear he hlm
          go_wp2
          go_quiet (fail)
          go_wp2
          go_ret
          exact ⟨by rw [HLM.out]; rfl, _, by rw [World.drewN_drewN]⟩
      · obtain rfl : k = l.length := by omega
        have hlm : decide (l = m) = true := by
          have h := HT.out
          rw [List.take_length] at h
          rw [decide_eq_true_iff, h, HL.out, List.take_length]
        have HLM := Lib.hid hlm
        clear hlm
        go_wp2
        go_ret
        exact ⟨by rw [HLM.out]; rfl, _, rfl⟩
  · have hne : (((l.length : Nat) : Int) != ((m.length : Nat) : Int)) = true := by rw [bne_iff_ne]; omega
    have hlm : decide (l = m) = false := by rw [decide_eq_false_iff_not]; intro e; apply hlen; rw [e]
    have HLM := Lib.hid hlm
    clear hlm hlen h1 h2
    go_enter Tryz.func68, Tryz.ntmps68
    go_wp2
    go_ret
    exact ⟨by rw [HLM.out]; rfl, 0, rfl⟩

/-- what is known on the way down: from the place on the digits are one, or the order is found. -/
def AgInv (l m : List Nat) (j o : Int) : Prop :=
  (o = 0 ∧ l.drop (j + 1).toNat = m.drop (j + 1).toNat) ∨ (o ≠ 0 ∧ o = ord (nv 4294967296 l) (nv 4294967296 m))
theorem ag_step {l m : List Nat} {k : Nat} (hk : k < l.length) (hl : l.length = m.length) (dl : Digs 4294967296 l) (dm : Digs 4294967296 m) (h : l.drop (k + 1) = m.drop (k + 1)) :
    AgInv l m ((k : Int) - 1) (ord (gd l k) (gd m k)) := by
  have e1 : ((k : Int) - 1 + 1).toNat = k := by omega
  have hd1 : l.drop k = gd l k :: l.drop (k + 1) := by unfold gd; rw [getD_at hk]; exact List.drop_eq_getElem_cons hk
  have hd2 : m.drop k = gd m k :: m.drop (k + 1) := by unfold gd; rw [getD_at (by omega)]; exact List.drop_eq_getElem_cons (by omega)
  have hsp1 : l = l.take k ++ gd l k :: l.drop (k + 1) := by rw [← hd1, List.take_append_drop]
  have hsp2 : m = m.take k ++ gd m k :: m.drop (k + 1) := by rw [← hd2, List.take_append_drop]
  have htl : (l.take k).length = (m.take k).length := by rw [List.length_take, List.length_take, hl]
  unfold AgInv
  rw [e1]
  rcases Nat.lt_trichotomy (gd l k) (gd m k) with hlt | heq | hgt
  · right
    have hv : nv 4294967296 l < nv 4294967296 m := by
      have := nv_lt_of_top 4294967296 (l.take k) (m.take k) (l.drop (k + 1)) _ _ (digs_take dl k) htl hlt
      rw [← hsp1, h, ← hsp2] at this
      exact this
    have e : ord (gd l k) (gd m k) = -1 := by unfold ord; rw [if_pos hlt]
    have e2 : ord (nv 4294967296 l) (nv 4294967296 m) = -1 := by unfold ord; rw [if_pos hv]
    rw [e, e2]; exact ⟨by omega, rfl⟩
  · left
    refine ⟨by unfold ord; rw [if_neg (by omega), if_pos heq], ?_⟩
    rw [hd1, hd2, heq, h]
  · right
    have hv : nv 4294967296 m < nv 4294967296 l := by
      have := nv_lt_of_top 4294967296 (m.take k) (l.take k) (m.drop (k + 1)) _ _ (digs_take dm k) htl.symm hgt
      rw [← hsp2, ← h, ← hsp1] at this
      exact this
    have e : ord (gd l k) (gd m k) = 1 := by unfold ord; rw [if_neg (by omega), if_neg (by omega)]
    have e2 : ord (nv 4294967296 l) (nv 4294967296 m) = 1 := by unfold ord; rw [if_neg (by omega), if_neg (by omega)]
    rw [e, e2]; exact ⟨by omega, rfl⟩

theorem against_any (p q : Option Addr) (c d : Nat) (l m : List Nat) (w : World) (h1 : Sl w .u32 p l) (h2 : Sl w .u32 q m) (dl : Digs 4294967296 l) (dm : Digs 4294967296 m) (rl : RightL l) (rm : RightL m)
    (hl : l.length ≤ 1000000000000) (_hm : m.length ≤ 1000000000000) :
    Calls Tryz.prog 39 #[.slice p l.length c, .slice q m.length d] w fun e w' => e = .returned (.int .i64 (ord (nv 4294967296 l) (nv 4294967296 m))) ∧ ∃ n, w' = w.drewN n := by
  by_cases hlen : l.length = m.length
  · have HL := Lib.hid hlen
    have H1 := Lib.hid h1
    have H2 := Lib.hid h2
    have DL := Lib.hid dl
    have DM := Lib.hid dm
    have hci : Lib.compareInt (l.length : Nat) (l.length : Nat) = 0 := by unfold Lib.compareInt; simp
    rw [← hlen]
    clear hlen h1 h2 dl dm rl rm _hm
    have HCI := Lib.hid hci
    clear hci
    go_enter Tryz.func39, Tryz.ntmps39
    go_wp2_with fail
    refine (Tryz.cmp_Compare_int (l.length : Nat) (l.length : Nat) _).mono ?_
    rintro e w' ⟨rfl, hw⟩
    obtain rfl := hw.symm
    clear hw
    rw [HCI.out]
    go_wp2
    go_loopw [5, 6] (fun ov iv wr => ∃ (o j : Int) (n : Nat), -1 ≤ j ∧ j < l.length ∧ ov = .int .i64 o ∧ iv = .int .i64 j ∧ Hid (AgInv l m j o) ∧ wr = w.drewN n) (fun _ i _ => (intOf i + 1).toNat)
    case atStart =>
      refine ⟨0, (l.length : Int) - 1, 0, by omega, by omega, rfl, rfl, .inl ⟨rfl, ?_⟩, rfl⟩
      have e1 : ((l.length : Int) - 1 + 1).toNat = l.length := by omega
      rw [e1, List.drop_length, HL.out, List.drop_length]
    case round =>
      obtain ⟨o, j, n, hj1, hj2, rfl, rfl, HA, hw⟩ := hrel
      rename World => wr
      have HW := Lib.hid hw
      clear hw
      by_cases ho : o = 0
      · subst ho
        by_cases hj : 0 ≤ j
        · obtain ⟨k, rfl⟩ : ∃ k : Nat, j = k := ⟨j.toNat, by omega⟩
          have hk1 : k < l.length := by omega
          have hk2 : k < m.length := by rw [← HL.out]; exact hk1
          obtain ⟨b1, o1, rfl, hc1⟩ : ∃ b o, p = some ⟨b, o, none⟩ ∧ wr.cell? ⟨b, o + k, none⟩ = some (.int .u32 (gd l k : Nat)) := by
            rw [HW.out]
            rcases H1.out with h | ⟨b, o, h, hh⟩
            · subst h; simp at hk1
            · exact ⟨b, o, h, hh k hk1⟩
          obtain ⟨b2, o2, rfl, hc2⟩ : ∃ b o, q = some ⟨b, o, none⟩ ∧ wr.cell? ⟨b, o + k, none⟩ = some (.int .u32 (gd m k : Nat)) := by
            rw [HW.out]
            rcases H2.out with h | ⟨b, o, h, hh⟩
            · subst h; simp at hk2
            · exact ⟨b, o, h, hh k hk2⟩
          have hst : AgInv l m ((k : Int) - 1) (ord (gd l k) (gd m k)) := by
            refine ag_step hk1 HL.out DL.out DM.out ?_
            rcases HA.out with h | h
            · have e1 : ((k : Int) + 1).toNat = k + 1 := by omega
              have h3 := h.2
              rw [e1] at h3
              exact h3
            · exact absurd rfl h.1
          generalize gd l k = x at *
          generalize gd m k = y at *
          have HST := Lib.hid hst
          clear hst
          go_wp2
          go_quiet ((go_at_call 70; exact Calls.quiet_of_same (cmp32_any _ _ _)))
          go_wp2
          go_roundw
          case rel => exact ⟨_, (k : Int) - 1, _, by omega, by omega, rfl, rfl, HST, by rw [HW.out, World.drewN_drewN]⟩
          case measure => simp [intOf]
        · obtain rfl : j = -1 := by omega
          have hfin : ord (nv 4294967296 l) (nv 4294967296 m) = 0 := by
            rcases HA.out with h | h
            · have h3 := h.2
              have e1 : ((-1 : Int) + 1).toNat = 0 := rfl
              rw [e1, List.drop_zero, List.drop_zero] at h3
              rw [h3]; unfold ord; simp
            · exact absurd rfl h.1
          have HF := Lib.hid hfin
          clear hfin
          go_wp2
          go_ret
          exact ⟨by rw [HF.out]; rfl, _, HW.out⟩
      · have hfin : ord (nv 4294967296 l) (nv 4294967296 m) = o := by
          rcases HA.out with h | h
          · exact absurd h.1 ho
          · exact h.2.symm
        have hob : (o == 0) = false := by rw [beq_eq_false_iff_ne]; exact ho
        have HF := Lib.hid hfin
        clear hfin ho
        go_wp2
        go_ret
        exact ⟨by rw [HF.out]; rfl, _, HW.out⟩
  · obtain ⟨o, ho⟩ : ∃ o, o = Lib.compareInt (l.length : Nat) (m.length : Nat) := ⟨_, rfl⟩
    have hfin : ord (nv 4294967296 l) (nv 4294967296 m) = o := by
      rw [ho]; unfold Lib.compareInt ord
      rcases Nat.lt_or_gt_of_ne hlen with h | h
      · have hv := nv_lt_of_length 4294967296 (by omega) l m dl rm h
        rw [if_pos hv, if_pos (by omega)]
      · have hv := nv_lt_of_length 4294967296 (by omega) m l dm rl h
        rw [if_neg (by omega), if_neg (by omega), if_neg (by omega), if_pos (by omega)]
    have hob : (o == 0) = false := by
      rw [beq_eq_false_iff_ne, ho]; unfold Lib.compareInt
      split
      · omega
      · split <;> omega
    have HF := Lib.hid hfin
    have HO := Lib.hid ho
    clear hfin ho h1 h2 dl dm rl rm hlen
    go_enter Tryz.func39, Tryz.ntmps39
    go_wp2_with fail
    refine (Tryz.cmp_Compare_int (l.length : Nat) (m.length : Nat) _).mono ?_
    rintro e w' ⟨rfl, hw⟩
    obtain rfl := hw.symm
    clear hw
    rw [← HO.out]
    go_wp2
    go_loopw [5, 6] (fun ov iv wr => ∃ (j : Int), ov = .int .i64 o ∧ iv = .int .i64 j ∧ wr = w) (fun _ _ _ => 0)
    case atStart => exact ⟨_, rfl, rfl, rfl⟩
    case round =>
      obtain ⟨j, rfl, rfl, rfl⟩ := hrel
      go_wp2
      go_ret
      exact ⟨by rw [HF.out]; rfl, 0, rfl⟩

end Go.Proofs.YtcahnkocfbcchaaGreatDoor

