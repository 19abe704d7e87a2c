/- The walk of NatSums: at every list of Nats it tells true, and nothing older changes. -/
import Derived.Test.YtcahnkocfbcchaaGreatDoorNm
import Derived.Test.YtcahnkocfbcchaaGreatDoorNi
import Derived.Test.YtcahnkocfbcchaaGreatDoorWs

namespace Go.Proofs.YtcahnkocfbcchaaGreatDoor
open Go.RowKit Tnd

set_option maxRecDepth 100000 in
theorem greats_any (p : Option Addr) (c : Nat) (L : List (List Nat)) (w : World) (hin : NatsIn w w.heap.size p L) (hL : L.length ≤ 1000000000000000000) (he : ∀ k, k < L.length → (gl L k).length ≤ 1000000000000000000) :
    Calls Tryz.prog 6 #[.slice p L.length c] w fun e w' => e = .returned (.bool (decide (60 < L.length + tot L))) ∧ ∃ n, w' = w.drewN n := by
  have HI := Lib.hid hin
  have HL := Lib.hid hL
  have HT := Lib.hid he
  clear hin hL he
  go_enter Tryz.func6, Tryz.ntmps6
  go_wp2
  go_loopw [3, 4] (fun v i wr => ∃ (k n : Nat) (m : Nat), k ≤ L.length ∧ i = .int .i64 k ∧ v = .int .i64 m ∧ Hid (m = k + tot (L.take k)) ∧ wr = w.drewN n) (fun _ i _ => L.length - (intOf i).toNat)
  case atStart => exact ⟨0, 0, 0, by omega, rfl, rfl, by show 0 = 0 + tot (L.take 0); simp [tot], rfl⟩
  case round =>
    obtain ⟨k, n, m, hk, rfl, rfl, HM, rfl⟩ := hrel
    have htk2 := tot_take L k
    by_cases hk1 : k < L.length
    · by_cases hm : m ≤ 60
      · obtain ⟨b, off, rfl, q, ck, hck⟩ : ∃ b off, p = some ⟨b, off, none⟩ ∧ ∃ q ck, w.cell? ⟨b, off + k, none⟩ = some (.slice q (gl L k).length ck) := by
          rcases HI.out with h | ⟨b, off, h1, _, h3⟩
          · subst h; simp at hk1
          · obtain ⟨q, ck, h4, _⟩ := h3 k hk1
            exact ⟨b, off, h1, q, ck, h4⟩
        have htk := tot_step hk1
        have htk3 := tot_take L (k + 1)
        have hyb : (gl L k).length ≤ 1000000000000000000 := HT.out k hk1
        have HM2 : Hid (m + 1 + (gl L k).length = k + 1 + tot (L.take (k + 1))) := by
          show _ = _
          rw [htk, HM.out]; omega
        generalize (gl L k).length = y at *
        have hkb : (k : Int) ≤ 9223372036854775000 := by have := HL.out; omega
        have y1 : (y : Int) ≤ 9223372036854775000 := by omega
        clear htk htk2 htk3 hyb
        go_wp2
        go_roundw
        case rel => exact ⟨k + 1, _, m + 1 + y, by omega, by go_num, by go_num, HM2, rfl⟩
        case measure => simp [intOf]; omega
      · have HD := Lib.hid (show decide (60 < L.length + tot L) = true by rw [decide_eq_true_iff]; have := HM.out; omega)
        clear htk2
        go_wp2
        go_ret
        exact ⟨by rw [HD.out]; first | (simp; done) | (simp; omega), _, rfl⟩
    · obtain rfl : k = L.length := by omega
      have HD := Lib.hid (show m = L.length + tot L by have h := HM.out; rw [List.take_length] at h; exact h)
      clear htk2
      go_wp2
      go_ret
      exact ⟨by rw [← HD.out]; first | (simp; done) | (simp; omega), _, rfl⟩

theorem LNs.nats {w : World} {B g cap : Nat} {L : List (List Nat)} {zs : List Value} (h : LNs w B g cap L zs) (hd : ∀ l, l ∈ L → Digs 4294967296 l) : NatsIn w w.heap.size (some ⟨g, 0, none⟩) L := by
  obtain ⟨h1, h2, h3, h4, h5⟩ := h
  refine .inr ⟨g, 0, rfl, (h3.lt g rfl).2, fun i hi => ?_⟩
  obtain ⟨gi, ci, e, hl⟩ := h4 i hi
  refine ⟨some ⟨gi, 0, none⟩, ci, ?_, hl.old, hd _ (by rw [gl_at hi]; exact List.getElem_mem hi), by have := hl.1; omega, hl.2.1, fun e => by cases e⟩
  rw [Nat.zero_add, rowN_cell h3 i (by omega), e]
theorem LNs.below {w w' : World} {B g cap : Nat} {L : List (List Nat)} {zs : List Value} (h : LNs w B g cap L zs) (hb : Below w.heap.size w w') : LNs w' B g cap L zs := by
  obtain ⟨h1, h2, h3, h4, h5⟩ := h
  exact ⟨h1, h2, rowN_below h3 hb, fun i hi => (h4 i hi).below hb, fun i hi => (h5 i hi).below hb⟩
theorem NatsIn.below {w w' : World} {p : Option Addr} {L : List (List Nat)} (h : NatsIn w w.heap.size p L) (hb : Below w.heap.size w w') : NatsIn w' w'.heap.size p L := by
  rcases h with h | ⟨b, off, h1, h2, h3⟩
  · exact .inl h
  · refine .inr ⟨b, off, h1, by have := hb.size; omega, fun i hi => ?_⟩
    obtain ⟨q, c, h4, h5, h6⟩ := h3 i hi
    exact ⟨q, c, by rw [hb.cell (by simpa using h2)]; exact h4, (h5.below hb).up hb.size, h6⟩

theorem fnat_same {w : World} {B1 B2 : Nat} {v1 v2 : Value} {n k : Nat} (h1 : FNat w B1 v1 n) (h2 : FNat w B2 v2 n) (hn : n < 2 ^ k) (hk : k ≤ 1000000) :
    Calls Tryz.prog 11 #[v1, v2] w fun e w' => e = .returned (.bool true) ∧ Below w.heap.size w w' := by
  obtain ⟨pa, ca, la, rfl, _, hra, hva, _, _⟩ := h1.nat
  obtain ⟨pb, cb, lb, rfl, _, hrb, hvb, _, _⟩ := h2.nat
  have hla := len_right 4294967296 k la (by omega) hra (by rw [hva]; exact hn)
  have hlb := len_right 4294967296 k lb (by omega) hrb (by rw [hvb]; exact hn)
  exact h1.same h2 (by omega) (by omega)

set_option maxHeartbeats 3200000 in
set_option maxRecDepth 100000 in
theorem sums_true (p : Option Addr) (c : Nat) (L : List (List Nat)) (w : World) (htab : Lib.TabIs Tryz.prog w "internal/strconv.uint64pow10" .u64 Lib.pow10Tab)
    (hin : NatsIn w w.heap.size p L) (hL : L.length ≤ 1000000000000000000) (he : ∀ k, k < L.length → (gl L k).length ≤ 1000000000000000000) :
    Calls Tryz.prog 26 #[.slice p L.length c] w fun e w' => e = .returned (.bool true) ∧ Below w.heap.size w w' := by
  have HTAB := Lib.hid htab
  have HI := Lib.hid hin
  have HGR := Lib.hid (greats_any p c L w hin hL he)
  clear htab hin hL he
  by_cases hg : 60 < L.length + tot L
  · have HGT := Lib.hid (show decide (60 < L.length + tot L) = true by rw [decide_eq_true_iff]; exact hg)
    clear hg
    go_enter Tryz.func26, Tryz.ntmps26
    go_wp2_with fail
    refine HGR.out.mono ?_
    rintro e w1 ⟨rfl, n, rfl⟩
    rw [HGT.out]
    have HAW := Lib.hid (awake_any (w.drewN n) (tabIs_below HTAB.out (below_drewN' _ _)))
    go_wp2_with fail
    refine HAW.out.mono ?_
    rintro e w1 ⟨rfl, hb⟩
    have HB := Lib.hid ((below_drewN' w n).trans (hb.mono (below_drewN' w n).size))
    clear hb HAW
    go_wp2
    go_ret
    exact ⟨rfl, HB.out⟩
  · have HGT := Lib.hid (show decide (60 < L.length + tot L) = false by rw [decide_eq_false_iff_not]; exact hg)
    have HLL := Lib.hid (show L.length ≤ 60 ∧ tot L ≤ 60 by omega)
    have HD := Lib.hid (nats_digs HI.out)
    obtain ⟨nl, hnl⟩ : ∃ nl, nl = L.length := ⟨_, rfl⟩
    rw [← hnl] at HGR HGT ⊢
    have HNL := Lib.hid hnl
    clear hg hnl
    go_enter Tryz.func26, Tryz.ntmps26
    go_wp2_with fail
    refine HGR.out.mono ?_
    rintro e w1 ⟨rfl, n, rfl⟩
    rw [HGT.out]
    have hb0 := below_drewN' w n
    have HLN := lentns_any p c L (w.drewN n) (HI.out.below hb0) (by have := HLL.out; omega) (by have := HLL.out; omega)
    rw [← HNL.out] at HLN
    have HLN := Lib.hid HLN
    have HB0 := Lib.hid hb0
    clear hb0 HGR
    generalize w.drewN n = w0 at *
    go_wp2_with fail
    refine HLN.out.mono ?_
    rintro e w2 ⟨g, cap, zs, rfl, hln, hb2⟩
    have HB2 := Lib.hid (bl_trans HB0.out hb2)
    have HLS := Lib.hid hln
    have hadd := add_any (some ⟨g, 0, none⟩) cap L w2 (hln.nats HD.out) (by have := HLL.out; omega) (by have := HLL.out; omega)
    rw [← HNL.out] at hadd
    have HADD := Lib.hid hadd
    clear hln hb2 hadd HLN
    go_wp2_with fail
    refine HADD.out.mono ?_
    rintro e w3 ⟨va, rfl, hfa, hb3⟩
    have HFA := Lib.hid hfa
    have HLS3 := Lib.hid (HLS.out.below hb3)
    have HB3 := Lib.hid (bl_trans HB2.out hb3)
    have hradd := radd_any p c L w3 (HI.out.below HB3.out) (by have := HLL.out; omega) (by have := HLL.out; omega)
    rw [← HNL.out] at hradd
    have HRADD := Lib.hid hradd
    clear hfa hb3 hradd HADD HLS
    go_wp2_with fail
    refine HRADD.out.mono ?_
    rintro e w4 ⟨vb, rfl, hfb, hb4⟩
    have HLS4 := Lib.hid (HLS3.out.below hb4)
    have HB4 := Lib.hid (bl_trans HB3.out hb4)
    have HSAME := Lib.hid (fnat_same (HFA.out.below hb4) hfb (sumv_lt L HD.out) (by have := HLL.out; omega))
    clear hfb hb4 HRADD HLS3 HFA
    go_wp2_with fail
    refine HSAME.out.mono ?_
    rintro e w5 ⟨rfl, hb5⟩
    have HB5 := Lib.hid (bl_trans HB4.out hb5)
    have HLS5 := Lib.hid (HLS4.out.below hb5)
    have hmul := mul_any (some ⟨g, 0, none⟩) cap L w5 (HLS5.out.nats HD.out) (by have := HLL.out; omega) (by have := HLL.out; omega)
    rw [← HNL.out] at hmul
    have HMUL := Lib.hid hmul
    clear hb5 hmul HSAME HLS4
    go_wp2_with fail
    refine HMUL.out.mono ?_
    rintro e w6 ⟨vc, rfl, hfc, hb6⟩
    have HFC := Lib.hid hfc
    have HLS6 := Lib.hid (HLS5.out.below hb6)
    have HB6 := Lib.hid (bl_trans HB5.out hb6)
    have hrmul := rmul_any p c L w6 (HI.out.below HB6.out) (by have := HLL.out; omega) (by have := HLL.out; omega)
    rw [← HNL.out] at hrmul
    have HRMUL := Lib.hid hrmul
    clear hfc hb6 hrmul HMUL HLS5
    go_wp2_with fail
    refine HRMUL.out.mono ?_
    rintro e w7 ⟨vd, rfl, hfd, hb7⟩
    have HLS7 := Lib.hid (HLS6.out.below hb7)
    have HB7 := Lib.hid (bl_trans HB6.out hb7)
    have HSAME := Lib.hid (fnat_same (HFC.out.below hb7) hfd (prodv_lt L HD.out) (by have := HLL.out; omega))
    clear hfd hb7 HRMUL HLS6 HFC
    go_wp2_with fail
    refine HSAME.out.mono ?_
    rintro e w8 ⟨rfl, hb8⟩
    have HB8 := Lib.hid (bl_trans HB7.out hb8)
    have HKEPT := Lib.hid (keptns_any p c nl _ g cap L zs w8 HNL.out (HI.out.below HB8.out) (by have := HLL.out; omega) (by have := HLL.out; omega) (HLS7.out.below hb8))
    clear hb8 HSAME HLS7
    go_wp2_with fail
    refine HKEPT.out.mono ?_
    rintro e w9 ⟨rfl, hb9⟩
    have HB9 := Lib.hid (bl_trans HB8.out hb9)
    have HAW := Lib.hid (awake_any w9 (tabIs_below HTAB.out HB9.out))
    clear hb9 HKEPT
    go_wp2_with fail
    refine HAW.out.mono ?_
    rintro e w10 ⟨rfl, hb10⟩
    have HB10 := Lib.hid (bl_trans HB9.out hb10)
    clear hb10 HAW
    go_wp2
    go_ret
    exact ⟨rfl, HB10.out⟩
end Go.Proofs.YtcahnkocfbcchaaGreatDoor
