/- The walks of Mul and Add, over any row of Nats. -/
import Derived.Test.YtcahnkocfbcchaaGreatDoorWf

namespace Go.Proofs.YtcahnkocfbcchaaGreatDoor
open Go.RowKit Tnd

theorem Num.below {w w' : World} {nb B : Nat} {l : List Nat} (h : Num w nb B l) (hb : Below w.heap.size w w') : Num w' nb B l := by
  obtain ⟨s, h1, h2, h3⟩ := h
  exact ⟨s, by rw [hb.block nb (lt_of_block h1)]; exact h1, own_below h2 hb, h3⟩
/-- a row of Nats that came in. -/
def NatsIn (w : World) (B : Nat) (p : Option Addr) (L : List (List Nat)) : Prop :=
  L = [] ∨ ∃ b off, p = some ⟨b, off, none⟩ ∧ b < B ∧ ∀ i, i < L.length →
    ∃ q c, w.cell? ⟨b, off + i, none⟩ = some (.slice q (gl L i).length c) ∧ Old w B q (gl L i) ∧ Digs 4294967296 (gl L i) ∧ (gl L i).length ≤ c ∧ c ≤ 9223372036854775807 ∧ (q = none → c = 0)

set_option maxRecDepth 100000 in
theorem mul_any (p : Option Addr) (c : Nat) (L : List (List Nat)) (w : World) (hin : NatsIn w w.heap.size p L) (hL : L.length ≤ 1000000000) (ht : tot L ≤ 1000000000) :
    Calls Tryz.prog 23 #[.slice p L.length c] w fun e w' =>
      ∃ v, e = .returned v ∧ FNat w' w.heap.size v (prodv L) ∧ Below w.heap.size w w' := by
  have HI := Lib.hid hin
  clear hin
  obtain ⟨w0, hw0⟩ : ∃ w0, w0 = w.alloc (.cells #[.slice none 0 0] 24) := ⟨_, rfl⟩
  have hB0 : Below w.heap.size w w0 := by subst hw0; exact (Below.refl _ _).alloc (Nat.le_refl _) _
  have hR0 : w0.heap[w.heap.size]? = some (.cells #[.slice none 0 0] 24 (0, 0)) := by subst hw0; exact heap_alloc_new w _
  have hs0 : w0.heap.size = w.heap.size + 1 := by subst hw0; simp
  have HB0 := Lib.hid hB0
  have HR0 := Lib.hid hR0
  have HS0 := Lib.hid hs0
  have HW0 := Lib.hid hw0
  clear hB0 hR0 hs0 hw0
  go_enter Tryz.func23, Tryz.ntmps23
  go_wp2_with fail
  rw [← HW0.out]
  refine (one_any w0).mono ?_
  rintro e w2 ⟨q, qc, rfl, hoq, hb2⟩
  have HOQ := Lib.hid hoq
  have HB2 := Lib.hid hb2
  clear hoq hb2
  have hs2 := HB2.out.size
  go_wp2
  obtain ⟨nb, hnb⟩ : ∃ nb, nb = w2.heap.size := ⟨_, rfl⟩
  obtain ⟨w3, hw3⟩ : ∃ w3, w3 = w2.alloc (.cells #[.slice q 1 qc] 54) := ⟨_, rfl⟩
  have hN3 : Num w3 nb w0.heap.size [1] := by
    subst hw3; subst hnb
    exact ⟨.slice q 1 qc, heap_alloc_new w2 _, HOQ.out.alloc _, by intro d hd; simp only [List.mem_singleton] at hd; omega⟩
  have hB3 : Below w0.heap.size w0 w3 := by subst hw3; exact HB2.out.alloc hs2 _
  rw [← hw3, ← hnb]
  have hnb1 : w0.heap.size ≤ nb := by omega
  have HN3 := Lib.hid hN3
  have HB3 := Lib.hid hB3
  have HW3 := Lib.hid hw3
  have HNB := Lib.hid hnb
  clear hN3 hB3 hw3 hnb
  go_loopw [9] (fun i wr => ∃ (k : Nat) (l1 : List Nat), k ≤ L.length ∧ i = .int .i64 k ∧ Hid (Num wr nb w0.heap.size l1) ∧ Hid (nv 4294967296 l1 = prodv (L.take k)) ∧ l1.length ≤ 1 + tot (L.take k) ∧ Hid (Below w0.heap.size w0 wr)) (fun i _ => L.length - (intOf i).toNat)
  case atStart => exact ⟨0, [1], by omega, rfl, HN3, by show nv _ [1] = _; simp [nv, prodv], by simp [tot], HB3⟩
  case round =>
    obtain ⟨k, l1, hk, rfl, HN, HV, hl1, HB⟩ := hrel
    rename World => wr
    by_cases hk1 : k < L.length
    · obtain ⟨b, off, rfl, qk, ck, hck, hok, hdk, hrk⟩ : ∃ b off, p = some ⟨b, off, none⟩ ∧ ∃ qk ck, wr.cell? ⟨b, off + k, none⟩ = some (.slice qk (gl L k).length ck) ∧ Old wr w0.heap.size qk (gl L k) ∧ Digs 4294967296 (gl L k) ∧ (gl L k).length ≤ ck ∧ ck ≤ 9223372036854775807 ∧ (qk = none → ck = 0) := by
        rcases HI.out with h | ⟨b, off, h1, h2, h3⟩
        · subst h; simp at hk1
        · obtain ⟨qk, ck, h4, h5, h6⟩ := h3 k hk1
          have hbb := HB0.out.trans (HB.out.mono (by rw [HS0.out]; omega))
          exact ⟨b, off, h1, qk, ck, by rw [hbb.cell (by simpa using h2)]; exact h4, (h5.below hbb).up (by rw [HS0.out]; omega), h6⟩
      have htk := tot_step hk1
      have htk2 := tot_take L (k + 1)
      have hpk := take_gl hk1
      generalize hgl : gl L k = y at *
      have HGL := Lib.hid hgl
      have HOK := Lib.hid hok
      have HDK := Lib.hid hdk
      have HRK := Lib.hid hrk
      have HPK := Lib.hid hpk
      clear hgl hok hdk hrk hpk
      have hbr : Below w0.heap.size wr (wr.alloc (.cells #[.slice qk y.length ck] 24)) := (Below.refl _ _).alloc HB.out.size _
      have HROW := Lib.hid (row_any (.agg #[.slice qk y.length ck]) y w0.heap.size _ ⟨qk, ck, rfl, HOK.out.below hbr, HDK.out, HRK.out⟩ (by have := HB.out.size; simp; omega))
      go_wp2_with fail
      refine HROW.out.mono ?_
      rintro e w4 ⟨rp, rc, rfl, hor, hb4, hr1, hr2, hr3⟩
      clear hr1 hr2 hr3
      have hbw : Below wr.heap.size wr w4 := ((Below.refl _ _).alloc (Nat.le_refl _) _).trans (hb4.mono (by simp))
      have htl := tlen_le y
      have hyl : (y.take (tlen y)).length = tlen y := by rw [List.length_take]; omega
      have hyv := nv_tlen 4294967296 y
      have hyd := digs_take HDK.out (tlen y)
      generalize hyt : y.take (tlen y) = z at *
      rw [← hyl]
      have htm := times_any nb w0.heap.size l1 z rp rc w4 (HN.out.below hbw) hnb1 (hor.up (by have := HB.out.size; have := hbw.size; omega)) hyd (by omega) (by omega)
      have HTM := Lib.hid htm
      have HBW := Lib.hid hbw
      have HYV := Lib.hid hyv
      have hzl : z.length ≤ y.length := by omega
      clear htm hbw hyv hyd hor hb4 hyl hyt htl HROW
      go_wp2_with fail
      refine HTM.out.mono ?_
      rintro e w5 ⟨rfl, hb5, l2, hn5, hr5, hv5, hl5⟩
      have HB5 := Lib.hid ((HB.out.trans (HBW.out.mono HB.out.size)).trans hb5)
      have HN5 := Lib.hid hn5
      have HV5 : Hid (nv 4294967296 l2 = prodv (L.take (k + 1))) := by
        show _ = _
        rw [hv5, HPK.out, prodv_snoc, HV.out, HYV.out]
      clear hb5 hn5 hr5 hv5 HTM
      go_wp2
      go_roundw
      case rel => exact ⟨k + 1, l2, by omega, by go_num, HN5, HV5, by omega, HB5⟩
      case measure => simp [intOf]; omega
    · obtain rfl : k = L.length := by omega
      obtain ⟨sx, hvx, hox, hdx⟩ := HN.out
      have hval : nv 4294967296 l1 = prodv L := by have h := HV.out; rwa [List.take_length] at h
      rw [List.take_length] at hl1
      have HNAT := Lib.hid (nat_any w0.heap.size sx l1 wr hox hdx HB.out.size (by omega))
      obtain ⟨px, cx, rfl⟩ : ∃ px cx, sx = .slice px l1.length cx := by
        obtain ⟨px, cx, hsx, _⟩ := own_form hox
        exact ⟨px, cx, hsx⟩
      have hcx := cell_of_one hvx
      have hRx : wr.heap[w.heap.size]? = some (.cells #[.slice none 0 0] 24 (0, 0)) := by
        rw [HB.out.block _ (by rw [HS0.out]; omega)]; exact HR0.out
      have HRX := Lib.hid hRx
      have HVAL := Lib.hid hval
      clear hvx hox hdx hRx hval
      go_wp2_with fail
      refine HNAT.out.mono ?_
      rintro e w6 ⟨v, rfl, hf6, hb6⟩
      have hR6 : w6.heap[w.heap.size]? = some (.cells #[.slice none 0 0] 24 (0, 0)) := by
        rw [hb6.block _ (by have := lt_of_block HRX.out; omega)]; exact HRX.out
      have hcr := cell_of_one hR6
      have hfr := free_of_one hR6
      have HR6 := Lib.hid hR6
      have HB6 := Lib.hid hb6
      have HF6 := Lib.hid hf6
      clear hR6 hb6 hf6 hcx
      obtain ⟨rp, rc, rl, hv, _⟩ := HF6.out
      subst hv
      go_wp2
      refine bodyPost_ret (v := .agg #[.slice rp rl.length rc]) (by simp [results, Tryz.results23, go_sem, hcr]) rfl ?_
      refine ⟨_, rfl, ?_, ((HB0.out.trans (HB.out.mono (by rw [HS0.out]; omega))).trans (HB6.out.mono (by have := HB.out.size; have := HS0.out; omega))).setCell (by simp) _⟩
      rw [← HVAL.out]
      exact (HF6.out.setCell HR6.out (by decide) _).down (by rw [HS0.out]; omega)
end Go.Proofs.YtcahnkocfbcchaaGreatDoor
