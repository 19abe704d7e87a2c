/- The walk of Add: the sum of any row of Nats, in new memory. -/
/- The walk of Sub where nothing is lacking: the difference, in new memory. -/
import Derived.Test.YtcahnkocfbcchaaGreatDoorWo
import Derived.Test.YtcahnkocfbcchaaGreatDoorWi

namespace Go.Proofs.YtcahnkocfbcchaaGreatDoor
open Go.RowKit Tnd

set_option maxRecDepth 100000 in
theorem add_any (p : Option Addr) (c : Nat) (L : List (List Nat)) (w : World) (hin : NatsIn w w.heap.size p L) (hL : L.length ≤ 1000000000) (ht : tot L ≤ 1000000000) :
    Calls Tryz.prog 22 #[.slice p L.length c] w fun e w' =>
      ∃ v, e = .returned v ∧ FNat w' w.heap.size v (sumv L) ∧ Below w.heap.size w w' := by
  have HI := Lib.hid hin
  clear hin
  obtain ⟨w0, hw0⟩ : ∃ w0, w0 = w.alloc (.cells #[.slice none 0 0] 24) := ⟨_, rfl⟩
  have hB0 : Below w.heap.size w w0 := by subst hw0; exact (Below.refl _ _).alloc (Nat.le_refl _) _
  have hR0 : w0.heap[w.heap.size]? = some (.cells #[.slice none 0 0] 24 (0, 0)) := by subst hw0; exact heap_alloc_new w _
  have hs0 : w0.heap.size = w.heap.size + 1 := by subst hw0; simp
  have HB0 := Lib.hid hB0
  have HR0 := Lib.hid hR0
  have HS0 := Lib.hid hs0
  have HW0 := Lib.hid hw0
  clear hB0 hR0 hs0 hw0
  go_enter Tryz.func22, Tryz.ntmps22
  go_wp2
  rw [← HW0.out]
  obtain ⟨nb, hnb⟩ : ∃ nb, nb = w.heap.size + 1 := ⟨_, rfl⟩
  obtain ⟨w3, hw3⟩ : ∃ w3, w3 = w0.alloc (.cells #[.slice none 0 0] 54) := ⟨_, rfl⟩
  have hN3 : Num w3 nb w0.heap.size [] := by
    subst hw3; subst hnb
    rw [← HS0.out]
    exact ⟨.slice none 0 0, heap_alloc_new w0 _, own_nil _ _ _ _, by intro d hd; cases hd⟩
  have hB3 : Below w0.heap.size w0 w3 := by subst hw3; exact (Below.refl _ _).alloc (Nat.le_refl _) _
  rw [← hw3]
  try rw [← hnb]
  have hnb1 : w0.heap.size ≤ nb := by rw [HS0.out]; omega
  have HN3 := Lib.hid hN3
  have HB3 := Lib.hid hB3
  have HW3 := Lib.hid hw3
  have HNB := Lib.hid hnb
  clear hN3 hB3 hw3 hnb
  go_loopw [8] (fun i wr => ∃ (k : Nat) (l1 : List Nat), k ≤ L.length ∧ i = .int .i64 k ∧ Hid (Num wr nb w0.heap.size l1) ∧ Hid (nv 4294967296 l1 = sumv (L.take k)) ∧ l1.length ≤ k + tot (L.take k) ∧ Hid (Below w0.heap.size w0 wr)) (fun i _ => L.length - (intOf i).toNat)
  case atStart => exact ⟨0, [], by omega, rfl, HN3, by show nv _ [] = _; simp [nv, sumv], by simp [tot], HB3⟩
  case round =>
    obtain ⟨k, l1, hk, rfl, HN, HV, hl1, HB⟩ := hrel
    rename World => wr
    by_cases hk1 : k < L.length
    · obtain ⟨b, off, rfl, qk, ck, hck, hok, hdk, hrk⟩ : ∃ b off, p = some ⟨b, off, none⟩ ∧ ∃ qk ck, wr.cell? ⟨b, off + k, none⟩ = some (.slice qk (gl L k).length ck) ∧ Old wr w0.heap.size qk (gl L k) ∧ Digs 4294967296 (gl L k) ∧ (gl L k).length ≤ ck ∧ ck ≤ 9223372036854775807 ∧ (qk = none → ck = 0) := by
        rcases HI.out with h | ⟨b, off, h1, h2, h3⟩
        · subst h; simp at hk1
        · obtain ⟨qk, ck, h4, h5, h6⟩ := h3 k hk1
          have hbb := HB0.out.trans (HB.out.mono (by rw [HS0.out]; omega))
          exact ⟨b, off, h1, qk, ck, by rw [hbb.cell (by simpa using h2)]; exact h4, (h5.below hbb).up (by rw [HS0.out]; omega), h6⟩
      have htk := tot_step hk1
      have htk2 := tot_take L (k + 1)
      have hpk := take_gl hk1
      generalize hgl : gl L k = y at *
      have HGL := Lib.hid hgl
      have HOK := Lib.hid hok
      have HDK := Lib.hid hdk
      have HRK := Lib.hid hrk
      have HPK := Lib.hid hpk
      clear hgl hok hdk hrk hpk
      have hbr : Below w0.heap.size wr (wr.alloc (.cells #[.slice qk y.length ck] 24)) := (Below.refl _ _).alloc HB.out.size _
      have HROW := Lib.hid (row_any (.agg #[.slice qk y.length ck]) y w0.heap.size _ ⟨qk, ck, rfl, HOK.out.below hbr, HDK.out, HRK.out⟩ (by have := HB.out.size; simp; omega))
      go_wp2_with fail
      refine HROW.out.mono ?_
      rintro e w4 ⟨rp, rc, rfl, hor, hb4, hr1, hr2, hr3⟩
      clear hr1 hr2 hr3
      have hbw : Below wr.heap.size wr w4 := ((Below.refl _ _).alloc (Nat.le_refl _) _).trans (hb4.mono (by simp))
      have htl := tlen_le y
      have hyl : (y.take (tlen y)).length = tlen y := by rw [List.length_take]; omega
      have hyv := nv_tlen 4294967296 y
      have hyd := digs_take HDK.out (tlen y)
      generalize hyt : y.take (tlen y) = z at *
      rw [← hyl]
      have htm := plus_any nb w0.heap.size l1 z rp rc w4 (HN.out.below hbw) hnb1 hor hyd (by omega) (by omega)
      have HTM := Lib.hid htm
      have HBW := Lib.hid hbw
      have HYV := Lib.hid hyv
      have hzl : z.length ≤ y.length := by omega
      clear htm hbw hyv hyd hor hb4 hyl hyt htl HROW
      go_wp2_with fail
      refine HTM.out.mono ?_
      rintro e w5 ⟨rfl, hb5, l2, hn5, hv5, hl5⟩
      have HB5 := Lib.hid ((HB.out.trans (HBW.out.mono HB.out.size)).trans hb5)
      have HN5 := Lib.hid hn5
      have HV5 : Hid (nv 4294967296 l2 = sumv (L.take (k + 1))) := by
        show _ = _
        rw [hv5, HPK.out, sumv_snoc, HV.out, HYV.out]
      clear hb5 hn5 hv5 HTM
      go_wp2
      go_roundw
      case rel => exact ⟨k + 1, l2, by omega, by go_num, HN5, HV5, by omega, HB5⟩
      case measure => simp [intOf]; omega
    · obtain rfl : k = L.length := by omega
      obtain ⟨sx, hvx, hox, hdx⟩ := HN.out
      have hval : nv 4294967296 l1 = sumv L := by have h := HV.out; rwa [List.take_length] at h
      rw [List.take_length] at hl1
      have HNAT := Lib.hid (nat_any w0.heap.size sx l1 wr hox hdx HB.out.size (by omega))
      obtain ⟨px, cx, rfl⟩ : ∃ px cx, sx = .slice px l1.length cx := by
        obtain ⟨px, cx, hsx, _⟩ := own_form hox
        exact ⟨px, cx, hsx⟩
      have hcx := cell_of_one hvx
      have hRx : wr.heap[w.heap.size]? = some (.cells #[.slice none 0 0] 24 (0, 0)) := by
        rw [HB.out.block _ (by rw [HS0.out]; omega)]; exact HR0.out
      have HRX := Lib.hid hRx
      have HVAL := Lib.hid hval
      clear hvx hox hdx hRx hval
      go_wp2_with fail
      refine HNAT.out.mono ?_
      rintro e w6 ⟨v, rfl, hf6, hb6⟩
      have hR6 : w6.heap[w.heap.size]? = some (.cells #[.slice none 0 0] 24 (0, 0)) := by
        rw [hb6.block _ (by have := lt_of_block HRX.out; omega)]; exact HRX.out
      have hcr := cell_of_one hR6
      have hfr := free_of_one hR6
      have HR6 := Lib.hid hR6
      have HB6 := Lib.hid hb6
      have HF6 := Lib.hid hf6
      clear hR6 hb6 hf6 hcx
      obtain ⟨rp, rc, rl, hv, _⟩ := HF6.out
      subst hv
      go_wp2
      refine bodyPost_ret (v := .agg #[.slice rp rl.length rc]) (by simp [results, Tryz.results22, go_sem, hcr]) rfl ?_
      refine ⟨_, rfl, ?_, ((HB0.out.trans (HB.out.mono (by rw [HS0.out]; omega))).trans (HB6.out.mono (by have := HB.out.size; have := HS0.out; omega))).setCell (by simp) _⟩
      rw [← HVAL.out]
      exact (HF6.out.setCell HR6.out (by decide) _).down (by rw [HS0.out]; omega)
end Go.Proofs.YtcahnkocfbcchaaGreatDoor


namespace Go.Proofs.YtcahnkocfbcchaaGreatDoor
open Go.RowKit Tnd

set_option maxHeartbeats 800000 in
set_option maxRecDepth 100000 in
theorem sub_ge (p1 p2 : Option Addr) (c1 c2 : Nat) (l m : List Nat) (w : World) (h1 : NatIn w w.heap.size (.agg #[.slice p1 l.length c1]) l) (h2 : NatIn w w.heap.size (.agg #[.slice p2 m.length c2]) m) (hl : l.length ≤ 1000000) (hm : m.length ≤ 1000000) (hge : nv 4294967296 m ≤ nv 4294967296 l) :
    Calls Tryz.prog 9 #[.agg #[.slice p1 l.length c1], .agg #[.slice p2 m.length c2]] w fun e w' => ∃ v, e = .returned (.tuple #[v, .bool true]) ∧ FNat w' w.heap.size v (nv 4294967296 l - nv 4294967296 m) ∧ Below w.heap.size w w' := by
  obtain ⟨w0, hw0⟩ : ∃ w0, w0 = ((w.alloc (.cells #[.slice p1 l.length c1] 24)).alloc (.cells #[.slice p2 m.length c2] 24)).alloc (.cells #[.slice none 0 0] 24) := ⟨_, rfl⟩
  have hB : Below w.heap.size w w0 := by subst hw0; exact (((Below.refl _ _).alloc (Nat.le_refl _) _).alloc (by simp) _).alloc (by simp; omega) _
  have hc1 : w0.cell? ⟨w.heap.size, 0, none⟩ = some (.slice p1 l.length c1) := by subst hw0; rw [World.cell?_alloc_past _ _ _ (by simp; omega), World.cell?_alloc_past _ _ _ (by simp), World.cell?_alloc_at _ _ _ _ rfl]; rfl
  have hc2 : w0.cell? ⟨w.heap.size + 1, 0, none⟩ = some (.slice p2 m.length c2) := by subst hw0; rw [World.cell?_alloc_past _ _ _ (by simp), World.cell?_alloc_at _ _ _ _ (by simp)]; rfl
  have hr : w0.heap[w.heap.size + 2]? = some (.cells #[.slice none 0 0] 24 (0, 0)) := by
    subst hw0
    have h := heap_alloc_new ((w.alloc (.cells #[.slice p1 l.length c1] 24)).alloc (.cells #[.slice p2 m.length c2] 24)) (.cells #[.slice none 0 0] 24)
    simpa using h
  have hs0 : w0.heap.size = w.heap.size + 3 := by subst hw0; simp
  have HC := Lib.hid (cmp_any _ _ l m w0 ((h1.below hB).up (by omega)) ((h2.below hB).up (by omega)) (by omega) (by omega))
  obtain ⟨z, hz⟩ : ∃ z, z = ord (nv 4294967296 l) (nv 4294967296 m) := ⟨_, rfl⟩
  have hz0 : 0 ≤ z := by subst hz; unfold ord; rw [if_neg (by omega)]; split <;> omega
  have HZ := Lib.hid hz
  have HB := Lib.hid hB
  have HR := Lib.hid hr
  have HW0 := Lib.hid hw0
  have H1 := Lib.hid h1
  have H2 := Lib.hid h2
  have HGE := Lib.hid hge
  clear hw0 hB hr h1 h2 hz hge
  go_enter Tryz.func9, Tryz.ntmps9
  go_wp2_with fail
  rw [← HW0.out]
  refine HC.out.mono ?_
  rintro e w1 ⟨rfl, hb1⟩
  rw [← HZ.out]
  have hc1' : w1.cell? ⟨w.heap.size, 0, none⟩ = some (.slice p1 l.length c1) := by rw [hb1.cell (by simp; omega)]; exact hc1
  have hc2' : w1.cell? ⟨w.heap.size + 1, 0, none⟩ = some (.slice p2 m.length c2) := by rw [hb1.cell (by simp; omega)]; exact hc2
  have hs1 := hb1.size
  have hb01 : Below w.heap.size w w1 := HB.out.trans (hb1.mono (by omega))
  have HB1 := Lib.hid hb01
  have HR1 : Hid (w1.heap[w.heap.size + 2]? = some (.cells #[.slice none 0 0] 24 (0, 0))) := by
    show _ = _
    rw [hb1.block _ (by omega)]; exact HR.out
  clear hb1 hb01 hc1 hc2 HC
  have hbb : Below w1.heap.size w1 (w1.alloc (.cells #[.slice none 0 0] 54)) := (Below.refl _ _).alloc (Nat.le_refl _) _
  have hN2 : Num (w1.alloc (.cells #[.slice none 0 0] 54)) w1.heap.size w1.heap.size [] :=
    ⟨.slice none 0 0, heap_alloc_new w1 _, own_nil _ _ _ _, by intro d hd; cases hd⟩
  have HROW := Lib.hid (row_any (.agg #[.slice p1 l.length c1]) l w1.heap.size _ (((H1.out.below HB1.out).up (by omega)).below hbb) (by simp))
  have hca : (w1.alloc (.cells #[.slice none 0 0] 54)).cell? ⟨w.heap.size, 0, none⟩ = some (.slice p1 l.length c1) := by rw [hbb.cell (by simp; omega)]; exact hc1'
  have HBB := Lib.hid hbb
  have HN2 := Lib.hid hN2
  clear hbb hN2
  go_wp2_with fail
  refine HROW.out.mono ?_
  rintro e w3 ⟨rp, rc, rfl, hor, hb3, hr1, hr2, hr3⟩
  clear hr1 hr2 hr3 HROW hca hc1'
  have htl := tlen_le l
  have hyl : (l.take (tlen l)).length = tlen l := by rw [List.length_take]; omega
  have hyv := nv_tlen 4294967296 l
  obtain ⟨_, _, _, _, hdl, _⟩ := H1.out
  have hyd := digs_take hdl (tlen l)
  generalize hyt : l.take (tlen l) = y at *
  rw [← hyl]
  have HPL := Lib.hid (plus_any w1.heap.size w1.heap.size [] y rp rc w3 (HN2.out.below hb3) (by omega) hor hyd (by simp) (by omega))
  have HB3 := Lib.hid (HBB.out.trans (hb3.mono (by simp)))
  have HYV := Lib.hid hyv
  have hyl2 : y.length ≤ l.length := by omega
  clear hor hb3 hyl hyv hdl hyd hyt htl
  go_wp2_with fail
  refine HPL.out.mono ?_
  rintro e w4 ⟨rfl, hb4, l2, hn4, hv4, hl4⟩
  have hb4' : Below w1.heap.size w1 w4 := HB3.out.trans hb4
  have hc2'' : w4.cell? ⟨w.heap.size + 1, 0, none⟩ = some (.slice p2 m.length c2) := by rw [hb4'.cell (by simp; omega)]; exact hc2'
  have hs4 := hb4'.size
  have HROW2 := Lib.hid (row_any (.agg #[.slice p2 m.length c2]) m w1.heap.size w4 (((H2.out.below HB1.out).up (by omega)).below hb4') (by omega))
  have HB4 := Lib.hid hb4'
  have HN4 := Lib.hid hn4
  have HV4 := Lib.hid hv4
  clear hb4 hb4' hn4 hv4 hc2' HPL
  go_wp2_with fail
  refine HROW2.out.mono ?_
  rintro e w5 ⟨sp, sc, rfl, hos, hb5, hr1, hr2, hr3⟩
  clear hr1 hr2 hr3 HROW2 hc2''
  have htl := tlen_le m
  have hyl : (m.take (tlen m)).length = tlen m := by rw [List.length_take]; omega
  have hmv := nv_tlen 4294967296 m
  have hmr := right_take_tlen m
  obtain ⟨_, _, _, _, hdm, _⟩ := H2.out
  have hmd := digs_take hdm (tlen m)
  generalize hmt : m.take (tlen m) = x at *
  rw [← hyl]
  have hv : nv 4294967296 l2 = nv 4294967296 l := by rw [HV4.out, HYV.out]; simp [nv]
  have hle : nv 4294967296 x ≤ nv 4294967296 l2 := by rw [hv, hmv]; exact HGE.out
  have hd2 : Digs 4294967296 l2 := by obtain ⟨_, _, _, h⟩ := HN4.out; exact h
  have hxl : x.length ≤ l2.length := by
    by_cases hx : x = []
    · subst hx; simp
    · have a1 := right_ge 4294967296 x hmr hx
      have a2 := nv_lt 4294967296 l2 hd2
      have a3 := (Nat.pow_lt_pow_iff_right (by omega : 1 < 4294967296)).1 (Nat.lt_of_le_of_lt a1 (Nat.lt_of_le_of_lt hle a2))
      omega
  have hl2 : l2.length ≤ 2000000 := by simp at hl4; omega
  have HMI := Lib.hid (minus_any w1.heap.size w1.heap.size l2 x sp sc w5 (HN4.out.below hb5) (by omega) hos hmd hle hxl (by omega))
  have HB5 := Lib.hid (HB4.out.trans (hb5.mono hs4))
  have HMV := Lib.hid hmv
  have HV := Lib.hid hv
  clear hos hb5 hyl hmv hdm hmd hmt htl hmr hv hle hd2 HN4
  go_wp2_with fail
  refine HMI.out.mono ?_
  rintro e w6 ⟨rfl, hb6, l3, hn6, hv6, hl6⟩
  have hb6' : Below w1.heap.size w1 w6 := HB5.out.trans hb6
  obtain ⟨sx, hvx, hox, hdx⟩ := hn6
  have hs6 := hb6'.size
  have HNAT := Lib.hid (nat_any w1.heap.size sx l3 w6 hox hdx hs6 (by omega))
  obtain ⟨px, cx, rfl⟩ : ∃ px cx, sx = .slice px l3.length cx := by
    obtain ⟨px, cx, hsx, _⟩ := own_form hox
    exact ⟨px, cx, hsx⟩
  have hcx := cell_of_one hvx
  have HVAL : Hid (nv 4294967296 l3 = nv 4294967296 l - nv 4294967296 m) := by
    show _ = _
    rw [hv6, HV.out, HMV.out]
  have HR6 : Hid (w6.heap[w.heap.size + 2]? = some (.cells #[.slice none 0 0] 24 (0, 0))) := by
    show _ = _
    rw [hb6'.block _ (by omega)]; exact HR1.out
  have HB6 := Lib.hid hb6'
  clear hb6 hb6' hvx hox hdx hv6 HMI hl6
  go_wp2_with fail
  refine HNAT.out.mono ?_
  rintro e w7 ⟨v, rfl, hf7, hb7⟩
  have hR7 : w7.heap[w.heap.size + 2]? = some (.cells #[.slice none 0 0] 24 (0, 0)) := by
    rw [hb7.block _ (by omega)]; exact HR6.out
  have hcr := cell_of_one hR7
  have hfr := free_of_one hR7
  have HR7 := Lib.hid hR7
  have HB7 := Lib.hid hb7
  have HF7 := Lib.hid hf7
  clear hR7 hb7 hf7 hcx HNAT
  obtain ⟨rp, rc, rl, hv, _⟩ := HF7.out
  subst hv
  go_wp2
  refine bodyPost_ret (v := .tuple #[.agg #[.slice rp rl.length rc], .bool true]) (by simp [results, Tryz.results9, go_sem, hcr]) rfl ?_
  refine ⟨_, rfl, ?_, ((HB1.out.trans (HB6.out.mono (by omega))).trans (HB7.out.mono (by omega))).setCell (by simp; omega) _⟩
  rw [← HVAL.out]
  exact (HF7.out.setCell HR7.out (by decide) _).down (by omega)
end Go.Proofs.YtcahnkocfbcchaaGreatDoor

