/- The walk of Sub where nothing is lacking: the difference, in new memory. -/
import Derived.Test.YteiadigkbhbolaaDoorWr
namespace Go.Proofs.YteiadigkbhbolaaDoor
open Go.RowKit Tnd

set_option maxHeartbeats 800000 in
set_option maxRecDepth 100000 in
theorem sub_ge (p1 p2 : Option Addr) (c1 c2 : Nat) (l m : List Nat) (w : World) (h1 : NatIn w w.heap.size (.agg #[.slice p1 l.length c1]) l) (h2 : NatIn w w.heap.size (.agg #[.slice p2 m.length c2]) m) (hl : l.length ≤ 1000000) (hm : m.length ≤ 1000000) (hge : nv 4294967296 m ≤ nv 4294967296 l) :
    Calls Tryd.prog 15 #[.agg #[.slice p1 l.length c1], .agg #[.slice p2 m.length c2]] w fun e w' => ∃ v, e = .returned (.tuple #[v, .bool true]) ∧ FNat w' w.heap.size v (nv 4294967296 l - nv 4294967296 m) ∧ Below w.heap.size w w' := by
  obtain ⟨w0, hw0⟩ : ∃ w0, w0 = ((w.alloc (.cells #[.slice p1 l.length c1] 25)).alloc (.cells #[.slice p2 m.length c2] 25)).alloc (.cells #[.slice none 0 0] 25) := ⟨_, rfl⟩
  have hB : Below w.heap.size w w0 := by subst hw0; exact (((Below.refl _ _).alloc (Nat.le_refl _) _).alloc (by simp) _).alloc (by simp; omega) _
  have hc1 : w0.cell? ⟨w.heap.size, 0, none⟩ = some (.slice p1 l.length c1) := by subst hw0; rw [World.cell?_alloc_past _ _ _ (by simp; omega), World.cell?_alloc_past _ _ _ (by simp), World.cell?_alloc_at _ _ _ _ rfl]; rfl
  have hc2 : w0.cell? ⟨w.heap.size + 1, 0, none⟩ = some (.slice p2 m.length c2) := by subst hw0; rw [World.cell?_alloc_past _ _ _ (by simp), World.cell?_alloc_at _ _ _ _ (by simp)]; rfl
  have hr : w0.heap[w.heap.size + 2]? = some (.cells #[.slice none 0 0] 25 (0, 0)) := by
    subst hw0
    have h := heap_alloc_new ((w.alloc (.cells #[.slice p1 l.length c1] 25)).alloc (.cells #[.slice p2 m.length c2] 25)) (.cells #[.slice none 0 0] 25)
    simpa using h
  have hs0 : w0.heap.size = w.heap.size + 3 := by subst hw0; simp
  have HC := Lib.hid (cmp_any _ _ l m w0 ((h1.below hB).up (by omega)) ((h2.below hB).up (by omega)) (by omega) (by omega))
  obtain ⟨z, hz⟩ : ∃ z, z = ord (nv 4294967296 l) (nv 4294967296 m) := ⟨_, rfl⟩
  have hz0 : 0 ≤ z := by subst hz; unfold ord; rw [if_neg (by omega)]; split <;> omega
  have HZ := Lib.hid hz
  have HB := Lib.hid hB
  have HR := Lib.hid hr
  have HW0 := Lib.hid hw0
  have H1 := Lib.hid h1
  have H2 := Lib.hid h2
  have HGE := Lib.hid hge
  clear hw0 hB hr h1 h2 hz hge
  go_enter Tryd.func15, Tryd.ntmps15
  go_wp2_with fail
  rw [← HW0.out]
  refine HC.out.mono ?_
  rintro e w1 ⟨rfl, hb1⟩
  rw [← HZ.out]
  have hc1' : w1.cell? ⟨w.heap.size, 0, none⟩ = some (.slice p1 l.length c1) := by rw [hb1.cell (by simp; omega)]; exact hc1
  have hc2' : w1.cell? ⟨w.heap.size + 1, 0, none⟩ = some (.slice p2 m.length c2) := by rw [hb1.cell (by simp; omega)]; exact hc2
  have hs1 := hb1.size
  have hb01 : Below w.heap.size w w1 := HB.out.trans (hb1.mono (by omega))
  have HB1 := Lib.hid hb01
  have HR1 : Hid (w1.heap[w.heap.size + 2]? = some (.cells #[.slice none 0 0] 25 (0, 0))) := by
    show _ = _
    rw [hb1.block _ (by omega)]; exact HR.out
  clear hb1 hb01 hc1 hc2 HC
  have hbb : Below w1.heap.size w1 (w1.alloc (.cells #[.slice none 0 0] 55)) := (Below.refl _ _).alloc (Nat.le_refl _) _
  have hN2 : Num (w1.alloc (.cells #[.slice none 0 0] 55)) w1.heap.size w1.heap.size [] :=
    ⟨.slice none 0 0, heap_alloc_new w1 _, own_nil _ _ _ _, by intro d hd; cases hd⟩
  have HROW := Lib.hid (row_any (.agg #[.slice p1 l.length c1]) l w1.heap.size _ (((H1.out.below HB1.out).up (by omega)).below hbb) (by simp))
  have hca : (w1.alloc (.cells #[.slice none 0 0] 55)).cell? ⟨w.heap.size, 0, none⟩ = some (.slice p1 l.length c1) := by rw [hbb.cell (by simp; omega)]; exact hc1'
  have HBB := Lib.hid hbb
  have HN2 := Lib.hid hN2
  clear hbb hN2
  go_wp2_with fail
  refine HROW.out.mono ?_
  rintro e w3 ⟨rp, rc, rfl, hor, hb3, hr1, hr2, hr3⟩
  clear hr1 hr2 hr3 HROW hca hc1'
  have htl := tlen_le l
  have hyl : (l.take (tlen l)).length = tlen l := by rw [List.length_take]; omega
  have hyv := nv_tlen 4294967296 l
  obtain ⟨_, _, _, _, hdl, _⟩ := H1.out
  have hyd := digs_take hdl (tlen l)
  generalize hyt : l.take (tlen l) = y at *
  rw [← hyl]
  have HPL := Lib.hid (plus_any w1.heap.size w1.heap.size [] y rp rc w3 (HN2.out.below hb3) (by omega) hor hyd (by simp) (by omega))
  have HB3 := Lib.hid (HBB.out.trans (hb3.mono (by simp)))
  have HYV := Lib.hid hyv
  have hyl2 : y.length ≤ l.length := by omega
  clear hor hb3 hyl hyv hdl hyd hyt htl
  go_wp2_with fail
  refine HPL.out.mono ?_
  rintro e w4 ⟨rfl, hb4, l2, hn4, hv4, hl4⟩
  have hb4' : Below w1.heap.size w1 w4 := HB3.out.trans hb4
  have hc2'' : w4.cell? ⟨w.heap.size + 1, 0, none⟩ = some (.slice p2 m.length c2) := by rw [hb4'.cell (by simp; omega)]; exact hc2'
  have hs4 := hb4'.size
  have HROW2 := Lib.hid (row_any (.agg #[.slice p2 m.length c2]) m w1.heap.size w4 (((H2.out.below HB1.out).up (by omega)).below hb4') (by omega))
  have HB4 := Lib.hid hb4'
  have HN4 := Lib.hid hn4
  have HV4 := Lib.hid hv4
  clear hb4 hb4' hn4 hv4 hc2' HPL
  go_wp2_with fail
  refine HROW2.out.mono ?_
  rintro e w5 ⟨sp, sc, rfl, hos, hb5, hr1, hr2, hr3⟩
  clear hr1 hr2 hr3 HROW2 hc2''
  have htl := tlen_le m
  have hyl : (m.take (tlen m)).length = tlen m := by rw [List.length_take]; omega
  have hmv := nv_tlen 4294967296 m
  have hmr := right_take_tlen m
  obtain ⟨_, _, _, _, hdm, _⟩ := H2.out
  have hmd := digs_take hdm (tlen m)
  generalize hmt : m.take (tlen m) = x at *
  rw [← hyl]
  have hv : nv 4294967296 l2 = nv 4294967296 l := by rw [HV4.out, HYV.out]; simp [nv]
  have hle : nv 4294967296 x ≤ nv 4294967296 l2 := by rw [hv, hmv]; exact HGE.out
  have hd2 : Digs 4294967296 l2 := by obtain ⟨_, _, _, h⟩ := HN4.out; exact h
  have hxl : x.length ≤ l2.length := by
    by_cases hx : x = []
    · subst hx; simp
    · have a1 := right_ge 4294967296 x hmr hx
      have a2 := nv_lt 4294967296 l2 hd2
      have a3 := (Nat.pow_lt_pow_iff_right (by omega : 1 < 4294967296)).1 (Nat.lt_of_le_of_lt a1 (Nat.lt_of_le_of_lt hle a2))
      omega
  have hl2 : l2.length ≤ 2000000 := by simp at hl4; omega
  have HMI := Lib.hid (minus_any w1.heap.size w1.heap.size l2 x sp sc w5 (HN4.out.below hb5) (by omega) hos hmd hle hxl (by omega))
  have HB5 := Lib.hid (HB4.out.trans (hb5.mono hs4))
  have HMV := Lib.hid hmv
  have HV := Lib.hid hv
  clear hos hb5 hyl hmv hdm hmd hmt htl hmr hv hle hd2 HN4
  go_wp2_with fail
  refine HMI.out.mono ?_
  rintro e w6 ⟨rfl, hb6, l3, hn6, hv6, hl6⟩
  have hb6' : Below w1.heap.size w1 w6 := HB5.out.trans hb6
  obtain ⟨sx, hvx, hox, hdx⟩ := hn6
  have hs6 := hb6'.size
  have HNAT := Lib.hid (nat_any w1.heap.size sx l3 w6 hox hdx hs6 (by omega))
  obtain ⟨px, cx, rfl⟩ : ∃ px cx, sx = .slice px l3.length cx := by
    obtain ⟨px, cx, hsx, _⟩ := own_form hox
    exact ⟨px, cx, hsx⟩
  have hcx := cell_of_one hvx
  have HVAL : Hid (nv 4294967296 l3 = nv 4294967296 l - nv 4294967296 m) := by
    show _ = _
    rw [hv6, HV.out, HMV.out]
  have HR6 : Hid (w6.heap[w.heap.size + 2]? = some (.cells #[.slice none 0 0] 25 (0, 0))) := by
    show _ = _
    rw [hb6'.block _ (by omega)]; exact HR1.out
  have HB6 := Lib.hid hb6'
  clear hb6 hb6' hvx hox hdx hv6 HMI hl6
  go_wp2_with fail
  refine HNAT.out.mono ?_
  rintro e w7 ⟨v, rfl, hf7, hb7⟩
  have hR7 : w7.heap[w.heap.size + 2]? = some (.cells #[.slice none 0 0] 25 (0, 0)) := by
    rw [hb7.block _ (by omega)]; exact HR6.out
  have hcr := cell_of_one hR7
  have hfr := free_of_one hR7
  have HR7 := Lib.hid hR7
  have HB7 := Lib.hid hb7
  have HF7 := Lib.hid hf7
  clear hR7 hb7 hf7 hcx HNAT
  obtain ⟨rp, rc, rl, hv, _⟩ := HF7.out
  subst hv
  go_wp2
  refine bodyPost_ret (v := .tuple #[.agg #[.slice rp rl.length rc], .bool true]) (by simp [results, Tryd.results15, go_sem, hcr]) rfl ?_
  refine ⟨_, rfl, ?_, ((HB1.out.trans (HB6.out.mono (by omega))).trans (HB7.out.mono (by omega))).setCell (by simp; omega) _⟩
  rw [← HVAL.out]
  exact (HF7.out.setCell HR7.out (by decide) _).down (by omega)
end Go.Proofs.YteiadigkbhbolaaDoor
