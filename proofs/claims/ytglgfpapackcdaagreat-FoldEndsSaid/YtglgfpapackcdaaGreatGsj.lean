/- FoldTells' walk. -/
import Derived.Test.YtglgfpapackcdaaGreatGsi

namespace Go.Proofs.YtglgfpapackcdaaGreat
open Go.RowKit Tnr

def GivP (w : World) (l : List R) (b : Bool) (e : Ending) (w' : World) : Prop :=
  ∃ q c, ∃ d : D, e = .returned (.tuple #[.slice q l.length c, .bool b]) ∧ Hid (SlR w' q l) ∧ Hid (Value.slice q l.length c = d.val) ∧ Hid (d.n = l.length) ∧ Hid (Room w' 2 d) ∧ Hid (∀ b, d.p = some b → w.heap.size ≤ b ∧ b < w'.heap.size) ∧ Hid (Below w.heap.size w w')
abbrev ST4 (w2 : World) (bt b9 : Nat) (v0 v1 u0 u1 : Value) (W : World) : Prop := W.cell? ⟨bt, 0, none⟩ = some v0 ∧ W.cell? ⟨bt, 1, none⟩ = some v1 ∧ W.cell? ⟨b9, 0, none⟩ = some u0 ∧ W.cell? ⟨b9, 1, none⟩ = some u1 ∧ Hid (Below w2.heap.size w2 W)
theorem st4_below {w2 W W' : World} {bt b9 : Nat} {v0 v1 u0 u1 : Value} (h : ST4 w2 bt b9 v0 v1 u0 u1 W) (hb : Hid (Below W.heap.size W W')) : ST4 w2 bt b9 v0 v1 u0 u1 W' :=
  ⟨keep_cell hb.out h.1, keep_cell hb.out h.2.1, keep_cell hb.out h.2.2.1, keep_cell hb.out h.2.2.2.1, bl_trans h.2.2.2.2.out hb.out⟩
theorem st4_bel {w2 W : World} {bt b9 : Nat} {v0 v1 u0 u1 : Value} (h : ST4 w2 bt b9 v0 v1 u0 u1 W) : Below w2.heap.size w2 W := h.2.2.2.2.out
theorem far_swap {a x u y : D} (h : Far [a, x, u, y]) : Far [a, u, x, y] := by
  intro i j b hi hj ei ej
  have hi4 : i < 4 := hi
  have hj4 : j < 4 := hj
  rcases (show i = 0 ∨ i = 1 ∨ i = 2 ∨ i = 3 by omega) with rfl | rfl | rfl | rfl <;> rcases (show j = 0 ∨ j = 1 ∨ j = 2 ∨ j = 3 by omega) with rfl | rfl | rfl | rfl <;> first | rfl | exact absurd (h 0 1 b (by show _ < 4; decide) (by show _ < 4; decide) ei ej) (by decide) | exact absurd (h 0 2 b (by show _ < 4; decide) (by show _ < 4; decide) ei ej) (by decide) | exact absurd (h 0 3 b (by show _ < 4; decide) (by show _ < 4; decide) ei ej) (by decide) | exact absurd (h 1 0 b (by show _ < 4; decide) (by show _ < 4; decide) ei ej) (by decide) | exact absurd (h 1 2 b (by show _ < 4; decide) (by show _ < 4; decide) ei ej) (by decide) | exact absurd (h 1 3 b (by show _ < 4; decide) (by show _ < 4; decide) ei ej) (by decide) | exact absurd (h 2 0 b (by show _ < 4; decide) (by show _ < 4; decide) ei ej) (by decide) | exact absurd (h 2 1 b (by show _ < 4; decide) (by show _ < 4; decide) ei ej) (by decide) | exact absurd (h 2 3 b (by show _ < 4; decide) (by show _ < 4; decide) ei ej) (by decide) | exact absurd (h 3 0 b (by show _ < 4; decide) (by show _ < 4; decide) ei ej) (by decide) | exact absurd (h 3 1 b (by show _ < 4; decide) (by show _ < 4; decide) ei ej) (by decide) | exact absurd (h 3 2 b (by show _ < 4; decide) (by show _ < 4; decide) ei ej) (by decide)

set_option maxHeartbeats 6400000 in
set_option maxRecDepth 100000 in
theorem foldTells_true (pf pp q : Option Addr) (cf cp cq n m k : Nat) (F : List R) (ps : List PV) (xs : List SV) (c : Int) (z : ByteArray) (w : World) (hn : n = F.length) (hF : SlR w pf F) (hFb : n ≤ 5000000000000) (hfn : pf = none → cf = 0) (hm : m = ps.length) (hP : SlP w pp ps) (hmb : m ≤ 10000000000000) (hz : ∀ x ∈ ps, x.1.size ≤ 9223372036854775807 ∧ x.2.2.2.length ≤ 9223372036854775807) (hnil : ∀ i, i < m → (gp ps i).2.1 = none → (gp ps i).2.2.1 = 0) (hk : k = xs.length) (hx : SlS w q xs) (hkI : (k : Int) ≤ 9223372036854775807) (hxz : ∀ i, i < k → (gs xs i).2.2.length ≤ 9223372036854775807) (hxn : ∀ i, i < k → (gs xs i).1 = none → (gs xs i).2.1 = 0) (hzs : (z.size : Int) ≤ 9223372036854775807) :
    Calls Tryz.prog 5 #[.agg #[.slice pf n cf, .slice pp m cp], .int .i64 c, .string z, .slice q k cq] w fun e w' => e = .returned (.bool true) ∧ Below w.heap.size w w' := by
  obtain ⟨w1, hw1⟩ : ∃ W, W = w.alloc (.cells #[.slice pf n cf, .slice pp m cp] 30) := ⟨_, rfl⟩
  have hb1 : Below w.heap.size w w1 := by rw [hw1]; exact bl_alloc _ _
  have hc0 : w1.cell? ⟨w.heap.size, 0, none⟩ = some (.slice pf n cf) := by rw [hw1, World.cell?_alloc_at _ _ _ _ rfl]; rfl
  have hc1 : w1.cell? ⟨w.heap.size, 1, none⟩ = some (.slice pp m cp) := by rw [hw1, World.cell?_alloc_at _ _ _ _ rfl]; rfl
  have HB1 := Lib.hid hb1
  have HF := Lib.hid hF
  have HP := Lib.hid hP
  have HX := Lib.hid hx
  have HN := Lib.hid (And.intro hn (And.intro hFb (And.intro hm (And.intro hmb hk))))
  have HNL := Lib.hid (And.intro hfn (And.intro hnil hxn))
  have HTO := Lib.hid (tablesOf_any pf pp cf cp n m ps w1 hm (by omega) (hP.below hb1) hz)
  have HRR := Lib.hid (fun (W : World) (hW : Below w.heap.size w W) => range_rows_any q cq k xs W hk (hx.below hW) hxz hkI)
  have HZS := Lib.hid hzs
  clear hn hF hFb hfn hm hP hmb hz hnil hk hx hkI hxz hxn hb1 hzs
  go_enter Tryz.func5, Tryz.ntmps5
  go_wp2_with fail
  rw [← hw1]
  refine HTO.out.mono ?_
  rintro e w2 ⟨z1, rfl, hzz, hb2⟩
  have HB2 := Lib.hid (bl_trans HB1.out hb2)
  have HZZ := Lib.hid hzz
  have hc0 := keep_cell hb2 hc0
  have hc1 := keep_cell hb2 hc1
  clear hzz hb2 hw1 HTO HB1
  by_cases hz1 : 120 < z1
  · have hzI : (120 : Int) < (z1 : Int) := by omega
    go_wp2_with fail
    refine (fawake_any w2).mono ?_
    rintro e w3 ⟨rfl, hb3⟩
    have HB3 := Lib.hid (bl_trans HB2.out hb3)
    clear hb3
    go_wp2
    go_ret
    exact ⟨rfl, HB3.out⟩
  have hzI : ¬ ((120 : Int) < (z1 : Int)) := by omega
  go_wp2_with fail
  refine (HRR.out w2 HB2.out).mono ?_
  rintro e w3 ⟨z2, rfl, hrz, _, hb3⟩
  have HRZ := Lib.hid hrz
  have HB3 := Lib.hid (bl_trans HB2.out hb3)
  have hc0 := keep_cell hb3 hc0
  have hc1 := keep_cell hb3 hc1
  clear hrz hb3 HRR HB2
  by_cases hz2 : 120 < z2
  · have hzJ : (120 : Int) < (z2 : Int) := by omega
    go_wp2_with fail
    refine (fawake_any w3).mono ?_
    rintro e w4 ⟨rfl, hb4⟩
    have HB4 := Lib.hid (bl_trans HB3.out hb4)
    clear hb4
    go_wp2
    go_ret
    exact ⟨rfl, HB4.out⟩
  have hzJ : ¬ ((120 : Int) < (z2 : Int)) := by omega
  by_cases hz3 : 120 < z.size
  · have hzK : (120 : Int) < (z.size : Int) := by omega
    have hzs := HZS.out
    go_wp2_with fail
    refine (fawake_any w3).mono ?_
    rintro e w4 ⟨rfl, hb4⟩
    have HB4 := Lib.hid (bl_trans HB3.out hb4)
    clear hb4
    go_wp2
    go_ret
    exact ⟨rfl, HB4.out⟩
  have hzK : ¬ ((120 : Int) < (z.size : Int)) := by omega
  obtain ⟨hm1, hsm⟩ := HZZ.out (by omega)
  obtain ⟨hk1, hsk⟩ := HRZ.out (by omega)
  have HM1 := Lib.hid hm1
  have HK1 := Lib.hid hk1
  have HSM := Lib.hid hsm
  have HSK := Lib.hid hsk
  have HFL : Hid ((flat xs).length ≤ 14400) := by
    have h := flat_le (M := 120) (xs := xs) (fun x hx => by
      obtain ⟨j, hj, rfl⟩ := List.mem_iff_getElem.1 hx
      have h := hsk j (by have := HN.out.2.2.2.2; omega)
      rw [gs_get hj] at h
      exact h)
    have h2 : xs.length * 120 ≤ 120 * 120 := Nat.mul_le_mul_right _ (by have := HN.out.2.2.2.2; omega)
    show _ ≤ _
    omega
  clear hm1 hk1 hsm hsk hz1 hz2 hz3 HZZ HRZ
  go_wp2_with fail
  refine (lentTables_any pf pp cf cp n m F ps w3 HN.out.1 (HF.out.below HB3.out) (by have := HN.out; omega) HNL.out.1 HN.out.2.2.1 (HP.out.below HB3.out) (by have := HM1.out; omega) (fun i hi => by have := (HSM.out i hi).2; omega) HNL.out.2.1).mono ?_
  rintro e w4 ⟨g, cap, g2, cap2, ys, rfl, hlt, hb4⟩
  have HLT := Lib.hid (hlt.down HB3.out.size)
  have HB4 := Lib.hid (bl_trans HB3.out hb4)
  have hc0 := keep_cell hb4 hc0
  have hc1 := keep_cell hb4 hc1
  clear hlt hb4
  go_wp2_with fail
  refine (lentRows_any q cq k xs w4 HN.out.2.2.2.2 (HX.out.below HB4.out) (Nat.le_trans HFL.out (by decide)) (Nat.le_trans HK1.out (by decide)) HNL.out.2.2).mono ?_
  rintro e w5 ⟨q2, d2, zs, rfl, hkz, hro, hlo, hb5⟩
  have HRO := Lib.hid (World.ownsRow.mono hro HB4.out.size)
  have HLO : Hid (∀ i, i < k → LentOf w5 w.heap.size (gs xs i) (gs zs i)) := fun i hi => by
    obtain ⟨h1, g, h2, h3, h4, h5⟩ := hlo i hi
    exact ⟨h1, g, h2, h3, h4, ownR_down h5 HB4.out.size⟩
  have HKZ := Lib.hid hkz
  have HLT5 := Lib.hid (HLT.out.below hb5)
  have HB5 := Lib.hid (bl_trans HB4.out hb5)
  have hc0 := keep_cell hb5 hc0
  have hc1 := keep_cell hb5 hc1
  clear hkz hro hlo hb5 HLT
  obtain ⟨w6, hw6⟩ : ∃ W, W = w5.alloc (.cells #[.slice (some ⟨g, 0, none⟩) n cap, .slice (some ⟨g2, 0, none⟩) m cap2] 30) := ⟨_, rfl⟩
  have hb6 : Below w5.heap.size w5 w6 := by rw [hw6]; exact bl_alloc _ _
  have hd0 : w6.cell? ⟨w5.heap.size, 0, none⟩ = some (.slice (some ⟨g, 0, none⟩) n cap) := by rw [hw6, World.cell?_alloc_at _ _ _ _ rfl]; rfl
  have hd1 : w6.cell? ⟨w5.heap.size, 1, none⟩ = some (.slice (some ⟨g2, 0, none⟩) m cap2) := by rw [hw6, World.cell?_alloc_at _ _ _ _ rfl]; rfl
  have HB6 := Lib.hid (bl_trans HB5.out hb6)
  have HFT : Hid (FT w w.heap.size w5.heap.size n m k g cap g2 cap2 cf cp d2 pf pp q q2 F ps ys xs zs w6) :=
    ⟨keep_cell hb6 hc0, keep_cell hb6 hc1, hd0, hd1, ⟨HN.out.1, HF.out.below HB6.out, by have := HN.out; omega, HN.out.2.2.1, HP.out.below HB6.out, by have := HN.out; omega, fun x hx => by
      obtain ⟨j, hj, rfl⟩ := List.mem_iff_getElem.1 hx
      have h := (HSM.out j (by have := HN.out; omega)).2
      rw [gp_get hj] at h
      omega⟩, HLT5.out.below hb6, HX.out.below HB6.out, rows_below HRO.out hb6, fun i hi => (HLO.out i hi).below hb6, HB6.out⟩
  clear hb6 hd0 hd1 HB6 HLT5 HRO HLO
  obtain ⟨t, ht⟩ : ∃ t : Bool, t = true ↔ TR F ps := by
    rcases Classical.em (TR F ps) with h | h
    · exact ⟨true, ⟨fun _ => h, fun _ => rfl⟩⟩
    · exact ⟨false, ⟨(fun e => by cases e), fun e => absurd e h⟩⟩
  obtain ⟨b, L, hL⟩ := fnd_ex F ps z.data.toList
  obtain ⟨S, hS⟩ : ∃ S, S = cloS F t (flat xs) := ⟨_, rfl⟩
  obtain ⟨cc, hcc⟩ : ∃ cc, cc = canonF F ps c := ⟨_, rfl⟩
  have hfl := HFL.out
  have hlt := HFT.out.lt
  have hms : m ≤ 3000 := by have := HM1.out; omega
  have hls : ∀ i, i < m → (gp ps i).2.2.2.length ≤ 3000 := fun i hi => by have := (HSM.out i hi).2; omega
  have hty := hlt.tab HN.out.1 HN.out.2.1 HN.out.2.2.1 hms hls
  obtain ⟨_, hey⟩ := hlt.pr.slp HN.out.2.2.1
  have htl := tr_lent (F := F) HN.out.2.2.1 hlt.pr.1 hey
  have hty2 : t = true ↔ TR F ys := ht.trans htl.symm
  have hLy := fnd_lent HN.out.2.2.1 hlt.pr.1 hey hL
  obtain ⟨hzsl, hzfl⟩ := lentRows_sls HKZ.out HN.out.2.2.2.2 HFT.out.ro HFT.out.lo
  have hpn : ∀ x ∈ ps, x.1.size ≤ 1000000000 := fun x hx => by
    obtain ⟨j, hj, rfl⟩ := List.mem_iff_getElem.1 hx
    have h := (HSM.out j (by have := HN.out; omega)).1
    rw [gp_get hj] at h
    omega
  have HLEN : Hid (L.length ≤ 100000000 ∧ S.length ≤ 100000000) := ⟨Nat.le_trans (fnd_small hL) (by decide), by rw [hS]; exact Nat.le_trans (clo_small F ps t _ ht (by omega)) (by decide)⟩
  have HPR : Hid (∀ W, Below w6.heap.size w6 W → Calls Tryz.prog 14 #[.agg #[.slice (some ⟨g, 0, none⟩) n cap, .slice (some ⟨g2, 0, none⟩) m cap2], .string z] W (GivP W L b)) := fun W hW => by
    refine (fprop_t _ _ _ _ n m F ys z b L W hLy (hty.below hW)).mono ?_
    rintro e w' ⟨q, d, h1, h2, h3⟩
    obtain ⟨D, e1, e2, e3, e4⟩ := own_room h2
    exact ⟨q, d, D, h1, tells_sl h2, e1, e2, e3, e4, h3⟩
  have HRP : Hid (∀ W, Below w6.heap.size w6 W → Calls Tryz.prog 15 #[.agg #[.slice pf n cf, .slice pp m cp], .string z] W fun e w' => ∃ q d, e = .returned (.tuple #[.slice q L.length d, .bool b]) ∧ Hid (SlR w' q L) ∧ Hid (Below W.heap.size W w')) := fun W hW => rprop_t _ _ _ _ n m F ps z t b L W hL ht (HFT.out.tb.below hW) hpn hms HNL.out.2.1
  have HCL : Hid (∀ W, Below w6.heap.size w6 W → Calls Tryz.prog 16 #[.agg #[.slice (some ⟨g, 0, none⟩) n cap, .slice (some ⟨g2, 0, none⟩) m cap2], .slice q2 k d2] W (Giv W S)) := fun W hW => by
    have h := fclose_t (some ⟨g, 0, none⟩) (some ⟨g2, 0, none⟩) q2 cap cap2 d2 n m k F ys zs t W hty2 (hty.below hW) (hzsl.below hW) HKZ.out (by rw [hzfl]; omega) (by have := HK1.out; omega)
    rw [hzfl] at h
    rw [hS]
    exact h.mono fun _ _ h => giv_of h
  have HRC : Hid (∀ W, Below w6.heap.size w6 W → Calls Tryz.prog 17 #[.agg #[.slice pf n cf, .slice pp m cp], .slice q k cq] W (Giv W S)) := fun W hW => by
    have h := rclose_t pf pp q cf cp cq n m k F ps xs t W ht (HFT.out.tb.below hW) hpn (HFT.out.sx.below hW) HN.out.2.2.2.2 (by omega) (by have := HK1.out; omega)
    rw [hS]
    exact h.mono fun _ _ h => giv_of h
  have HRI : Hid (∀ W, Below w6.heap.size w6 W → Calls Tryz.prog 7 #[.agg #[.slice (some ⟨g, 0, none⟩) n cap, .slice (some ⟨g2, 0, none⟩) m cap2]] W fun e w' => e = .returned (.bool t) ∧ Hid (Below W.heap.size W w')) := fun W hW => fright_t _ _ _ _ n m F ys t W hty2 (hty.below hW)
  have HRR : Hid (∀ W, Below w6.heap.size w6 W → Calls Tryz.prog 18 #[.agg #[.slice pf n cf, .slice pp m cp]] W fun e w' => e = .returned (.bool t) ∧ Hid (Below W.heap.size W w')) := fun W hW => rright_t _ _ _ _ n m F ps t W ht (HFT.out.tb.below hW) hpn
  have HCA : Hid (∀ W, Below w6.heap.size w6 W → Calls Tryz.prog 19 #[.agg #[.slice (some ⟨g, 0, none⟩) n cap, .slice (some ⟨g2, 0, none⟩) m cap2], .int .i64 c] W fun e w' => e = .returned (.int .i64 cc) ∧ Hid (Below W.heap.size W w')) := fun W hW => by
    rw [hcc, ← canon_lent htl c]
    exact fcanon_any propsRight_any _ _ _ _ n m F ys c W (hty.below hW)
  have HRA : Hid (∀ W, Below w6.heap.size w6 W → Calls Tryz.prog 20 #[.agg #[.slice pf n cf, .slice pp m cp], .int .i64 c] W fun e w' => e = .returned (.int .i64 cc) ∧ Hid (Below W.heap.size W w')) := fun W hW => by
    rw [hcc]
    exact rcanon_any _ _ _ _ n m F ps c t W ht (HFT.out.tb.below hW) hpn
  have HKT : Hid (∀ W, Below w6.heap.size w6 W → Calls Tryz.prog 22 #[.agg #[.slice (some ⟨g, 0, none⟩) n cap, .slice (some ⟨g2, 0, none⟩) m cap2], .agg #[.slice pf n cf, .slice pp m cp]] W fun e w' => e = .returned (.bool true) ∧ Below W.heap.size W w') := fun W hW => keptTables_any pf pp cf cp w.heap.size g cap n g2 cap2 m F ps ys W HN.out.1 (HFT.out.tb.fs.below hW) (by have := HN.out; omega) HN.out.2.2.1 (HFT.out.tb.ps.below hW) hms hls (hlt.below hW)
  have HKR : Hid (∀ W, Below w6.heap.size w6 W → Calls Tryz.prog 23 #[.slice q2 k d2, .slice q k cq] W fun e w' => e = .returned (.bool true) ∧ Below W.heap.size W w') := fun W hW => keptRows_any q q2 cq d2 k w.heap.size xs zs W HN.out.2.2.2.2 HKZ.out (HFT.out.sx.below hW) (by omega) (by have := HK1.out; omega) (rows_below HFT.out.ro hW) (fun i hi => (HFT.out.lo i hi).below hW)
  have HSA : Hid (∀ (l : List R) (p q : Option Addr) (c d : Nat) (W : World), l.length ≤ 100000000 → SlR W p l → SlR W q l → Calls Tryz.prog 21 #[.slice p l.length c, .slice q l.length d] W fun e w' => e = .returned (.bool true) ∧ Hid (Below W.heap.size W w')) := fun l p q c d W hl h1 h2 => by
    refine (same_any p q c d l l W h1 h2 (by omega) (by omega)).mono ?_
    rintro e w' ⟨rfl, s, rfl⟩
    exact ⟨by simp, drewN_below W s⟩
  have HBW := Lib.hid HFT.out.be
  have hF0 : ST4 w6 w.heap.size w5.heap.size (.slice pf n cf) (.slice pp m cp) (.slice (some ⟨g, 0, none⟩) n cap) (.slice (some ⟨g2, 0, none⟩) m cap2) w6 := ⟨HFT.out.c0, HFT.out.c1, HFT.out.e0, HFT.out.e1, Below.refl _ _⟩
  clear hL hS hcc hfl hlt hms hls hty hey htl hty2 hLy hzsl hzfl hpn ht HFT HFL HM1 HK1 HSM HSK HN HNL HKZ HF HP HX HB3 HB4 HB5
  generalize hbt : w.heap.size = bt at hF0 hc0 hc1 ⊢
  go_wp2_with fail
  rw [← hw6]
  refine (HPR.out w6 (Below.refl _ _)).mono ?_
  rintro e wA ⟨pA, cA, DA, rfl, sA, vA, nA, rA, lA, hbA⟩
  have hFA := st4_below hF0 hbA
  obtain ⟨hA0, hA1, hA2, hA3, hA4⟩ := hFA
  have hF6 := Lib.hid hF0
  clear hF0
  go_wp2_with fail
  refine (HRP.out wA hA4.out).mono ?_
  rintro e wB ⟨pB, cB, rfl, sB, hbB⟩
  have hFB := st4_below (w2 := w6) ⟨hA0, hA1, hA2, hA3, hA4⟩ hbB
  clear hA0 hA1 hA2 hA3 hA4 hc0 hc1
  have KAB := Lib.hid (bl_refl wB)
  have HWB := Lib.hid hFB.2.2.2.2.out.size
  have HAB := Lib.hid hbB.out.size
  have SA := Lib.hid (sA.out.below hbB.out)
  have RA := Lib.hid (room_below rA.out hbB.out)
  have HBD : Hid (Below wB.heap.size wB wB.drew) := bl_drew wB
  have LA := Lib.hid (fun b e => And.intro (lA.out b e).1 (Nat.lt_of_lt_of_le (lA.out b e).2 hbB.out.size))
  have HWA := Lib.hid (Nat.le_refl w6.heap.size)
  clear sA rA lA hbA hbB
  generalize hb9 : w5.heap.size = b9 at hFB hF6 hw6 ⊢
  clear hb9 hw6
  go_wp2
  go_region_held3 (fun W => W.cell? ⟨bt, 0, none⟩ = some (.slice pf n cf) ∧ W.cell? ⟨bt, 1, none⟩ = some (.slice pp m cp) ∧ W.cell? ⟨b9, 0, none⟩ = some (.slice (some ⟨g, 0, none⟩) n cap) ∧ W.cell? ⟨b9, 1, none⟩ = some (.slice (some ⟨g2, 0, none⟩) m cap2) ∧ Hid (Below w6.heap.size w6 W)) (first | exact st4_below (by assumption) hbD | exact st4_below (by assumption) hbC | exact st4_below hFB HBD | fail) (first | (go_at_call 16; (with_reducible refine (HCL.out _ (st4_bel (by assumption))).mono ?_); rintro e wC ⟨pC, cC, DC, rfl, sC, vC, nC, rC, lC, hbC⟩) | (go_at_call 17; (with_reducible refine (HRC.out _ (st4_bel (by assumption))).mono ?_); rintro e wD ⟨pD, cD, DD, rfl, sD, vD, nD, rD, lD, hbD⟩) | fail)
  have kBD := Lib.hid (bl_trans HBD.out (bl_trans hbC.out hbD.out))
  have h6D := Lib.hid (bl_trans hFB.2.2.2.2.out kBD.out)
  have hFD : ST4 wD bt b9 (.slice pf n cf) (.slice pp m cp) (.slice (some ⟨g, 0, none⟩) n cap) (.slice (some ⟨g2, 0, none⟩) m cap2) wD := by
    obtain ⟨h0, h1, h2, h3, _⟩ := st4_below hFB kBD
    exact ⟨h0, h1, h2, h3, Below.refl _ _⟩
  have SA := Lib.hid (SA.out.below kBD.out)
  have SB := Lib.hid (sB.out.below kBD.out)
  have RA := Lib.hid (room_below RA.out kBD.out)
  have SC := Lib.hid (sC.out.below hbD.out)
  have SD := sD
  have RC := Lib.hid (room_below rC.out hbD.out)
  have LC := Lib.hid (fun b e => And.intro (lC.out b e).1 (Nat.lt_of_lt_of_le (lC.out b e).2 hbD.out.size))
  have HBC := Lib.hid (Nat.le_refl wB.heap.size)
  have HDC := Lib.hid (show wB.heap.size ≤ wB.drew.heap.size from HBD.out.size)
  have HCD := Lib.hid (show wB.drew.heap.size ≤ wD.heap.size from Nat.le_trans hbC.out.size hbD.out.size)
  clear sB sC sD rC lC vD nD rD lD hFB HBD hbC hbD kBD KAB
  have HBD : Hid (Below wD.heap.size wD wD.drew) := bl_drew wD
  have T1 : Hid True := trivial
  have hFD1 := hFD
  obtain ⟨hD0, hD1, hD2, hD3, _⟩ := hFD1
  have htt : (t != t) = false := by cases t <;> rfl
  have hbb : (b != b) = false := by cases b <;> rfl
  go_wp2
  go_region_held3 (fun W => W.cell? ⟨bt, 0, none⟩ = some (.slice pf n cf) ∧ W.cell? ⟨bt, 1, none⟩ = some (.slice pp m cp) ∧ W.cell? ⟨b9, 0, none⟩ = some (.slice (some ⟨g, 0, none⟩) n cap) ∧ W.cell? ⟨b9, 1, none⟩ = some (.slice (some ⟨g2, 0, none⟩) m cap2) ∧ Hid (Below wD.heap.size wD W)) (first | exact st4_below (by assumption) hbJ | exact st4_below (by assumption) hbI | exact st4_below (by assumption) hbH | exact st4_below (by assumption) hbG | exact st4_below (by assumption) hbF | exact st4_below (by assumption) hbE | exact st4_below hFD HBD | fail) (first | (go_at_call 7; (with_reducible refine (HRI.out _ (bl_trans h6D.out (st4_bel (by assumption)))).mono ?_); rintro e wE ⟨rfl, hbE⟩) | (go_at_call 18; (with_reducible refine (HRR.out _ (bl_trans h6D.out (st4_bel (by assumption)))).mono ?_); rintro e wF ⟨rfl, hbF⟩) | (go_at_call 19; (with_reducible refine (HCA.out _ (bl_trans h6D.out (st4_bel (by assumption)))).mono ?_); rintro e wG ⟨rfl, hbG⟩) | (go_at_call 20; (with_reducible refine (HRA.out _ (bl_trans h6D.out (st4_bel (by assumption)))).mono ?_); rintro e wH ⟨rfl, hbH⟩) | (go_at_call 21; have tk := T1; clear tk T1; (with_reducible refine (HSA.out L pA pB cA cB _ HLEN.out.1 (SA.out.below (st4_bel (by assumption))) (SB.out.below (st4_bel (by assumption)))).mono ?_); rintro e wI ⟨rfl, hbI⟩) | (go_at_call 21; (with_reducible refine (HSA.out S pC pD cC cD _ HLEN.out.2 (SC.out.below (st4_bel (by assumption))) (SD.out.below (st4_bel (by assumption)))).mono ?_); rintro e wJ ⟨rfl, hbJ⟩) | fail)
  have kDJ := Lib.hid (bl_trans HBD.out (bl_trans hbE.out (bl_trans hbF.out (bl_trans hbG.out (bl_trans hbH.out (bl_trans hbI.out hbJ.out))))))
  have h6J := Lib.hid (bl_trans h6D.out kDJ.out)
  obtain ⟨hJ0, hJ1, hJ2, hJ3, _⟩ := st4_below hFD kDJ
  have SA := Lib.hid (SA.out.below kDJ.out)
  have RA := Lib.hid (room_below RA.out kDJ.out)
  have SC := Lib.hid (SC.out.below kDJ.out)
  have RC := Lib.hid (room_below RC.out kDJ.out)
  have hDJ := Lib.hid kDJ.out.size
  clear hFD hD0 hD1 hD2 hD3 HBD hbE hbF hbG hbH hbI hbJ SB SD kDJ HRI HRR HCA HRA HRC HRP htt hbb
  go_wp2_with fail
  refine (HPR.out wJ h6J.out).mono ?_
  rintro e wK ⟨pK, cK, DK, rfl, sK, vK, nK, rK, lK, hbK⟩
  have hJ0 := keep_cell hbK.out hJ0
  have hJ1 := keep_cell hbK.out hJ1
  have hJ2 := keep_cell hbK.out hJ2
  have hJ3 := keep_cell hbK.out hJ3
  have h6K := Lib.hid (bl_trans h6J.out hbK.out)
  go_wp2_with fail
  refine (HKT.out wK h6K.out).mono ?_
  rintro e wL ⟨rfl, hbL⟩
  have hJ0 := keep_cell hbL hJ0
  have hJ1 := keep_cell hbL hJ1
  have hJ2 := keep_cell hbL hJ2
  have hJ3 := keep_cell hbL hJ3
  have h6L := Lib.hid (bl_trans h6K.out hbL)
  go_wp2_with fail
  refine (HKR.out wL h6L.out).mono ?_
  rintro e wM ⟨rfl, hbM⟩
  have hJ0 := keep_cell hbM hJ0
  have hJ1 := keep_cell hbM hJ1
  have hJ2 := keep_cell hbM hJ2
  have hJ3 := keep_cell hbM hJ3
  have h6M := Lib.hid (bl_trans h6L.out hbM)
  have kKM := Lib.hid (bl_trans hbL hbM)
  clear hbL hbM
  go_wp2_with fail
  refine (HCL.out wM h6M.out).mono ?_
  rintro e wN ⟨pN, cN, DN, rfl, sN, vN, nN, rN, lN, hbN⟩
  obtain ⟨wP, hwP⟩ : ∃ W, W = wN.alloc (.cells #[.slice pA L.length cA, .slice pK L.length cK, .slice pC S.length cC, .slice pN S.length cN] 25) := ⟨_, rfl⟩
  have hbP : Below wN.heap.size wN wP := by rw [hwP]; exact bl_alloc _ _
  have kKN := Lib.hid (bl_trans kKM.out hbN.out)
  have kJN := Lib.hid (bl_trans hbK.out kKN.out)
  have hJ0 := keep_cell (bl_trans hbN.out hbP) hJ0
  have hJ1 := keep_cell (bl_trans hbN.out hbP) hJ1
  have hJ2 := keep_cell (bl_trans hbN.out hbP) hJ2
  have hJ3 := keep_cell (bl_trans hbN.out hbP) hJ3
  have h6P := Lib.hid (bl_trans h6M.out (bl_trans hbN.out hbP))
  have RMN : ∀ k, k < 4 → Room wN 2 (dg [DA, DK, DC, DN] k) := fun k hk => match k, hk with
    | 0, _ => room_below RA.out kJN.out
    | 1, _ => room_below rK.out kKN.out
    | 2, _ => room_below RC.out kJN.out
    | 3, _ => rN.out
    | k + 4, h => absurd h (by omega)
  have HNN : Hid (∀ k, k < 4 → (dg [DA, DK, DC, DN] k).n ≤ 100000000) := fun k hk => match k, hk with
    | 0, _ => by show DA.n ≤ _; rw [nA.out]; exact HLEN.out.1
    | 1, _ => by show DK.n ≤ _; rw [nK.out]; exact HLEN.out.1
    | 2, _ => by show DC.n ≤ _; rw [nC.out]; exact HLEN.out.2
    | 3, _ => by show DN.n ≤ _; rw [nN.out]; exact HLEN.out.2
    | k + 4, h => absurd h (by omega)
  have HFAR : Hid (Far [DA, DK, DC, DN]) := by
    refine far_swap (up_far (B := w6.heap.size) ⟨wB.drew.heap.size, Nat.le_trans HWB.out HDC.out, fun b e => ⟨(LA.out b e).1, Nat.lt_of_lt_of_le (LA.out b e).2 HDC.out⟩, ⟨wJ.heap.size, Nat.le_trans HCD.out hDJ.out, fun b e => ⟨(LC.out b e).1, Nat.lt_of_lt_of_le (LC.out b e).2 hDJ.out⟩, ⟨wM.heap.size, Nat.le_trans hbK.out.size kKM.out.size, fun b e => ⟨(lK.out b e).1, Nat.lt_of_lt_of_le (lK.out b e).2 kKM.out.size⟩, ⟨wN.heap.size, hbN.out.size, lN.out, trivial⟩⟩⟩⟩)
  have HIN : Hid (∀ b, InD [DA, DK, DC, DN] b → w6.heap.size ≤ b) := fun b ⟨k, hk, e⟩ => match k, hk, e with
    | 0, _, e => (LA.out b e).1
    | 1, _, e => Nat.le_trans h6J.out.size (lK.out b e).1
    | 2, _, e => Nat.le_trans (Nat.le_trans HWB.out HDC.out) (LC.out b e).1
    | 3, _, e => Nat.le_trans h6M.out.size (lN.out b e).1
    | k + 4, h, _ => absurd (show k + 4 < 4 from h) (by omega)
  have HSD : Hid (SlD wP (some ⟨wN.heap.size, 0, none⟩) [DA, DK, DC, DN]) := by
    rw [hwP]
    exact slD_new (fun b ⟨k, hk, e⟩ => (RMN k hk).lt b e) (by rw [vA.out, vK.out, vC.out, vN.out]; rfl)
  have HRM : Hid (∀ k, k < 4 → Room wP 2 (dg [DA, DK, DC, DN] k)) := fun k hk => room_below (RMN k hk) hbP
  clear RMN hbP SA RA SC RC sK vK nK rK lK sN vN nN rN lN hbN hbK kKN kJN kKM vA nA vC nC
  go_wp2_with fail
  rw [← hwP]
  clear hwP
  refine (ApartRanges_any (some ⟨wN.heap.size, 0, none⟩) 4 4 [DA, DK, DC, DN] wP rfl HSD.out HRM.out HFAR.out (by omega) HNN.out).mono ?_
  rintro e wQ ⟨rfl, hbQ⟩
  have hQ := hbQ.below h6P.out.size (fun k s => HIN.out k s)
  have h6Q := Lib.hid (h6P.out.trans hQ)
  obtain ⟨hQ0, hQ1, hQ2, hQ3, _⟩ := st4_below hF6.out h6Q
  clear hJ0 hJ1 hJ2 hJ3 hbQ hQ HSD HRM HFAR HNN HIN
  go_wp2_with fail
  refine (HKT.out wQ h6Q.out).mono ?_
  rintro e wR ⟨rfl, hbR⟩
  have h6R := Lib.hid (bl_trans h6Q.out hbR)
  clear hbR
  go_wp2_with fail
  refine (HKR.out wR h6R.out).mono ?_
  rintro e wS ⟨rfl, hbS⟩
  have h6S := Lib.hid (bl_trans h6R.out hbS)
  clear hbS
  go_wp2_with fail
  refine (fawake_any wS).mono ?_
  rintro e wT ⟨rfl, hbT⟩
  have HBT := Lib.hid (HBW.out.trans ((bl_trans h6S.out hbT).mono HBW.out.size))
  clear hbT
  go_wp2
  go_ret
  exact ⟨rfl, HBT.out⟩
end Go.Proofs.YtglgfpapackcdaaGreat
