/- NatRing where the numbers are small enough to be gone through: it tells true. -/
import Derived.Test.YteiadigkbhbolaaDoorOe
import Derived.Test.YteiadigkbhbolaaDoorWz
namespace Go.Proofs.YteiadigkbhbolaaDoor
open Go.RowKit Tnd

theorem k_parse {w : World} {n k : Nat} (hn : n < 2 ^ k) (hk : k ≤ 100000) :
    Calls Tryd.prog 7 #[.string ⟨(Lib.decDigits n).toArray⟩] w fun e y => ∃ u, e = .returned (.tuple #[.agg #[u], .bool true]) ∧ FNat y w.heap.size (.agg #[u]) n ∧ NV y (.agg #[u]) n ∧ Below w.heap.size w y := by
  have hd : (⟨(Lib.decDigits n).toArray⟩ : ByteArray).data.toList = Lib.decDigits n := by simp
  obtain ⟨h1, h2⟩ := dec_text hd
  have hlen : Lib.nDigits n ≤ k + 1 := nDigits_le k n (by
    have h3 : (2 : Nat) ^ k ≤ 10 ^ k := Nat.pow_le_pow_left (by omega) k
    have h4 : (10 : Nat) ^ k ≤ 10 ^ (k + 1) := Nat.pow_le_pow_right (by omega) (by omega)
    omega)
  have hsz : (⟨(Lib.decDigits n).toArray⟩ : ByteArray).size ≤ 8000000000 := by
    show (Lib.decDigits n).toArray.size ≤ _
    rw [List.size_toArray, Lib.decDigits_length]; omega
  refine (parse_ok _ w hsz h1).mono ?_
  rintro e y ⟨v, rfl, hf, hb⟩
  rw [h2] at hf
  obtain ⟨p, c, l, rfl, _⟩ := hf.nat
  exact ⟨_, rfl, hf, hf.nv hn hk, hb⟩
theorem k_subq {w : World} {n m : Nat} {v1 v2 : Value} (h1 : NV w v1 n) (h2 : NV w v2 m) :
    Calls Tryd.prog 15 #[v1, v2] w fun e y => ∃ q l c, e = .returned (.tuple #[.agg #[.slice q l c], .bool (decide (m ≤ n))]) ∧ Below w.heap.size w y := by
  obtain ⟨q1, c1, l1, rfl, i1, rfl, hl1⟩ := h1
  obtain ⟨q2, c2, l2, rfl, i2, rfl, hl2⟩ := h2
  by_cases hge : nv 4294967296 l2 ≤ nv 4294967296 l1
  · rw [decide_eq_true hge]
    refine (sub_ge q1 q2 c1 c2 l1 l2 w i1 i2 (by omega) (by omega) hge).mono ?_
    rintro e y ⟨v, rfl, hf, hb⟩
    obtain ⟨p, c, l, rfl, _⟩ := hf.nat
    exact ⟨_, _, _, rfl, hb⟩
  · rw [decide_eq_false hge]
    refine (sub_lt q1 q2 c1 c2 l1 l2 w i1 i2 (by omega) (by omega) (by omega)).mono ?_
    rintro e y ⟨rfl, hb⟩
    exact ⟨_, _, _, rfl, hb⟩
theorem ord_l {n m : Nat} (h : n < m) : ord n m = -1 := by unfold ord; rw [if_pos h]
theorem ord_e {n m : Nat} (h : n = m) : ord n m = 0 := by unfold ord; rw [if_neg (by omega), if_pos h]
theorem ord_g {n m : Nat} (h : m < n) : ord n m = 1 := by unfold ord; rw [if_neg (by omega), if_neg (by omega)]
theorem one_new (w : World) (x : Value) (T : TypeId) : (w.alloc (.cells #[x] T)).heap[w.heap.size]? = some (.cells #[x] T (0, 0)) := by
  unfold World.alloc
  rw [Array.getElem?_push_size]
theorem FRow.held {w : World} {z b : Nat} {ns : List Nat} {l : Nat} (h : FRow w z (.slice (some ⟨b, 0, none⟩) l l) ns) {i n : Nat} (hi : ns[i]? = some n) : HeldA z w ⟨b, i, none⟩ (.fre n) := by
  obtain ⟨b', e, h2⟩ := h
  simp only [Value.slice.injEq, Option.some.injEq, Addr.mk.injEq, and_true] at e
  obtain ⟨rfl, _⟩ := e
  obtain ⟨x, h3, h4, h5⟩ := h2 i n hi
  exact ⟨x, h3, h4, h5⟩

theorem bl_drews (w : World) (n : Nat) : Below w.heap.size w (w.drewN n) := Joins.below_draws _ _ _
theorem ring_bounds {A B C k1 ka : Nat} (hA : A < 2 ^ k1) (hB : B < 2 ^ k1) (hC : C < 2 ^ k1) (h : 8 * k1 + 8 ≤ ka) :
    (sumn [A, B, C] < 2 ^ ka ∧ prodn [A, B, C] < 2 ^ ka) ∧ (sumn [B, A] < 2 ^ ka ∧ sumn [C, sumn [B, A]] < 2 ^ ka ∧ prodn [C, B] < 2 ^ ka ∧ prodn [prodn [C, B], A] < 2 ^ ka ∧ sumn [B, C] < 2 ^ ka ∧ prodn [A, sumn [B, C]] < 2 ^ ka ∧ prodn [A, B] < 2 ^ ka ∧ prodn [A, C] < 2 ^ ka ∧ sumn [prodn [A, B], prodn [A, C]] < 2 ^ ka) ∧
    (sumn [A, B] < 2 ^ ka ∧ sumn [A] < 2 ^ ka ∧ sumn [A, C] < 2 ^ ka ∧ A < 2 ^ ka ∧ B < 2 ^ ka) := by
  have a1 : A + 0 < 2 ^ k1 := hA
  have b1 : B + 0 < 2 ^ k1 := hB
  have c1 : C + 0 < 2 ^ k1 := hC
  have a2 : A * 1 < 2 ^ k1 := by rw [Nat.mul_one]; exact hA
  have b2 : B * 1 < 2 ^ k1 := by rw [Nat.mul_one]; exact hB
  have c2 : C * 1 < 2 ^ k1 := by rw [Nat.mul_one]; exact hC
  have ba : B + (A + 0) < 2 ^ (2 * k1 + 1) := b_add hB a1 (by omega)
  have bc : B + (C + 0) < 2 ^ (2 * k1 + 1) := b_add hB c1 (by omega)
  have ab : A + (B + 0) < 2 ^ (2 * k1 + 1) := b_add hA b1 (by omega)
  have ac : A + (C + 0) < 2 ^ (2 * k1 + 1) := b_add hA c1 (by omega)
  have mcb : C * (B * 1) < 2 ^ (2 * k1) := b_mul hC b2 (by omega)
  have mbc : B * (C * 1) < 2 ^ (2 * k1) := b_mul hB c2 (by omega)
  have mab : A * (B * 1) < 2 ^ (2 * k1) := b_mul hA b2 (by omega)
  have mac : A * (C * 1) < 2 ^ (2 * k1) := b_mul hA c2 (by omega)
  refine ⟨⟨?_, ?_⟩, ⟨?_, ?_, ?_, ?_, ?_, ?_, ?_, ?_, ?_⟩, ?_, ?_, ?_, ?_, ?_⟩
  · exact b_add hA bc (by omega)
  · exact b_mul hA mbc (by omega)
  · exact b_le ba (by omega)
  · show C + (B + (A + 0) + 0) < _
    exact b_add (j := 2 * k1 + 1) hC ba (by omega)
  · exact b_le mcb (by omega)
  · show C * (B * 1) * (A * 1) < _
    exact b_mul mcb a2 (by omega)
  · exact b_le bc (by omega)
  · show A * ((B + (C + 0)) * 1) < _
    exact b_mul (j := 2 * k1 + 1) hA (by rw [Nat.mul_one]; exact bc) (by omega)
  · exact b_le mab (by omega)
  · exact b_le mac (by omega)
  · show A * (B * 1) + (A * (C * 1) + 0) < _
    exact b_add (j := 2 * k1) mab mac (by omega)
  · exact b_le ab (by omega)
  · exact b_le a1 (by omega)
  · exact b_le ac (by omega)
  · exact b_le hA (by omega)
  · exact b_le hB (by omega)
theorem ring_eqs (A B C : Nat) : sumn [C, sumn [B, A]] = sumn [A, B, C] ∧ prodn [prodn [C, B], A] = prodn [A, B, C] ∧ sumn [prodn [A, B], prodn [A, C]] = prodn [A, sumn [B, C]] ∧ sumn [A, B] - B = A ∧ B ≤ sumn [A, B] ∧ sumn [A] = A := by
  refine ⟨?_, ?_, ?_, ?_, ?_, rfl⟩
  · show C + (B + (A + 0) + 0) = A + (B + (C + 0)); omega
  · show C * (B * 1) * (A * 1) = A * (B * (C * 1))
    simp only [Nat.mul_one]; ac_rfl
  · show A * (B * 1) + (A * (C * 1) + 0) = A * ((B + (C + 0)) * 1)
    simp only [Nat.mul_one, Nat.add_zero, Nat.mul_add]
  · show A + (B + 0) - B = A; omega
  · show B ≤ A + (B + 0); omega

set_option maxHeartbeats 3200000 in
set_option maxRecDepth 100000 in
theorem ring_small (p1 p2 p3 : Option Addr) (c1 c2 c3 : Nat) (l1 l2 l3 : List Nat) (w : World) (htab : Lib.TabIs Tryd.prog w "internal/strconv.uint64pow10" .u64 Lib.pow10Tab)
    (h1 : NatIn w w.heap.size (.agg #[.slice p1 l1.length c1]) l1) (h2 : NatIn w w.heap.size (.agg #[.slice p2 l2.length c2]) l2) (h3 : NatIn w w.heap.size (.agg #[.slice p3 l3.length c3]) l3)
    (hg : ¬ 57 < l1.length + l2.length + l3.length) (A B C : Nat) (hA : nv 4294967296 l1 = A) (hB : nv 4294967296 l2 = B) (hC : nv 4294967296 l3 = C) (ka : Nat) (hka : ka ≤ 100000) (k1 : Nat) (hk1 : 8 * k1 + 8 ≤ ka) (hA1 : A < 2 ^ k1) (hB1 : B < 2 ^ k1) (hC1 : C < 2 ^ k1) :
    Calls Tryd.prog 4 #[.agg #[.slice p1 l1.length c1], .agg #[.slice p2 l2.length c2], .agg #[.slice p3 l3.length c3]] w fun e w' => e = .returned (.bool true) ∧ Below w.heap.size w w' := by
  obtain ⟨w0, hw0⟩ : ∃ w0, w0 = ((w.alloc (.cells #[.slice p1 l1.length c1] 25)).alloc (.cells #[.slice p2 l2.length c2] 25)).alloc (.cells #[.slice p3 l3.length c3] 25) := ⟨_, rfl⟩
  have hB0 : Below w.heap.size w w0 := by subst hw0; exact (((Below.refl _ _).alloc (Nat.le_refl _) _).alloc (by simp) _).alloc (by simp; omega) _
  have hs0 : w0.heap.size = w.heap.size + 3 := by subst hw0; simp
  have hc1 : w0.cell? ⟨w.heap.size, 0, none⟩ = some (.slice p1 l1.length c1) := by subst hw0; rw [World.cell?_alloc_past _ _ _ (by simp; omega), World.cell?_alloc_past _ _ _ (by simp), World.cell?_alloc_at _ _ _ _ rfl]; rfl
  have hc2 : w0.cell? ⟨w.heap.size + 1, 0, none⟩ = some (.slice p2 l2.length c2) := by subst hw0; rw [World.cell?_alloc_past _ _ _ (by simp), World.cell?_alloc_at _ _ _ _ (by simp)]; rfl
  have hc3 : w0.cell? ⟨w.heap.size + 2, 0, none⟩ = some (.slice p3 l3.length c3) := by subst hw0; rw [World.cell?_alloc_at _ _ _ _ (by simp)]; rfl
  have htab0 : Lib.TabIs Tryd.prog w0 "internal/strconv.uint64pow10" .u64 Lib.pow10Tab := by
    subst hw0; exact Lib.tabIs_alloc (Lib.tabIs_alloc (Lib.tabIs_alloc htab _) _) _
  have HAW := Lib.hid (awake_any w0 htab0)
  have HB0 := Lib.hid hB0
  have HW0 := Lib.hid hw0
  have HS0 := Lib.hid hs0
  have HTAB0 := Lib.hid htab0
  have H1 := Lib.hid h1
  have H2 := Lib.hid h2
  have H3 := Lib.hid h3
  have HG := Lib.hid hg
  have HA := Lib.hid hA
  have HB := Lib.hid hB
  have HC := Lib.hid hC
  have HK := Lib.hid hka
  have HK1 := Lib.hid hk1
  have HA1 := Lib.hid hA1
  have HB1 := Lib.hid hB1
  have HC1 := Lib.hid hC1
  clear hw0 hB0 h1 h2 h3 htab htab0 hg hs0 hA hB hC hka hk1 hA1 hB1 hC1
  go_enter Tryd.func4, Tryd.ntmps4
  go_wp2_with fail
  rw [← HW0.out]
  refine HAW.out.mono ?_
  rintro e w1 ⟨rfl, hb1⟩
  have hs0 := HS0.out
  have hd1 : w1.cell? ⟨w.heap.size, 0, none⟩ = some (.slice p1 l1.length c1) := by rw [hb1.cell (by simp; omega)]; exact hc1
  have hd2 : w1.cell? ⟨w.heap.size + 1, 0, none⟩ = some (.slice p2 l2.length c2) := by rw [hb1.cell (by simp; omega)]; exact hc2
  have hd3 : w1.cell? ⟨w.heap.size + 2, 0, none⟩ = some (.slice p3 l3.length c3) := by rw [hb1.cell (by simp; omega)]; exact hc3
  have hbw : Below w.heap.size w w1 := HB0.out.trans (hb1.mono (by omega))
  have hni := nats_three (T := 25) hbw H1.out H2.out H3.out
  have HGR := Lib.hid (great_any _ 3 [l1, l2, l3] _ hni (by simp) (by have := HG.out; simp only [tot]; omega))
  have HGT := Lib.hid (show decide (60 < [l1, l2, l3].length + tot [l1, l2, l3]) = false by have := HG.out; rw [decide_eq_false_iff_not]; simp only [tot, List.length_cons, List.length_nil]; omega)
  have HBW := Lib.hid hbw
  have HTAB1 := Lib.hid (tabIs_below HTAB0.out hb1)
  have HS1 := Lib.hid (show w.heap.size + 3 ≤ w1.heap.size by have := hb1.size; omega)
  clear hni hb1 hbw hc1 hc2 hc3 hs0 HAW
  go_wp2_with fail
  refine HGR.out.mono ?_
  rintro e w2 ⟨rfl, n, rfl⟩
  rw [HGT.out]
  obtain ⟨wa, hwa⟩ : ∃ wa, wa = (w1.alloc (.cells #[.slice p1 l1.length c1, .slice p2 l2.length c2, .slice p3 l3.length c3] 25)).drewN n := ⟨_, rfl⟩
  have hba : Below w1.heap.size w1 wa := by rw [hwa]; exact bl_trans (bl_alloc w1 _) (bl_drews _ _)
  rw [← hwa]
  have HBA := Lib.hid (bl_trans HBW.out hba)
  have HTABA := Lib.hid (tabIs_below HTAB1.out hba)
  have HSA := Lib.hid (show w.heap.size + 3 ≤ wa.heap.size by have := hba.size; have := HS1.out; omega)
  have e1 : wa.cell? ⟨w.heap.size, 0, none⟩ = some (.slice p1 l1.length c1) := by rw [hba.cell (by have := HS1.out; simp; omega)]; exact hd1
  have e2 : wa.cell? ⟨w.heap.size + 1, 0, none⟩ = some (.slice p2 l2.length c2) := by rw [hba.cell (by have := HS1.out; simp; omega)]; exact hd2
  have e3 : wa.cell? ⟨w.heap.size + 1 + 1, 0, none⟩ = some (.slice p3 l3.length c3) := by rw [hba.cell (by have := HS1.out; simp; omega)]; exact hd3
  have C3 : Held wa.heap.size wa w.heap.size (.num A) := ⟨_, e1, _, _, _, rfl, (H1.out.below HBA.out).up HBA.out.size, HA.out, by have := HG.out; omega⟩
  have C4 : Held wa.heap.size wa (w.heap.size + 1) (.num B) := ⟨_, e2, _, _, _, rfl, (H2.out.below HBA.out).up HBA.out.size, HB.out, by have := HG.out; omega⟩
  have C5 : Held wa.heap.size wa (w.heap.size + 1 + 1) (.num C) := ⟨_, e3, _, _, _, rfl, (H3.out.below HBA.out).up HBA.out.size, HC.out, by have := HG.out; omega⟩
  have C3 := Lib.hid C3
  have C4 := Lib.hid C4
  have C5 := Lib.hid C5
  clear hwa hba HGR HGT HBW HTAB1 HS1 hd1 hd2 hd3 e1 e2 e3 HW0 HS0 HTAB0 HB0 H1 H2 H3 HA HB HC HG
  go_wp2_with fail
  have HBD := Lib.hid (ring_bounds HA1.out HB1.out HC1.out HK1.out)
  have HEQ := Lib.hid (ring_eqs A B C)
  refine ring5_all A B C (z := wa.heap.size) (Nat.le_refl _) rfl _ _ _ rfl rfl rfl (C3.out.below (bl_drew wa)) (C4.out.below (bl_drew wa)) (C5.out.below (bl_drew wa)) (by have := HSA.out; omega) (by have := HSA.out; omega) (by have := HSA.out; omega) ka HK.out HBD.out.1.1 HBD.out.1.2 ?_ 5
  intro u0 u1 u2 u3 u4 u5 u6 u7 u8 u9 b7 b8 w5 HB5 C3a C4a C5a C7a C8a HZ5
  have HB5 := Lib.hid ((bl_drew wa).trans HB5.out)
  clear C3 C4 C5
  simp only [putL, List.foldl, Act.put, List.setIfInBounds_toArray, List.set_cons_zero, List.set_cons_succ]
  go_wp2_with fail
  refine ring6_wp A B C (z := wa.heap.size) HZ5.out (by rfl) _ _ _ _ (by rfl) (by rfl) (by rfl) (by rfl) (C3a.out.below (bl_drew w5)) (C4a.out.below (bl_drew w5)) (C7a.out.below (bl_drew w5)) (C8a.out.below (bl_drew w5)) ka HK.out HBD.out.2.2.2.1 (by show B * 1 < _; rw [Nat.mul_one]; exact HBD.out.2.2.2.2.2.2) ?_ 6
  intro f y hk hb
  have hb := bl_trans (bl_drew w5) hb
  have k11 : FRow y wa.heap.size (f 11) [sumn [A, B, C], prodn [A, B, C], 0, 1, sumn [A], prodn [B]] := hk 11 (by decide) (by decide)
  have k11' := k11
  obtain ⟨b9, e9a, _⟩ := k11'
  have e9 : f 11 = .slice (some ⟨b9, 0, none⟩) 6 6 := e9a
  rw [e9] at k11 ⊢
  have HROW := Lib.hid k11
  have C3 := Lib.hid (C3a.out.below hb)
  have C4 := Lib.hid (C4a.out.below hb)
  have C5 := Lib.hid (C5a.out.below hb)
  have C7 := Lib.hid (C7a.out.below hb)
  have C8 := Lib.hid (C8a.out.below hb)
  have HZ6 := Lib.hid (Nat.le_trans HZ5.out hb.size)
  have HB6 := Lib.hid (HB5.out.trans (hb.mono HZ5.out))
  have HTAB6 := Lib.hid (tabIs_below HTABA.out HB6.out)
  clear hk k11 e9 e9a hb C3a C4a C5a C7a C8a HZ5 HB5
  generalize f 0 = r0, f 1 = r1, f 2 = r2, f 3 = r3, f 4 = r4, f 5 = r5, f 6 = r6, f 7 = r7, f 8 = r8, f 9 = r9, f 10 = r10
  simp only [putL, List.foldl, Act.put, List.setIfInBounds_toArray, List.set_cons_zero, List.set_cons_succ]
  clear f
  go_wp2
  go_loopw [10] (fun i wr => ∃ k : Nat, k ≤ 6 ∧ i = .int .i64 k ∧ Hid (Below y.heap.size y wr)) (fun i _ => 6 - (intOf i).toNat)
  case atStart => exact ⟨0, by omega, rfl, Below.refl _ _⟩
  case round =>
    obtain ⟨k, hk, rfl, HBK⟩ := hrel
    by_cases hk6 : k < 6
    · obtain ⟨nn, hnn, hlt⟩ : ∃ nn, [sumn [A, B, C], prodn [A, B, C], 0, 1, sumn [A], prodn [B]][k]? = some nn ∧ Hid (nn < 2 ^ ka) := by
        have hb1 : (1 : Nat) < 2 ^ ka := Nat.one_lt_two_pow (by have := HK1.out; omega)
        match k, hk6 with
        | 0, _ => exact ⟨_, rfl, HBD.out.1.1⟩
        | 1, _ => exact ⟨_, rfl, HBD.out.1.2⟩
        | 2, _ => exact ⟨_, rfl, b_zero ka⟩
        | 3, _ => exact ⟨_, rfl, hb1⟩
        | 4, _ => exact ⟨_, rfl, HBD.out.2.2.2.1⟩
        | 5, _ => exact ⟨_, rfl, by show B * 1 < _; rw [Nat.mul_one]; exact HBD.out.2.2.2.2.2.2⟩
      obtain ⟨x, hck, hfx⟩ := (HROW.out.held hnn).below HBK.out
      have HFX := Lib.hid hfx
      have HNN := Lib.hid hnn
      have HTX := Lib.hid (k_text (z := wa.heap.size) hfx.2 (tabIs_below HTAB6.out HBK.out))
      clear hnn hfx
      go_wp2_with fail
      refine HTX.out.mono ?_
      rintro e x1 ⟨u, rfl, hu, hx1⟩
      obtain rfl : u = .string ⟨(Lib.decDigits nn).toArray⟩ := hu
      have HPA := Lib.hid (k_parse (w := x1) hlt.out HK.out)
      have HX1 := Lib.hid (bl_trans HBK.out hx1)
      have HFX1 := Lib.hid (Kd.below (z := wa.heap.size) (k := .fre nn) HFX.out hx1)
      clear hx1 HTX HFX
      go_wp2_with fail
      refine HPA.out.mono ?_
      rintro e x2 ⟨u, rfl, hpf, hpn, hx2⟩
      have HX2 := Lib.hid (bl_trans HX1.out hx2)
      have HZX := Lib.hid (Nat.le_trans HZ6.out HX1.out.size)
      have HFX2 := Lib.hid (Kd.below (z := wa.heap.size) (k := .fre nn) HFX1.out hx2)
      obtain ⟨uq, ul, uc, rfl⟩ : ∃ q l c, u = .slice q l c := by
        obtain ⟨q, c, l, e, _⟩ := hpn
        cases e; exact ⟨_, _, _, rfl⟩
      have HPF := Lib.hid hpf
      have HPN := Lib.hid hpn
      clear hpf hpn hx2 HPA HFX1 HX1
      go_wp2_with fail
      have hx3 := bl_alloc x2 (.cells #[.slice uq ul uc] 25)
      have C9 := Lib.hid ((((HROW.out.held HNN.out).below HX2.out).below hx3).below (bl_drew _))
      have C11 : Held wa.heap.size (x2.alloc (.cells #[.slice uq ul uc] 25)) x2.heap.size (.fre nn) := ⟨_, cell_of_one (one_new _ _ _), (HPF.out.down HZX.out).below hx3, HPN.out.below hx3⟩
      have C11 := Lib.hid (C11.below (bl_drew _))
      have HX3 := Lib.hid (bl_trans HX2.out hx3)
      clear hx3 HX2 HFX2 HPF HPN
      refine ring11_wp nn b9 k (z := wa.heap.size) (by exact Nat.le_trans HZ6.out HX3.out.size) (by rfl) x2.heap.size (by omega) (by rfl) (by rfl) (by rfl) (by rfl) C11.out C9.out ?_ 11
      intro f x4 hk hb
      have k18 : f 18 = .bool false := hk 18 (by decide) (by decide)
      have HX4 := Lib.hid (bl_trans HX3.out (bl_trans (bl_drew _) hb))
      rw [k18]
      clear hk hb k18 HX3 C9 C11
      generalize f 0 = s0, f 1 = s1, f 2 = s2, f 3 = s3, f 4 = s4, f 5 = s5, f 6 = s6, f 7 = s7, f 8 = s8, f 9 = s9, f 10 = s10, f 11 = s11, f 12 = s12, f 13 = s13, f 14 = s14, f 15 = s15, f 16 = s16, f 17 = s17
      simp only [putL, List.foldl, Act.put, List.setIfInBounds_toArray, List.set_cons_zero, List.set_cons_succ]
      clear f
      go_wp2
      go_roundw
      case rel => exact ⟨k + 1, by omega, by go_num, HX4⟩
      case measure => simp [intOf]; omega
    · obtain rfl : k = 6 := by omega
      have C3 := Lib.hid ((C3.out.below HBK.out).below (bl_drew wr))
      have C4 := Lib.hid ((C4.out.below HBK.out).below (bl_drew wr))
      have C5 := Lib.hid ((C5.out.below HBK.out).below (bl_drew wr))
      have C7 := Lib.hid ((C7.out.below HBK.out).below (bl_drew wr))
      have C8 := Lib.hid ((C8.out.below HBK.out).below (bl_drew wr))
      have HTABW := Lib.hid (tabIs_below HTAB6.out HBK.out)
      have HZW := Lib.hid (Nat.le_trans HZ6.out HBK.out.size)
      have HBW := Lib.hid (HB6.out.trans (HBK.out.mono HZ6.out))
      clear HBK hk hk6
      go_wp2_with fail
      refine ring13_wp A B C (z := wa.heap.size) (by exact HZW.out) (by rfl) _ _ _ (by rfl) (by rfl) (by rfl) C3.out C4.out C5.out ka HK.out _ _ (by rfl) (by rfl) C7.out C8.out HBD.out.2.1.1 HBD.out.2.1.2.1 HBD.out.2.1.2.2.1 HBD.out.2.1.2.2.2.1 HBD.out.2.1.2.2.2.2.1 HBD.out.2.1.2.2.2.2.2.1 HBD.out.2.1.2.2.2.2.2.2.1 HBD.out.2.1.2.2.2.2.2.2.2.1 HBD.out.2.1.2.2.2.2.2.2.2.2 HEQ.out.1 HEQ.out.2.1 HEQ.out.2.2.1 ?_ 13
      intro f y1 hk hb
      have k42 : f 42 = .bool false := hk 42 (by decide) (by decide)
      have HY1 := Lib.hid (bl_trans (bl_drew wr) hb)
      rw [k42]
      clear hk k42
      have C3 := Lib.hid ((C3.out.below hb).below (bl_drew y1))
      have C4 := Lib.hid ((C4.out.below hb).below (bl_drew y1))
      have C5 := Lib.hid ((C5.out.below hb).below (bl_drew y1))
      have HTABY := Lib.hid (tabIs_below HTABW.out HY1.out)
      have HZY := Lib.hid (Nat.le_trans HZW.out HY1.out.size)
      have HBY := Lib.hid (HBW.out.trans (HY1.out.mono HZW.out))
      clear hb HY1 C7 C8 HZW HBW HTABW
      obtain ⟨F, hF⟩ : ∃ F, F = f := ⟨_, rfl⟩
      simp only [putL, List.foldl, Act.put, List.setIfInBounds_toArray, List.set_cons_zero, List.set_cons_succ]
      go_wp2_with fail
      refine ring15_all A B C (z := wa.heap.size) (by exact HZY.out) (by rfl) (by intro _ a _ _ d h; cases d <;> exact h) _ _ _ (by rfl) (by rfl) C3.out C4.out C5.out (by have := HSA.out; omega) (by have := HSA.out; omega) (by have := HSA.out; omega) ka HK.out HBD.out.2.2.1 (by rw [HEQ.out.2.2.2.1]; exact HBD.out.2.2.2.2.2.1) HEQ.out.2.2.2.1 HEQ.out.2.2.2.2.1 ?_ 15
      intro v0 v1 v2 v3 v4 v5 v6 v7 v8 b13 y2 hb D3 D4 D5 D13 HZ2
      have HBZ := Lib.hid (HBY.out.trans (((bl_drew y1).mono HZY.out).trans hb.out))
      have HTABZ := Lib.hid (tabIs_below HTABA.out HBZ.out)
      clear hb HTABY HBY C3 C4 C5 HZY
      obtain ⟨x3, hx3, hn3⟩ := D3.out
      obtain ⟨x4, hx4, hn4⟩ := D4.out
      have HSUB := Lib.hid (k_subq hn3 hn4)
      clear hn3 hn4
      simp only [putL, List.foldl, Act.put, List.setIfInBounds_toArray, List.set_cons_zero, List.set_cons_succ]
      go_wp2_with fail
      refine HSUB.out.mono ?_
      rintro e y3 ⟨q, l, c, rfl, hb⟩
      have hx := bl_alloc y3 (.cells #[.slice q l c] 25)
      have C3 := Lib.hid (((D3.out.below hb).below hx).below (bl_drew _))
      have C4 := Lib.hid (((D4.out.below hb).below hx).below (bl_drew _))
      have C5 := Lib.hid (((D5.out.below hb).below hx).below (bl_drew _))
      have C13 := Lib.hid (((D13.out.below hb).below hx).below (bl_drew _))
      have HY3 := Lib.hid (bl_trans hb hx)
      clear hx hb hx3 hx4
      have HBR := Lib.hid (HBZ.out.trans (HY3.out.mono HZ2.out))
      have HTABR := Lib.hid (tabIs_below HTABZ.out (bl_trans HY3.out (bl_drew _)))
      have HZR := Lib.hid (Nat.le_trans HZ2.out HY3.out.size)
      go_wp2_with fail
      rcases Nat.lt_trichotomy A B with hAB | hAB | hAB
      · have g16 : decide (B ≤ A) = false := by simp; omega
        rw [g16]
        refine ring17l_wp A B C (z := wa.heap.size) (by exact HZR.out) (by rfl) _ _ _ (by rfl) (by rfl) (by rfl) C3.out C4.out C5.out ka HK.out _ (by rfl) C13.out (by rfl) (by rfl) HBD.out.2.2.2.1 HEQ.out.2.2.2.2.2 HBD.out.2.2.2.2.1 HBD.out.2.1.2.2.2.2.1 (ord_l hAB) (ord_l (by show A + (C + 0) < B + (C + 0); omega)) (ord_g hAB)  ?_ 17
        intro f y4 hk hb
        have k54 : f 54 = .bool true := hk 54 (by decide) (by decide)
        rw [k54]
        have HBF := Lib.hid (bl_trans (bl_trans (HBA.out.trans (HBR.out.mono HBA.out.size)) (bl_drew _)) hb)
        clear hk hb k54
        simp only [putL, List.foldl, Act.put, List.setIfInBounds_toArray, List.set_cons_zero, List.set_cons_succ]
        go_wp2
        go_ret
        exact ⟨rfl, HBF.out⟩
      · have g16 : decide (B ≤ A) = true := by simp; omega
        rw [g16]
        refine ring17e_wp A B C (z := wa.heap.size) (by exact HZR.out) (by rfl) _ _ _ (by rfl) (by rfl) (by rfl) C3.out C4.out C5.out ka HK.out _ (by rfl) C13.out (by rfl) (by rfl) HBD.out.2.2.2.1 HEQ.out.2.2.2.2.2 HBD.out.2.2.2.2.1 HBD.out.2.1.2.2.2.2.1 (ord_e hAB) (ord_e (by show A + (C + 0) = B + (C + 0); omega)) (ord_e hAB.symm) hAB.symm (by exact HTABR.out) ?_ 17
        intro f y4 hk hb
        have k54 : f 54 = .bool true := hk 54 (by decide) (by decide)
        rw [k54]
        have HBF := Lib.hid (bl_trans (bl_trans (HBA.out.trans (HBR.out.mono HBA.out.size)) (bl_drew _)) hb)
        clear hk hb k54
        simp only [putL, List.foldl, Act.put, List.setIfInBounds_toArray, List.set_cons_zero, List.set_cons_succ]
        go_wp2
        go_ret
        exact ⟨rfl, HBF.out⟩
      · have g16 : decide (B ≤ A) = true := by simp; omega
        rw [g16]
        refine ring17g_wp A B C (z := wa.heap.size) (by exact HZR.out) (by rfl) _ _ _ (by rfl) (by rfl) (by rfl) C3.out C4.out C5.out ka HK.out _ (by rfl) C13.out (by rfl) (by rfl) HBD.out.2.2.2.1 HEQ.out.2.2.2.2.2 HBD.out.2.2.2.2.1 HBD.out.2.1.2.2.2.2.1 (ord_g hAB) (ord_g (by show A + (C + 0) > B + (C + 0); omega)) (ord_l hAB)  ?_ 17
        intro f y4 hk hb
        have k54 : f 54 = .bool true := hk 54 (by decide) (by decide)
        rw [k54]
        have HBF := Lib.hid (bl_trans (bl_trans (HBA.out.trans (HBR.out.mono HBA.out.size)) (bl_drew _)) hb)
        clear hk hb k54
        simp only [putL, List.foldl, Act.put, List.setIfInBounds_toArray, List.set_cons_zero, List.set_cons_succ]
        go_wp2
        go_ret
        exact ⟨rfl, HBF.out⟩
end Go.Proofs.YteiadigkbhbolaaDoor
