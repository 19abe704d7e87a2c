/- The walks of the document's own numbers: trim, times. Rows of decimal digits in memory of the call's own. -/
/- The walk of the document's In: the decimal digits of a number of digits to 2^32. -/
import Derived.Test.YtcahnkocfbcchaaGreatDoorWd

namespace Go.Proofs.YtcahnkocfbcchaaGreatDoor
open Go.RowKit Tnd

theorem info_u8 : (Tryz.prog.info? 5).map (fun i => (i.zero, i.size, i.bytes)) = some (some (.int .u8 0), 1, 1) := by kernel_rfl

theorem trim_any (p : Option Addr) (l : List Nat) (c : Nat) (w : World) (hs : Sl w .u8 p l) (hlc : l.length ≤ c) (hc : c ≤ 9223372036854775807) (hp : p = none → c = 0) :
    Calls Tryz.prog 67 #[.slice p l.length c] w fun e w' =>
      e = .returned (.slice p (tlen l) c) ∧ w = w' := by
  rcases p with _ | pa
  · have hl : l = [] := by
      rcases hs with h | ⟨b, off, h, _⟩
      · exact h
      · cases h
    subst hl
    have e0 := hp rfl
    subst e0
    clear hs hp hlc hc
    go_enter Tryz.func67, Tryz.ntmps67
    go_wp2
    go_loop [3] (fun i => i = .int .i64 0) (fun _ => 0)
    case atStart => rfl
    case round =>
      subst hrel
      go_wp2
      go_ret
      exact ⟨rfl, rfl⟩
  · have hcell : ∀ i, i < l.length → ∃ b off, pa = ⟨b, off, none⟩ ∧ w.cell? ⟨b, off + i, none⟩ = some (.int .u8 (gd l i : Nat)) := by
      intro i hi
      rcases hs with h | ⟨b, off, h, hh⟩
      · subst h; simp at hi
      · exact ⟨b, off, by simpa using h, hh i hi⟩
    clear hp
    have HS := Lib.hid hs
    clear hs
    go_enter Tryz.func67, Tryz.ntmps67
    go_wp2
    go_loop [3] (fun i => ∃ k : Nat, k ≤ l.length ∧ tlen l = tlen (l.take k) ∧ i = .int .i64 k) (fun i => (intOf i).toNat)
    case atStart => exact ⟨l.length, Nat.le_refl _, by rw [List.take_length], rfl⟩
    case round =>
      obtain ⟨k, hk, ht, rfl⟩ := hrel
      have HT := Lib.hid ht
      clear ht
      cases k with
      | zero =>
        clear hcell
        go_wp2
        go_ret
        exact ⟨ret_slice (by rw [HT.out]; rfl), rfl⟩
      | succ k =>
        obtain ⟨b, off, rfl, hcc⟩ := hcell k (by omega)
        clear hcell
        by_cases h0 : gd l k = 0
        · rw [h0] at hcc
          have H0 := Lib.hid h0
          clear h0
          go_wp2
          go_round
          case rel => exact ⟨k, by omega, by rw [HT.out, tlen_take_zero l k (by omega) H0.out], by go_num⟩
          case measure => simp [intOf]
        · have hb : ((((gd l k : Nat) : Int)) == 0) = false := by rw [beq_eq_false_iff_ne]; omega
          have H0 := Lib.hid h0
          clear h0
          go_wp2
          go_ret
          exact ⟨ret_slice (by rw [HT.out, tlen_take_stop l k (by omega) H0.out]), rfl⟩
/-- trim of a row of the call's own. -/
theorem trim_own {w : World} {B : Nat} {q : Option Addr} {qc : Nat} {N : List Nat} (ho : Own w B 5 .u8 (.slice q N.length qc) N) :
    Calls Tryz.prog 67 #[.slice q N.length qc] w fun e w' => ∃ M : List Nat, e = .returned (.slice q M.length qc) ∧ M = N.take (tlen N) ∧ Own w B 5 .u8 (.slice q M.length qc) M ∧ w = w' := by
  obtain ⟨q', qc', he, hlc, hcm, hn, hsl, _⟩ := own_form ho
  simp only [Value.slice.injEq, true_and] at he
  obtain ⟨rfl, rfl⟩ := he
  have htl := tlen_le N
  have hlen : (N.take (tlen N)).length = tlen N := by rw [List.length_take]; omega
  refine (trim_any q N qc w hsl hlc hcm hn).mono ?_
  rintro e w' ⟨rfl, hw⟩
  refine ⟨N.take (tlen N), by rw [hlen], rfl, ?_, hw⟩
  rw [hlen]; exact own_take ho (tlen N) htl

/-- the carries of times: in what bounds they stay. -/
def Carry (l : List Nat) (m : Nat) (C : Nat → Nat → Prop) : Prop :=
  ∀ i c, i < l.length → C i c → c + gd l i * m < 18446744073709551616 ∧ C (i + 1) ((c + gd l i * m) / 10)
theorem carry_bound {l : List Nat} {m : Nat} {C : Nat → Nat → Prop} (h : Carry l m C) {i c : Nat} (hi : i < l.length) (hc : C i c) : 0 ≤ (gd l i : Int) * m ∧ (gd l i : Int) * m ≤ 18446744073709551615 ∧ (c : Int) + (gd l i : Int) * m ≤ 18446744073709551615 := by
  have h1 := (h i c hi hc).1
  have e : (gd l i : Int) * m = ((gd l i * m : Nat) : Int) := by push_cast; rfl
  rw [e]; omega
theorem rtimes_step {l N : List Nat} {m k0 i c : Nat} (hi : i < l.length) (hN : N.length = i) (hd : Digs 10 N) (hv : nv 10 N + 10 ^ i * c = nv 10 (l.take i) * m + k0) :
    Digs 10 (N ++ [(c + gd l i * m) % 10]) ∧ nv 10 (N ++ [(c + gd l i * m) % 10]) + 10 ^ (i + 1) * ((c + gd l i * m) / 10) = nv 10 (l.take (i + 1)) * m + k0 := by
  refine ⟨digs_append.2 ⟨hd, fun x hx => by rw [List.mem_singleton.1 hx]; exact Nat.mod_lt _ (by omega)⟩, ?_⟩
  rw [nv_snoc, hN, nv_take_succ 10 l i hi, Nat.add_mul]
  have e1 : 10 ^ (i + 1) * ((c + gd l i * m) / 10) = 10 ^ i * (10 * ((c + gd l i * m) / 10)) := by rw [Nat.pow_succ, Nat.mul_assoc]
  have e2 : 10 ^ i * ((c + gd l i * m) % 10) + 10 ^ i * (10 * ((c + gd l i * m) / 10)) = 10 ^ i * (c + gd l i * m) := by rw [← Nat.mul_add, Nat.mod_add_div]
  have e3 : 10 ^ i * (c + gd l i * m) = 10 ^ i * c + 10 ^ i * gd l i * m := by rw [Nat.mul_add, Nat.mul_assoc]
  omega

set_option maxHeartbeats 1600000 in
set_option maxRecDepth 100000 in
theorem rtimes_any (p : Option Addr) (cp : Nat) (l : List Nat) (m k0 : Nat) (C : Nat → Nat → Prop) (w : World) (hs : Sl w .u8 p l) (hdl : Digs 10 l) (hC : Carry l m C) (h0 : C 0 k0) (_hm : m < 18446744073709551616) (hk : k0 < 18446744073709551616) (hl : l.length ≤ 1000000000000) :
    Calls Tryz.prog 46 #[.slice p l.length cp, .int .u64 (m : Nat), .int .u64 (k0 : Nat)] w fun e w' =>
      ∃ q qc N, e = .returned (.slice q N.length qc) ∧ Own w' w.heap.size 5 .u8 (.slice q N.length qc) N ∧ Digs 10 N ∧ RightL N ∧ nv 10 N = nv 10 l * m + k0 ∧ Below w.heap.size w w' := by
  obtain ⟨i0, hi, hz0, hz1, hz2⟩ := info_parts info_u8
  have HS := Lib.hid hs
  have HC := Lib.hid hC
  have HDL := Lib.hid hdl
  have H0 := Lib.hid h0
  have HKM := Lib.hid (show k0 < 18446744073709551616 from hk)
  clear hs hC h0 hdl
  go_enter Tryz.func46, Tryz.ntmps46
  go_wp2
  go_loopw [7, 8, 9] (fun v cv iv wr => ∃ (i c : Nat) (N : List Nat) (q : Option Addr) (qc : Nat), i ≤ l.length ∧ iv = .int .i64 i ∧ cv = .int .u64 c ∧ c < 18446744073709551616 ∧ v = .slice q N.length qc ∧ Hid (N.length = i) ∧ Hid (Own wr w.heap.size 5 .u8 (.slice q N.length qc) N) ∧ Hid (Digs 10 N) ∧ Hid (nv 10 N + 10 ^ i * c = nv 10 (l.take i) * m + k0) ∧ Hid (C i c) ∧ Hid (Below w.heap.size w wr)) (fun _ _ i _ => l.length - (intOf i).toNat)
  case atStart =>
    refine ⟨0, k0, [], none, 0, by omega, rfl, rfl, HKM.out, rfl, rfl, own_nil _ _ _ _, (fun x hx => nomatch hx), ?_, H0, Below.refl _ _⟩
    show nv 10 [] + 10 ^ 0 * k0 = nv 10 (l.take 0) * m + k0
    simp [nv]
  case round =>
    obtain ⟨i, c, N, q, qc, hi1, rfl, rfl, hc, rfl, HN, HO, HD, HV, HCI, HB⟩ := hrel
    rename World => wr
    by_cases hil : i < l.length
    · obtain ⟨b, off, rfl, hck⟩ : ∃ b off, p = some ⟨b, off, none⟩ ∧ wr.cell? ⟨b, off + i, none⟩ = some (.int .u8 (gd l i : Nat)) := by
        rcases HS.out with h | ⟨b, off, h1, h2⟩
        · subst h; simp at hil
        · have h3 := h2 i hil
          exact ⟨b, off, h1, by rw [HB.out.cell (World.block_lt_of_cell? w _ h3)]; exact h3⟩
      obtain ⟨b1, b2, b3⟩ := carry_bound HC.out hil HCI.out
      have hst := rtimes_step hil HN.out HD.out HV.out
      have hcn := (HC.out i c hil HCI.out)
      have e1 : (c : Int) + (gd l i : Int) * m = ((c + gd l i * m : Nat) : Int) := by push_cast; rfl
      have HT : Hid (∃ t : Nat, t = c + gd l i * m) := ⟨_, rfl⟩
      obtain ⟨t, ht⟩ := HT.out
      rw [← ht] at hst hcn e1
      have b4 : 0 ≤ (c : Int) + (gd l i : Int) * m := by omega
      have HE := Lib.hid e1
      have HST := Lib.hid hst
      have HCN := Lib.hid hcn
      have HNL : Hid (N.length ≤ 1000000000000) := by have := HN.out; show _ ≤ _; omega
      have ho3 := HO.out
      unfold Own at ho3
      have HO4 := Lib.hid ho3
      have HTT := Lib.hid ht
      clear hst hcn e1 ho3 ht HT
      have hx9 : gd l i < 10 := gd_lt HDL.out (by omega) i
      generalize gd l i = x at *
      have x1 : (x : Int) ≤ 18446744073709551615 := by omega
      have m1 : 0 ≤ ((c : Int) + (x : Int) * m) % 10 := by omega
      have m2 : ((c : Int) + (x : Int) * m) % 10 ≤ 255 := by omega
      have m3 : 0 ≤ ((c : Int) + (x : Int) * m) / 10 := by omega
      have m4 : ((c : Int) + (x : Int) * m) / 10 ≤ 18446744073709551615 := by omega
      go_wp2_with (at_builtin; refine wpList_append_own _ rfl _ _ 59 rfl w.heap.size 5 i0 (.int .u8 0) 1 1 Tryz.underlying59 hi hz0 hz1 hz2 rfl (by decide) (.slice q N.length qc) N.length _ rfl (HO4.out.alloc _) ⟨wr.heap.size, 0, none⟩ 1 1 [.int .u8 (((c : Int) + (x : Int) * m) % 10)] rfl rfl ?c1 ?c2 ?c3 ?c4 ?c5 ?_)
      case c1 => exact cell_one_new _ _ _
      case c2 => simp [Value.oneCell']
      case c3 => have := HNL.out; simp only [maxLen]; omega
      case c4 => have := HNL.out; omega
      case c5 => have := HB.out.size; simp; omega
      intro v' w5 hown5 hgrow5 _
      have e2 : ((c : Int) + (x : Int) * m) % 10 = ((t % 10 : Nat) : Int) := by rw [HE.out]; omega
      rw [e2] at hown5
      have hO5 := own_appended rfl hown5
      have hb5 : Below w.heap.size w w5 := ((HB.out.alloc HB.out.size _).grown hgrow5 (by have := HB.out.size; simp; omega) (fun k hk => (HO4.out.lt k hk).1))
      obtain ⟨p', c', hs'⟩ : ∃ p' c', v' = .slice p' (N ++ [t % 10]).length c' := by
        obtain ⟨p', c', hs', _⟩ := own_form hO5
        exact ⟨p', c', hs'⟩
      rw [hs'] at hO5 ⊢
      have HO5 := Lib.hid hO5
      have HB5 := Lib.hid hb5
      have HN5 : Hid ((N ++ [t % 10]).length = i + 1) := by show _ = _; rw [List.length_append, HN.out]; rfl
      have HST2 := HST.out
      have HE3 : Hid (((c : Int) + (x : Int) * m) / 10 = ((t / 10 : Nat) : Int)) := by show _ = _; rw [HE.out]; omega
      clear hs' hown5 hgrow5 hO5 hb5 e2
      generalize N ++ [t % 10] = N2 at *
      have HST3 := Lib.hid HST2
      clear HST2
      go_wp2
      go_roundw
      case rel => exact ⟨i + 1, t / 10, N2, p', c', by omega, by go_num, by rw [HE3.out], by have := HCN.out.1; omega, rfl, HN5, HO5, HST3.out.1, HST3.out.2, HCN.out.2, HB5⟩
      case measure => simp [intOf]; omega
    · obtain rfl : i = l.length := by omega
      have hv0 : nv 10 N + 10 ^ N.length * c = nv 10 l * m + k0 := by have h := HV.out; rw [List.take_length] at h; rw [HN.out]; exact h
      obtain ⟨V, hVV⟩ : ∃ V, V = nv 10 l * m + k0 := ⟨_, rfl⟩
      rw [← hVV] at hv0
      have HVL : Hid (V < 2 ^ (4 * l.length + 200)) := by
        show V < _
        rw [hVV]
        have h1 : nv 10 l * m + k0 = nv 10 N + 10 ^ N.length * c := by rw [← hVV]; exact hv0.symm
        rw [h1, HN.out]
        have h2 := nv_lt 10 N HD.out
        rw [HN.out] at h2
        have h3 : 10 ^ l.length * c + 10 ^ l.length ≤ 10 ^ l.length * 2 ^ 64 := by rw [← Nat.mul_succ]; exact Nat.mul_le_mul_left _ (by omega)
        have h4 : (10 : Nat) ^ l.length ≤ 2 ^ (4 * l.length) := by rw [Nat.pow_mul]; exact Nat.pow_le_pow_left (by decide) _
        have h5 : 10 ^ l.length * 2 ^ 64 ≤ 2 ^ (4 * l.length) * 2 ^ 64 := Nat.mul_le_mul_right _ h4
        rw [← Nat.pow_add] at h5
        have h6 : 2 ^ (4 * l.length + 64) ≤ 2 ^ (4 * l.length + 200) := Nat.pow_le_pow_right (by omega) (by omega)
        omega
      have HV0 := Lib.hid hv0
      have HR0 : Hid (c = 0 → V = nv 10 N) := fun h => by have := HV0.out; rw [h] at this; omega
      have HVE := Lib.hid hVV
      have HNN : Hid (N.length ≤ 4 * l.length + 200) := by have := HN.out; show _ ≤ _; omega
      clear hv0 hVV HV HCI HN
      go_wp2
      go_loopw [7, 8] (fun v cv wi => ∃ (c : Nat) (M : List Nat) (q : Option Addr) (qc : Nat), cv = .int .u64 c ∧ c < 18446744073709551616 ∧ v = .slice q M.length qc ∧ M.length ≤ 4 * l.length + 200 ∧ Hid (Own wi w.heap.size 5 .u8 (.slice q M.length qc) M) ∧ Hid (Digs 10 M) ∧ Hid (nv 10 M + 10 ^ M.length * c = V) ∧ Hid (Below w.heap.size w wi)) (fun _ c _ => (intOf c).toNat)
      case atStart => exact ⟨c, N, q, qc, rfl, hc, rfl, HNN.out, HO, HD, HV0, HB⟩
      case round =>
        obtain ⟨ov, M, q3, qc3, rfl, hov, rfl, hMl, HO3, HD3, HV3, HB3⟩ := hrel
        rename World => wi
        by_cases ho : 0 < ov
        · have hlt : M.length < 4 * l.length + 200 := by
            refine len_bound 10 (4 * l.length + 200) M (by omega) V HVL.out ?_
            have h1 := HV3.out
            have h2 : 10 ^ M.length * 1 ≤ 10 ^ M.length * ov := Nat.mul_le_mul_left _ ho
            omega
          have hst := carry_step 10 V ov M (by omega) ho HV3.out HD3.out
          have hoI : 0 < (ov : Int) := by omega
          have HST := Lib.hid hst
          have ho3 := HO3.out
          unfold Own at ho3
          have HO4 := Lib.hid ho3
          have HLT := Lib.hid hlt
          have m1 : 0 ≤ (ov : Int) % 10 := by omega
          have m2 : (ov : Int) % 10 ≤ 255 := by omega
          have m3 : 0 ≤ (ov : Int) / 10 := by omega
          have m4 : (ov : Int) / 10 ≤ 18446744073709551615 := by omega
          have HVO := Lib.hid hov
          have HHO := Lib.hid ho
          clear hst ho3 hlt
          go_wp2_with (at_builtin; refine wpList_append_own _ rfl _ _ 59 rfl w.heap.size 5 i0 (.int .u8 0) 1 1 Tryz.underlying59 hi hz0 hz1 hz2 rfl (by decide) (.slice q3 M.length qc3) M.length _ rfl (HO4.out.alloc _) ⟨wi.heap.size, 0, none⟩ 1 1 [.int .u8 ((ov : Int) % 10)] rfl rfl ?c1 ?c2 ?c3 ?c4 ?c5 ?_)
          case c1 => exact cell_one_new _ _ _
          case c2 => simp [Value.oneCell']
          case c3 => simp only [maxLen]; omega
          case c4 => omega
          case c5 => have := HB3.out.size; simp; omega
          intro v' w5 hown5 hgrow5 _
          have e2 : (ov : Int) % 10 = ((ov % 10 : Nat) : Int) := by omega
          rw [e2] at hown5
          have hO5 := own_appended rfl hown5
          have hb5 : Below w.heap.size w w5 := ((HB3.out.alloc HB3.out.size _).grown hgrow5 (by have := HB3.out.size; simp; omega) (fun k hk => (HO4.out.lt k hk).1))
          obtain ⟨p', c', hs'⟩ : ∃ p' c', v' = .slice p' (M ++ [ov % 10]).length c' := by
            obtain ⟨p', c', hs', _⟩ := own_form hO5
            exact ⟨p', c', hs'⟩
          rw [hs'] at hO5 ⊢
          have hMl2 : (M ++ [ov % 10]).length ≤ 4 * l.length + 200 := by have := HLT.out; rw [List.length_append, List.length_singleton]; omega
          have HO5 := Lib.hid hO5
          have HB5 := Lib.hid hb5
          have HST2 := HST.out
          have HE3 : Hid ((ov : Int) / 10 = ((ov / 10 : Nat) : Int)) := by show _ = _; omega
          clear hs' hown5 hgrow5 hO5 hb5 e2
          generalize M ++ [ov % 10] = M2 at *
          have HST3 := Lib.hid HST2
          clear HST2
          go_wp2
          go_roundw
          case rel => exact ⟨ov / 10, M2, p', c', by rw [HE3.out], by omega, rfl, hMl2, HO5, HST3.out.2.1, HST3.out.1, HB5⟩
          case measure =>
            have h6 := HHO.out
            simp only [intOf, HE3.out, Int.toNat_natCast]
            omega
        · obtain rfl : ov = 0 := by omega
          have hv3 : nv 10 M = V := by have h := HV3.out; omega
          have HV4 := Lib.hid hv3
          have HTR := Lib.hid (trim_own HO3.out)
          clear hv3
          go_wp2_with fail
          refine HTR.out.mono ?_
          rintro e w6 ⟨M2, rfl, hM2, hO6, rfl⟩
          have HM2 := Lib.hid hM2
          have HO6 := Lib.hid hO6
          clear hM2 hO6
          go_wp2
          go_ret
          exact ⟨q3, qc3, M2, rfl, HO6.out, by rw [HM2.out]; exact digs_take HD3.out _, by rw [HM2.out]; exact right_take_tlen M, by rw [HM2.out, nv_tlen, HV4.out, HVE.out], HB3.out⟩
end Go.Proofs.YtcahnkocfbcchaaGreatDoor


namespace Go.Proofs.YtcahnkocfbcchaaGreatDoor
open Go.RowKit Tnd

theorem carry32 (l : List Nat) (hd : Digs 10 l) : Carry l 4294967296 (fun _ c => c < 4294967296) := by
  intro i c _ hc
  have hx : gd l i < 10 := gd_lt hd (by omega) i
  generalize gd l i = x at *
  constructor <;> omega
theorem rtimes_own {w : World} {B : Nat} {q : Option Addr} {qc : Nat} {N : List Nat} (m k0 : Nat) (C : Nat → Nat → Prop) (ho : Own w B 5 .u8 (.slice q N.length qc) N) (hd : Digs 10 N) (hC : Carry N m C) (h0 : C 0 k0) (hm : m < 18446744073709551616) (hk : k0 < 18446744073709551616) (hl : N.length ≤ 1000000000000) :
    Calls Tryz.prog 46 #[.slice q N.length qc, .int .u64 (m : Nat), .int .u64 (k0 : Nat)] w fun e w' =>
      ∃ q qc M, e = .returned (.slice q M.length qc) ∧ Own w' w.heap.size 5 .u8 (.slice q M.length qc) M ∧ Digs 10 M ∧ RightL M ∧ nv 10 M = nv 10 N * m + k0 ∧ Below w.heap.size w w' := by
  obtain ⟨q', qc', he, hlc, hcm, hn, hsl, _⟩ := own_form ho
  simp only [Value.slice.injEq, true_and] at he
  obtain ⟨rfl, rfl⟩ := he
  exact rtimes_any q qc N m k0 C w hsl hd hC h0 hm hk hl

/-- a row of decimal digits of the call's own that stands for n. -/
def DRow (w : World) (B : Nat) (q : Option Addr) (qc : Nat) (N : List Nat) (n : Nat) : Prop :=
  Own w B 5 .u8 (.slice q N.length qc) N ∧ Digs 10 N ∧ RightL N ∧ nv 10 N = n

theorem dlen {N : List Nat} {n k : Nat} (hr : RightL N) (hn : nv 10 N = n) (h : n < 2 ^ k) : N.length ≤ k :=
  len_right 10 k N (by omega) hr (by rw [hn]; exact h)

set_option maxHeartbeats 800000 in
set_option maxRecDepth 100000 in
theorem in_any (p : Option Addr) (c : Nat) (l : List Nat) (w : World) (hs : Sl w .u32 p l) (hd : Digs 4294967296 l) (hl : l.length ≤ 1000000000) :
    Calls Tryz.prog 34 #[.agg #[.slice p l.length c]] w fun e w' =>
      ∃ q qc N, e = .returned (.slice q N.length qc) ∧ DRow w' w.heap.size q qc N (nv 4294967296 l) ∧ Below w.heap.size w w' := by
  obtain ⟨w0, hw0⟩ : ∃ w0, w0 = w.alloc (.cells #[.slice p l.length c] 24) := ⟨_, rfl⟩
  have hB : Below w.heap.size w w0 := by subst hw0; exact (Below.refl _ _).alloc (Nat.le_refl _) _
  have hc1 : w0.cell? ⟨w.heap.size, 0, none⟩ = some (.slice p l.length c) := by subst hw0; rw [World.cell?_alloc_at _ _ _ _ rfl]; rfl
  have hs0 : w0.heap.size = w.heap.size + 1 := by subst hw0; simp
  have HW0 := Lib.hid hw0
  have HB := Lib.hid hB
  have HC1 := Lib.hid hc1
  have HS0 := Lib.hid hs0
  have HS := Lib.hid hs
  have HD := Lib.hid hd
  have hlI : (l.length : Int) ≤ 1000000000 := by omega
  clear hw0 hB hs0 hs hd
  go_enter Tryz.func34, Tryz.ntmps34
  go_wp2_with (rw [← HW0.out])
  try rw [← HW0.out]
  clear hc1
  go_loopw [3, 4] (fun v i wr => ∃ (j : Int) (q : Option Addr) (qc : Nat) (N : List Nat), -1 ≤ j ∧ j < l.length ∧ i = .int .i64 j ∧ v = .slice q N.length qc ∧ Hid (DRow wr w0.heap.size q qc N (nv 4294967296 (l.drop (j + 1).toNat))) ∧ Hid (Below w0.heap.size w0 wr)) (fun _ i _ => (intOf i + 1).toNat)
  case atStart =>
    refine ⟨(l.length : Int) - 1, none, 0, [], by omega, by omega, rfl, rfl, ⟨own_nil _ _ _ _, fun x hx => by simp at hx, right_nil, ?_⟩, Below.refl _ _⟩
    have e1 : ((l.length : Int) - 1 + 1).toNat = l.length := by omega
    rw [e1, List.drop_length]; rfl
  case round =>
    obtain ⟨j, q, qc, N, hj1, hj2, rfl, rfl, HDR, HBR⟩ := hrel
    rename World => wr
    have hcw : wr.cell? ⟨w.heap.size, 0, none⟩ = some (.slice p l.length c) := by rw [HBR.out.cell (by rw [HS0.out]; simp)]; exact HC1.out
    by_cases hj : 0 ≤ j
    · obtain ⟨k, rfl⟩ : ∃ k : Nat, j = k := ⟨j.toNat, by omega⟩
      have hk1 : k < l.length := by omega
      obtain ⟨pb, po, rfl, hck⟩ : ∃ b off, p = some ⟨b, off, none⟩ ∧ wr.cell? ⟨b, off + k, none⟩ = some (.int .u32 (gd l k : Nat)) := by
        rcases HS.out with h | ⟨b, off, h1, h2⟩
        · subst h; simp at hk1
        · have h3 := h2 k hk1
          have h4 := World.block_lt_of_cell? w _ h3
          exact ⟨b, off, h1, by rw [HBR.out.cell (by rw [HS0.out]; simp at h4 ⊢; omega), HB.out.cell (by simpa using h4)]; exact h3⟩
      have hdk : gd l k < 4294967296 := gd_lt HD.out (by omega) k
      obtain ⟨hO, hDg, hR, hV⟩ := HDR.out
      have e1 : ((k : Int) + 1).toNat = k + 1 := by omega
      rw [e1] at hV
      have hvk : nv 4294967296 (l.drop k) = nv 10 N * 4294967296 + gd l k := by
        rw [nv_drop_step 4294967296 l k hk1, hV, Nat.mul_comm]
      have hNl := dlen hR hV (nv_drop_lt 4294967296 l (k + 1) HD.out (by omega))
      have htm := rtimes_own (w := wr) 4294967296 (gd l k) (fun _ c => c < 4294967296) hO hDg (carry32 N hDg) hdk (by omega) (by omega) (by omega)
      rw [← hvk] at htm
      have hI : ((gd l k : Nat) : Int) ≤ 4294967295 := by omega
      have HTM := Lib.hid htm
      clear htm hO hDg hR hV hvk hNl hdk
      generalize gd l k = d at *
      have hkI : (k : Int) < (l.length : Int) := by omega
      go_wp2_with fail
      refine HTM.out.mono ?_
      rintro e w2 ⟨q2, qc2, M, rfl, hO2, hd2, hr2, hv2, hb2⟩
      have HDR2 : Hid (DRow w2 w0.heap.size q2 qc2 M (nv 4294967296 (l.drop ((k : Int) - 1 + 1).toNat))) := by
        have e2 : ((k : Int) - 1 + 1).toNat = k := by omega
        show DRow _ _ _ _ _ _
        rw [e2]
        exact ⟨own_down hO2 HBR.out.size, hd2, hr2, hv2⟩
      have HBR2 := Lib.hid (HBR.out.trans (hb2.mono HBR.out.size))
      clear hO2 hd2 hr2 hv2 hb2 HTM hcw
      go_wp2
      go_roundw
      case rel => exact ⟨(k : Int) - 1, q2, qc2, M, by omega, by omega, rfl, rfl, HDR2, HBR2⟩
      case measure => simp [intOf]
    · obtain rfl : j = -1 := by omega
      have HDR2 : Hid (DRow wr w.heap.size q qc N (nv 4294967296 l)) := by
        obtain ⟨h1, h2, h3, h4⟩ := HDR.out
        exact ⟨own_down h1 (by rw [HS0.out]; omega), h2, h3, h4⟩
      go_wp2
      go_ret
      exact ⟨q, qc, N, rfl, HDR2.out, HB.out.trans (HBR.out.mono (by rw [HS0.out]; omega))⟩
end Go.Proofs.YtcahnkocfbcchaaGreatDoor

