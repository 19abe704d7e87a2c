/- The walk of turned: a row of digits of one base as a row of digits of another. -/
import Derived.Test.YtcahnkocfbcchaaGreatDoorWj

namespace Go.Proofs.YtcahnkocfbcchaaGreatDoor
open Go.RowKit Tnd

theorem scale_enters : ∀ args w, (callFunc 71 args).run Tryz.prog w = .ok (.enter 71 args) w := enters_of Tryz.func71 (by kernel_rfl) rfl
theorem scale_step (fr tt : Nat) (hf : fr ≤ 4294967296) (ht : tt ≤ 4294967296) (ht2 : 2 ≤ tt) (b : Nat) :
    StepOk 71 #[.pointer (some ⟨b, 0, none⟩), .pointer (some ⟨b + 1, 0, none⟩)] (scaleF fr tt) (fun w => w.cell? ⟨b, 0, none⟩ = some (.int .u64 (fr : Nat)) ∧ w.cell? ⟨b + 1, 0, none⟩ = some (.int .u64 (tt : Nat))) tt (fun c => c < fr) := by
  intro x y c yi w hI hx hy hy2 hc
  subst hy
  refine ⟨?_, ?_⟩
  · simp only [scaleF]
    rw [Nat.div_lt_iff_lt_mul (by omega)]
    have := Nat.mul_le_mul_right fr (show x + 1 ≤ tt by omega)
    rw [Nat.add_mul] at this
    have e : fr * tt = tt * fr := Nat.mul_comm ..
    omega
  · exact scale_any x y c fr tt ⟨b, 0, none⟩ ⟨b + 1, 0, none⟩ w hx hc hI.1 hI.2 hf ht

/-- along over digits of the call's own, no row beside them, by the change of base. -/
theorem along_scale (fr tt b : Nat) (hf : fr ≤ 4294967296) (ht : tt ≤ 4294967296) (ht2 : 2 ≤ tt) (B : Nat) (p1 : Option Addr) (c1 : Nat) (N : List Nat) (d : Nat) (w : World)
    (hown : Own w B 46 .u32 (.slice p1 N.length c1) N) (hN : Digs tt N) (hd : d < fr) (hbB : b + 2 ≤ B)
    (hc1 : w.cell? ⟨b, 0, none⟩ = some (.int .u64 (fr : Nat))) (hc2 : w.cell? ⟨b + 1, 0, none⟩ = some (.int .u64 (tt : Nat))) (hm : N.length ≤ 1000000000000) :
    Calls Tryz.prog 63 #[.slice p1 N.length c1, .slice none 0 0, .int .u32 (d : Nat), .func (.func 71) #[] #[.pointer (some ⟨b, 0, none⟩), .pointer (some ⟨b + 1, 0, none⟩)]] w fun e w' =>
      ∃ cr : Nat, cr = (alongF (scaleF fr tt) N [] d).2 ∧ e = .returned (.int .u32 (cr : Nat)) ∧ w.grownBy w' (Value.slice p1 N.length c1).ownBlock ∧ Own w' B 46 .u32 (.slice p1 N.length c1) (alongF (scaleF fr tt) N [] d).1 := by
  obtain ⟨p, c, hs, hlc, hcm, hnil, hsl, hob⟩ := own_form hown
  simp only [Value.slice.injEq, true_and] at hs
  obtain ⟨rfl, rfl⟩ := hs
  cases p1 with
  | none =>
    have e0 := hnil rfl
    subst e0
    have hl : N = [] := List.eq_nil_of_length_eq_zero (by omega)
    subst hl
    refine (along_nil 71 _ (d : Nat) (.slice none 0 0) w).mono ?_
    rintro e w' ⟨rfl, rfl⟩
    exact ⟨d, rfl, rfl, World.grownBy.refl _ _, hown⟩
  | some a =>
    obtain ⟨g, o, m⟩ := a
    have hg : (⟨g, o, m⟩ : Addr) = ⟨g, 0, none⟩ := by
      have := (hob g rfl).1
      simpa using this
    rw [hg] at hown ⊢
    obtain ⟨hBg, hown'⟩ := own_at hown
    have e1 : (N.drop 0).take N.length = N := by simp
    refine (along_any 71 _ scale_enters (scaleF fr tt) _ tt (fun c => c < fr) g (fun w1 w2 h1 h2 => ⟨h2.cell h1.1 (by simp; omega), h2.cell h1.2 (by simp; omega)⟩) (scale_step fr tt hf ht ht2 b) 0 N.length c1 d none [] N c1 0 w hown' (by omega) ⟨hc1, hc2⟩ hd (by rw [e1]; exact hN) (by omega) (by intro x hx; simp at hx) (.inl rfl) (by omega) (by simp)).mono ?_
    rintro e w' ⟨he, hgr, ho⟩
    rw [e1] at he ho
    refine ⟨_, rfl, he, hgr, ?_⟩
    have e2 : N.take 0 ++ (alongF (scaleF fr tt) N [] d).1 ++ N.drop (0 + N.length) = (alongF (scaleF fr tt) N [] d).1 := by simp
    rw [e2] at ho
    exact own_down ho hBg

def Under (n k : Nat) : Prop := n < 2 ^ k

set_option maxHeartbeats 800000 in
set_option maxRecDepth 100000 in
theorem turned_any (p : Option Addr) (c : Nat) (l : List Nat) (fr tt : Nat) (w : World) (hs : Sl w .u32 p l) (hd : Digs fr l) (hf : fr ≤ 4294967296) (hf1 : 1 ≤ fr) (ht : tt ≤ 4294967296) (ht2 : 2 ≤ tt) (hl : l.length ≤ 1000000000) :
    Calls Tryz.prog 40 #[.slice p l.length c, .int .u64 (fr : Nat), .int .u64 (tt : Nat)] w fun e w' =>
      ∃ q qc N, e = .returned (.slice q N.length qc) ∧ Own w' w.heap.size 46 .u32 (.slice q N.length qc) N ∧ Digs tt N ∧ RightL N ∧ nv tt N = nv fr l ∧ N.length ≤ 32 * l.length ∧ Below w.heap.size w w' := by
  obtain ⟨i0, hi, hz0, hz1, hz2⟩ := info_parts info_u32
  have hmf : ∀ (fn : Fn) (first cap : Array Value) (w : World), (Instr.makeFunc fn first cap).run Tryz.prog w = .ok (.func fn first cap) w := fun _ _ _ _ => rfl
  obtain ⟨w0, hw0⟩ : ∃ w0, w0 = (w.alloc (.cells #[.int .u64 (fr : Nat)] 25)).alloc (.cells #[.int .u64 (tt : Nat)] 25) := ⟨_, rfl⟩
  have hB : Below w.heap.size w w0 := by subst hw0; exact ((Below.refl _ _).alloc (Nat.le_refl _) _).alloc (by simp) _
  have hc1 : w0.cell? ⟨w.heap.size, 0, none⟩ = some (.int .u64 (fr : Nat)) := by subst hw0; rw [World.cell?_alloc_past _ _ _ (by simp), World.cell?_alloc_at _ _ _ _ rfl]; rfl
  have hc2 : w0.cell? ⟨w.heap.size + 1, 0, none⟩ = some (.int .u64 (tt : Nat)) := by subst hw0; rw [World.cell?_alloc_at _ _ _ _ (by simp)]; rfl
  have hs0 : w0.heap.size = w.heap.size + 2 := by subst hw0; simp
  have HW0 := Lib.hid hw0
  have HB := Lib.hid hB
  have HC1 := Lib.hid hc1
  have HC2 := Lib.hid hc2
  have HS0 := Lib.hid hs0
  have HS := Lib.hid hs
  have HD := Lib.hid hd
  have htI : 1 ≤ (tt : Int) := by omega
  clear hw0 hB hc1 hc2 hs0 hs hd
  go_enter Tryz.func40, Tryz.ntmps40
  go_wp2
  rw [← HW0.out]
  go_loopw [7, 9] (fun v i wr => ∃ (j : Int) (q : Option Addr) (qc : Nat) (N : List Nat), -1 ≤ j ∧ j < l.length ∧ i = .int .i64 j ∧ v = .slice q N.length qc ∧ N.length ≤ 32 * l.length ∧ Hid (Own wr w0.heap.size 46 .u32 (.slice q N.length qc) N) ∧ Hid (Digs tt N) ∧ Hid (RightL N) ∧ Hid (nv tt N = nv fr (l.drop (j + 1).toNat)) ∧ Hid (Below w0.heap.size w0 wr)) (fun _ i _ => (intOf i + 1).toNat)
  case atStart =>
    refine ⟨(l.length : Int) - 1, none, 0, [], by omega, by omega, rfl, rfl, by simp, own_nil _ _ _ _, fun x hx => by simp at hx, right_nil, ?_, Below.refl _ _⟩
    have e1 : ((l.length : Int) - 1 + 1).toNat = l.length := by omega
    show nv tt [] = _
    rw [e1, List.drop_length]; rfl
  case round =>
    obtain ⟨j, q, qc, N, hj1, hj2, rfl, rfl, hNl, HO, HDN, HR, HV, HBR⟩ := hrel
    rename World => wr
    by_cases hj : 0 ≤ j
    · obtain ⟨k, rfl⟩ : ∃ k : Nat, j = k := ⟨j.toNat, by omega⟩
      have hk1 : k < l.length := by omega
      obtain ⟨pb, po, rfl, hck⟩ : ∃ b off, p = some ⟨b, off, none⟩ ∧ wr.cell? ⟨b, off + k, none⟩ = some (.int .u32 (gd l k : Nat)) := by
        rcases HS.out with h | ⟨b, off, h1, h2⟩
        · subst h; simp at hk1
        · have h3 := h2 k hk1
          have h4 := World.block_lt_of_cell? w _ h3
          exact ⟨b, off, h1, by rw [HBR.out.cell (by rw [HS0.out]; simp at h4 ⊢; omega), HB.out.cell (by simpa using h4)]; exact h3⟩
      have hdk : gd l k < fr := gd_lt HD.out hf1 k
      have hvk : nv fr (l.drop k) = fr * nv tt N + gd l k := by
        have h := HV.out
        have e1 : ((k : Int) + 1).toNat = k + 1 := by omega
        rw [e1] at h
        rw [nv_drop_step fr l k hk1, h]
      have hck1 : wr.cell? ⟨w.heap.size, 0, none⟩ = some (.int .u64 (fr : Nat)) := by rw [HBR.out.cell (by rw [HS0.out]; simp)]; exact HC1.out
      have hck2 : wr.cell? ⟨w.heap.size + 1, 0, none⟩ = some (.int .u64 (tt : Nat)) := by rw [HBR.out.cell (by rw [HS0.out]; simp)]; exact HC2.out
      generalize gd l k = d at *
      have hal := along_scale fr tt w.heap.size hf ht ht2 w0.heap.size q qc N d wr HO.out HDN.out hdk (by rw [HS0.out]; omega) hck1 hck2 (by omega)
      have hrow := scale_row fr tt N d HDN.out HR.out ht2 hf1 hdk
      have hul : nv fr (l.drop k) < 2 ^ (32 * l.length) := nv_drop_lt fr l k HD.out hf
      have hsl := alongF_length (scaleF fr tt) N [] d
      have HAL := Lib.hid hal
      have HROW := Lib.hid hrow
      have HVK := Lib.hid hvk
      have HUL : Hid (Under (nv fr (l.drop k)) (32 * l.length)) := hul
      have HSL := Lib.hid hsl
      clear hal hrow hvk hul hsl hck1 hck2
      go_wp2_with fail
      refine HAL.out.mono ?_
      rintro e w2 ⟨cr, hcr, rfl, hg2, ho2⟩
      have hrow2 := HROW.out
      rw [← hcr, ← HVK.out] at hrow2
      have hlen2 := HSL.out
      generalize (alongF (scaleF fr tt) N [] d).1 = N2 at *
      have hb2 : Below w0.heap.size w0 w2 := HBR.out.grown hg2 HBR.out.size (fun k hk => (HO.out.lt k hk).1)
      rw [← hlen2] at ho2 hrow2 ⊢
      have HROW2 := Lib.hid hrow2
      have HB2 := Lib.hid hb2
      have HO2 := Lib.hid ho2
      have hcr2 : cr < 4294967296 := by have := hrow2.2.2.1; omega
      have HLN := Lib.hid hlen2
      clear hcr hg2 ho2 hrow2 hb2 HROW HSL HAL hck hlen2
      generalize hV : nv fr (l.drop k) = V at *
      have HVV := Lib.hid hV
      clear hV
      go_wp2_with fail
      go_loopw [7, 10] (fun v o wi => ∃ (ov : Nat) (M : List Nat) (q : Option Addr) (qc : Nat), v = .slice q M.length qc ∧ o = .int .u64 ov ∧ ov < 4294967296 ∧ M.length ≤ 32 * l.length ∧ Hid (Own wi w0.heap.size 46 .u32 (.slice q M.length qc) M) ∧ Hid (nv tt M + tt ^ M.length * ov = V) ∧ Hid (Digs tt M) ∧ Hid (ov = 0 → RightL M) ∧ Hid (Below w0.heap.size w0 wi)) (fun _ o _ => (intOf o).toNat)
      case atStart => exact ⟨cr, N2, q, qc, rfl, rfl, hcr2, by rw [HLN.out]; omega, HO2, HROW2.out.1, HROW2.out.2.1, HROW2.out.2.2.2, HB2⟩
      case round =>
        clear hmf
        obtain ⟨ov, M, q3, qc3, rfl, rfl, hov, hMl, HO3, HV3, HD3, HR3, HB3⟩ := hrel
        rename World => wi
        by_cases ho : 0 < ov
        · have hlt : M.length < 32 * l.length := by
            refine len_bound tt (32 * l.length) M ht2 V HUL.out ?_
            have h1 := HV3.out
            have h2 : tt ^ M.length * 1 ≤ tt ^ M.length * ov := Nat.mul_le_mul_left _ ho
            omega
          have hst := carry_step tt V ov M ht2 ho HV3.out HD3.out
          have hm1 : ov % tt < tt := Nat.mod_lt _ (by omega)
          have hm2 : ov / tt < ov := Nat.div_lt_self ho (by omega)
          have e1 : (ov : Int) % (tt : Int) = ((ov % tt : Nat) : Int) := (Int.natCast_emod ov tt).symm
          have e2 : (ov : Int) / (tt : Int) = ((ov / tt : Nat) : Int) := (Int.natCast_ediv ov tt).symm
          have n1 : 0 ≤ (ov : Int) % (tt : Int) := by rw [e1]; omega
          have n2 : (ov : Int) % (tt : Int) ≤ 4294967295 := by rw [e1]; omega
          have n3 : 0 ≤ (ov : Int) / (tt : Int) := by rw [e2]; exact Int.natCast_nonneg _
          have n4 : (ov : Int) / (tt : Int) ≤ 4294967295 := by rw [e2]; exact Int.ofNat_le.2 (show ov / tt ≤ 4294967295 by omega)
          have hct : wi.cell? ⟨w.heap.size + 1, 0, none⟩ = some (.int .u64 (tt : Nat)) := by rw [HB3.out.cell (by rw [HS0.out]; simp)]; exact HC2.out
          have hoI : 0 < (ov : Int) := by omega
          have HST := Lib.hid hst
          have E1 := Lib.hid e1
          have E2 := Lib.hid e2
          have ho3 := HO3.out
          unfold Own at ho3
          have HO4 := Lib.hid ho3
          clear hst e1 e2 ho3
          go_wp2_with (at_builtin; refine wpList_append_own _ rfl _ _ 52 rfl w0.heap.size 46 i0 (.int .u32 0) 1 4 Tryz.underlying52 hi hz0 hz1 hz2 rfl (by decide) (.slice q3 M.length qc3) M.length _ rfl (HO4.out.alloc _) ⟨wi.heap.size, 0, none⟩ 1 1 [.int .u32 ((ov : Int) % (tt : Int))] rfl rfl ?c1 ?c2 ?c3 ?c4 ?c5 ?_)
          case c1 => exact cell_one_new _ _ _
          case c2 => simp [Value.oneCell']
          case c3 => simp only [maxLen]; omega
          case c4 => omega
          case c5 => have := HB3.out.size; simp; omega
          intro v' w5 hown5 hgrow5 _
          rw [E1.out] at hown5
          have hO5 := own_appended rfl hown5
          have hb5 : Below w0.heap.size w0 w5 := ((HB3.out.alloc HB3.out.size _).grown hgrow5 (by have := HB3.out.size; simp; omega) (fun k hk => (HO4.out.lt k hk).1))
          have hct5 : w5.cell? ⟨w.heap.size + 1, 0, none⟩ = some (.int .u64 (tt : Nat)) := by rw [hb5.cell (by rw [HS0.out]; simp)]; exact HC2.out
          obtain ⟨p', c', hs'⟩ : ∃ p' c', v' = .slice p' (M ++ [ov % tt]).length c' := by
            obtain ⟨p', c', hs', _⟩ := own_form hO5
            exact ⟨p', c', hs'⟩
          rw [hs'] at hO5 ⊢
          have hMl2 : (M ++ [ov % tt]).length ≤ 32 * l.length := by rw [List.length_append, List.length_singleton]; omega
          have HO5 := Lib.hid hO5
          have HB5 := Lib.hid hb5
          have HST2 := HST.out
          have HO6 : Hid (ov / tt < ov) := hm2
          clear hs' hown5 hgrow5 hO5 hb5 hct
          generalize M ++ [ov % tt] = M2 at *
          have HST3 := Lib.hid HST2
          clear HST2
          go_wp2
          go_roundw
          case rel => exact ⟨ov / tt, M2, p', c', rfl, by rw [E2.out], by omega, hMl2, HO5, HST3.out.1, HST3.out.2.1, HST3.out.2.2, HB5⟩
          case measure =>
            have h6 := HO6.out
            simp only [intOf, E2.out, Int.toNat_natCast]
            exact h6
        · obtain rfl : ov = 0 := by omega
          have hv3 : nv tt M = V := by have h := HV3.out; omega
          have HV4 := Lib.hid hv3
          clear hv3
          go_wp2
          go_roundw
          case rel =>
            refine ⟨(k : Int) - 1, q3, qc3, M, by omega, by omega, rfl, rfl, hMl, HO3, HD3, HR3.out rfl, ?_, HB3⟩
            have e1 : ((k : Int) - 1 + 1).toNat = k := by omega
            show nv tt M = _
            rw [e1, HVV.out]; exact HV4.out
          case measure => simp [intOf]
    · obtain rfl : j = -1 := by omega
      have hv : nv tt N = nv fr l := by
        have h := HV.out
        have e1 : ((-1 : Int) + 1).toNat = 0 := rfl
        rw [e1, List.drop_zero] at h
        exact h
      have HV4 := Lib.hid hv
      clear hv hmf
      go_wp2
      go_ret
      exact ⟨q, qc, N, rfl, own_down HO.out (by rw [HS0.out]; omega), HDN.out, HR.out, HV4.out, hNl, HB.out.trans (HBR.out.mono (by rw [HS0.out]; omega))⟩
end Go.Proofs.YtcahnkocfbcchaaGreatDoor
