/- The walk of told: code points are of one class just if they are in the same sets. -/
import Derived.Test.YtkcjfgkfhjanpaaQp
namespace Go.Proofs.Ytkcjfgkfhjanpaa
open Go.RowKit Tnr

theorem slq_keep {w : World} {b o : Nat} {l : List Int} (h : SlQ w (some ⟨b, o, none⟩) l) {i : Nat} (hi : i < l.length) : w.cell? ⟨b, o + i, none⟩ = some (.int .i64 (gq l i)) := by
  obtain ⟨b2, o2, e, hc⟩ := slq_at h hi
  simp only [Option.some.injEq, Addr.mk.injEq, and_true] at e
  obtain ⟨rfl, rfl⟩ := e
  exact hc

set_option maxHeartbeats 3200000 in
set_option maxRecDepth 100000 in
theorem told_any (p q r : Option Addr) (c d f m n t : Nat) (xs ys : List SV) (ps : List Int) (num : Int → Nat) (w : World) (hm : m = xs.length) (hn : n = ys.length) (ht : t = ps.length) (hx : SlS w p xs) (hy : SlS w q ys) (hr : SlQ w r ps)
    (hN : Numb (rowsV xs) num) (hR : RowsOf num (rowsV ys)) (hfx : (flat xs).length ≤ 10000) (hfy : (flat ys).length ≤ 10000) (hml : m ≤ 10000) (hnl : n ≤ 10000) (htl : t ≤ 10000) :
    Calls Try.prog 14 #[.slice p m c, .slice q n d, .slice r t f] w fun e w' => e = .returned (.bool true) ∧ Below w.heap.size w w' := by
  have HX := Lib.hid hx
  have HY := Lib.hid hy
  have HRR := Lib.hid hr
  have HM := Lib.hid hm
  have HN := Lib.hid hn
  have HT := Lib.hid ht
  have HNU := Lib.hid hN
  have HRO := Lib.hid hR
  have HFX := Lib.hid hfx
  have hmI : (m : Int) ≤ 10000 := by omega
  have htI : (t : Int) ≤ 10000 := by omega
  have HCL : Hid (∀ (z : Int) (W : World), Below w.heap.size w W → Calls Try.prog 18 #[.slice q n d, .int .i64 z] W fun e w' => ∃ k b, e = .returned (.tuple #[.int .i64 (k : Nat), .bool b]) ∧ ((b = true ∧ Pt z ∧ k = num z) ∨ (b = false ∧ ¬ Pt z)) ∧ Below W.heap.size W w') := by
    intro z W hb
    refine (class_any q d n ys z W hn (hy.below hb) (by omega) (by omega)).mono ?_
    rintro e w' ⟨k, b, h1, h2, h3⟩
    exact ⟨k, b, h1, hR.cls h2, h3⟩
  clear hx hy hr hm hn ht hN hR hfx hfy hml hnl htl
  go_enter Try.func14, Try.ntmps14
  go_wp2
  go_loopw [7] (fun iv wr => ∃ i : Nat, i ≤ t ∧ iv = .int .i64 (i : Nat) ∧ Hid (Below w.heap.size w wr)) (fun iv _ => t - (intOf iv).toNat)
  case atStart => exact ⟨0, Nat.zero_le _, rfl, Below.refl _ _⟩
  case round =>
    obtain ⟨i, hi, rfl, HB⟩ := hrel
    rename World => wr
    by_cases hit : i < t
    · have hiI : (i : Int) < t := by omega
      have hip : i < ps.length := by have := HT.out; omega
      obtain ⟨bp, op, rfl, hci⟩ := slq_at (HRR.out.below HB.out) hip
      obtain ⟨x, hxe⟩ : ∃ x, x = gq ps i := ⟨_, rfl⟩
      have HXE : Hid (x = gq ps i) := hxe
      have HIT := Lib.hid hit
      have HIP := Lib.hid hip
      rw [← hxe] at hci
      clear hxe hip
      go_wp2_with fail
      refine (HCL.out x wr HB.out).mono ?_
      rintro e w1 ⟨a, ok, rfl, hcls, hb1⟩
      have HB1 := Lib.hid (bl_trans HB.out hb1)
      have hci1 : w1.cell? ⟨bp, op + i, none⟩ = some (.int .i64 x) := keep_cell hb1 hci
      have HCI1 := Lib.hid hci1
      clear hb1 hci
      rcases hcls with ⟨rfl, hpt, hax⟩ | ⟨rfl, hpt⟩
      · have hx1 : 0 ≤ x := hpt.1
        have hx2 : x ≤ 1114111 := hpt.2
        have hx1D : decide (0 ≤ x) = true := by simpa using hx1
        have hx2D : decide (x ≤ 1114111) = true := by simpa using hx2
        have HPT := Lib.hid hpt
        have HAX := Lib.hid hax
        clear hpt hax
        go_wp2
        go_loopw [10] (fun kv wr => ∃ k : Nat, k ≤ i ∧ kv = .int .i64 (k : Nat) ∧ Hid (Below w.heap.size w wr)) (fun kv _ => i - (intOf kv).toNat)
        case atStart => exact ⟨0, Nat.zero_le _, rfl, HB1.out⟩
        case round =>
          obtain ⟨k, hk, rfl, HB2⟩ := hrel
          rename World => w2
          by_cases hki : k < i
          · have hkI : (k : Int) < i := by omega
            have hktI : (k : Int) < t := by omega
            have hck : w2.cell? ⟨bp, op + k, none⟩ = some (.int .i64 (gq ps k)) := slq_keep (HRR.out.below HB2.out) (by have := HIP.out; omega)
            obtain ⟨y, hye⟩ : ∃ y, y = gq ps k := ⟨_, rfl⟩
            rw [← hye] at hck
            clear hci1 hye
            go_wp2_with fail
            refine (HCL.out y w2 HB2.out).mono ?_
            rintro e w3 ⟨b, is, rfl, hcls, hb3⟩
            have HB3 := Lib.hid (bl_trans HB2.out hb3)
            have hck3 : w3.cell? ⟨bp, op + k, none⟩ = some (.int .i64 y) := keep_cell hb3 hck
            have hci3 : w3.cell? ⟨bp, op + i, none⟩ = some (.int .i64 x) := by rw [HXE.out]; exact slq_keep (HRR.out.below HB3.out) HIP.out
            have HCK := Lib.hid hck3
            have HCI := Lib.hid hci3
            have HCLS := Lib.hid hcls
            clear hcls hb3 hck hck3 hci3
            go_wp2
            go_loopw [13, 14] (fun sv nv wr => ∃ (s : Bool) (j : Nat), j ≤ m ∧ sv = .bool s ∧ nv = .int .i64 (j : Nat) ∧ Hid (Below w3.heap.size w3 wr) ∧ Hid (s = true ↔ ∀ j', j' < j → (Has (gl (rowsV xs) j') x ↔ Has (gl (rowsV xs) j') y))) (fun _ nv _ => m - (intOf nv).toNat)
            case atStart => exact ⟨true, 0, Nat.zero_le _, rfl, rfl, Below.refl _ _, ⟨fun _ j' h => absurd h (by omega), fun _ => rfl⟩⟩
            case round =>
              obtain ⟨s, j, hj, rfl, rfl, HB4, HS⟩ := hrel
              rename World => w4
              by_cases hjm : j < m
              · have hjI : (j : Int) < m := by omega
                have hjx : j < xs.length := by have := HM.out; omega
                have hlow := bl_trans HB3.out HB4.out
                obtain ⟨bs, os, rfl, hcs⟩ := sls_at (HX.out.below hlow) hjx
                have hs0 : SlR w4 (gs xs j).1 (gs xs j).2.2 := (HX.out.below hlow).1 _ (by rw [gs_get hjx]; exact List.getElem_mem _)
                have HGL : Hid (gl (rowsV xs) j = (gs xs j).2.2) := rowsV_gl hjx
                have HLE : Hid ((gs xs j).2.2.length ≤ 10000) := by have := flat_one_le hjx; have := HFX.out; show _ ≤ _; omega
                obtain ⟨pa, ca, la, hga⟩ : ∃ pa ca la, gs xs j = (pa, ca, la) := ⟨_, _, _, rfl⟩
                rw [hga] at hcs hs0 HGL HLE
                simp only at hcs hs0
                obtain ⟨na, hna⟩ : ∃ na, na = la.length := ⟨_, rfl⟩
                have HHX : Hid (∀ (z : Int) (W : World), Below w4.heap.size w4 W → Calls Try.prog 29 #[.slice pa na ca, .int .i64 z] W fun e w' => e = .returned (.bool (hasB la z)) ∧ Below W.heap.size W w') := fun z W hb => by
                  rw [hna]
                  exact has_any pa ca la z W (hs0.below hb) (by have := HLE.out; simp only at this; omega)
                rw [← hna] at hcs
                have hcx : w4.cell? ⟨bp, op + i, none⟩ = some (.int .i64 x) := keep_cell HB4.out HCI.out
                have hcy : w4.cell? ⟨bp, op + k, none⟩ = some (.int .i64 y) := keep_cell HB4.out HCK.out
                have HJ := Lib.hid hjm
                clear hga hs0 hna hjx hlow hjm
                cases s with
                | false =>
                  have HS2 : Hid (false = true ↔ ∀ j', j' < j + 1 → (Has (gl (rowsV xs) j') x ↔ Has (gl (rowsV xs) j') y)) := ⟨fun h => absurd h (by decide), fun h => HS.out.2 fun j' hj' => h j' (by omega)⟩
                  go_wp2
                  go_region
                  go_wp2
                  go_roundw
                  case rel => exact ⟨false, j + 1, by have := HJ.out; omega, rfl, by go_num, HB4.out.drew, HS2.out⟩
                  case measure => have := HJ.out; simp [intOf]; omega
                | true =>
                  obtain ⟨hx', hhx⟩ : ∃ b, b = hasB la x := ⟨_, rfl⟩
                  obtain ⟨hy', hhy⟩ : ∃ b, b = hasB la y := ⟨_, rfl⟩
                  have HS2 : Hid ((hx' == hy') = true ↔ ∀ j', j' < j + 1 → (Has (gl (rowsV xs) j') x ↔ Has (gl (rowsV xs) j') y)) := by
                    have h0 := HS.out.1 rfl
                    have e1 : hx' = true ↔ Has la x := by rw [hhx]; unfold hasB; simp
                    have e2 : hy' = true ↔ Has la y := by rw [hhy]; unfold hasB; simp
                    show _ ↔ _
                    rw [beq_iff_eq]
                    constructor
                    · intro h j' hj'
                      by_cases e : j' = j
                      · rw [e, HGL.out, ← e1, ← e2, h]
                      · exact h0 j' (by omega)
                    · intro h
                      have h1 := h j (by omega)
                      rw [HGL.out, ← e1, ← e2] at h1
                      cases hx' <;> cases hy' <;> simp at h1 ⊢
                  have HHX1 : Hid (∀ (W : World), Below w4.heap.size w4 W → Calls Try.prog 29 #[.slice pa na ca, .int .i64 x] W fun e w' => e = .returned (.bool hx') ∧ Below W.heap.size W w') := fun W hb => by rw [hhx]; exact HHX.out x W hb
                  have HHY1 : Hid (∀ (W : World), Below w4.heap.size w4 W → Calls Try.prog 29 #[.slice pa na ca, .int .i64 y] W fun e w' => e = .returned (.bool hy') ∧ Below W.heap.size W w') := fun W hb => by rw [hhy]; exact HHX.out y W hb
                  clear hhx hhy HHX HS
                  go_wp2
                  go_region_held3 (fun W => W.cell? ⟨bs, os + j, none⟩ = some (.slice pa na ca) ∧ W.cell? ⟨bp, op + i, none⟩ = some (.int .i64 x) ∧ W.cell? ⟨bp, op + k, none⟩ = some (.int .i64 y) ∧ Hid (Below w4.heap.size w4 W)) (first | exact ⟨hcs, hcx, hcy, bl_drew _⟩ | exact ⟨by assumption, by assumption, by assumption, by assumption⟩) (first | (go_at_call 29; (with_reducible refine (HHX1.out _ (bl_drew _)).mono ?_); rintro e w6 ⟨rfl, hb6⟩; have hq1 : World.cell? w6 ⟨bs, os + j, none⟩ = some (.slice pa na ca) := keep_cell hb6 hcs; have hq2 : World.cell? w6 ⟨bp, op + i, none⟩ = some (.int .i64 x) := keep_cell hb6 hcx; have hq3 : World.cell? w6 ⟨bp, op + k, none⟩ = some (.int .i64 y) := keep_cell hb6 hcy; have hq4 : Hid (Below w4.heap.size w4 w6) := bl_trans (bl_drew _) hb6; clear hb6) | (go_at_call 29; (with_reducible refine (HHY1.out _ (by first | exact hq4.out | assumption)).mono ?_); rintro e w7 ⟨rfl, hb7⟩; have hr1 : World.cell? w7 ⟨bs, os + j, none⟩ = some (.slice pa na ca) := keep_cell hb7 hq1; have hr2 : World.cell? w7 ⟨bp, op + i, none⟩ = some (.int .i64 x) := keep_cell hb7 hq2; have hr3 : World.cell? w7 ⟨bp, op + k, none⟩ = some (.int .i64 y) := keep_cell hb7 hq3; have hr4 : Hid (Below w4.heap.size w4 w7) := bl_trans hq4.out hb7; clear hb7))
                  go_wp2
                  go_roundw
                  case rel => exact ⟨hx' == hy', j + 1, by have := HJ.out; omega, rfl, by go_num, bl_trans HB4.out hr4.out, HS2.out⟩
                  case measure => have := HJ.out; simp [intOf]; omega
              · have hjI : (m : Int) ≤ j := by omega
                have hje : j = m := by omega
                have HAL : Hid (s = true ↔ alike (rowsV xs) x y) := by
                  show _ ↔ _
                  rw [HS.out]
                  constructor
                  · intro h l hl
                    obtain ⟨j', hj', e⟩ := List.mem_iff_getElem.1 hl
                    rw [← e, ← gl_get hj']
                    exact h j' (by rw [rowsV_length] at hj'; have := HM.out; omega)
                  · intro h j' hj'
                    exact h _ (gl_mem (by rw [rowsV_length]; have := HM.out; omega))
                have HLW := Lib.hid (bl_trans HB3.out HB4.out)
                rcases HCLS.out with ⟨rfl, hpy, hby⟩ | ⟨rfl, _⟩
                · have hq : ((a : Int) == (b : Int)) = s := by
                    have h1 := HNU.out.tell x y HPT.out hpy
                    rw [← HAX.out, ← hby] at h1
                    cases s with
                    | true =>
                      have := h1.2 (HAL.out.1 rfl)
                      rw [beq_iff_eq]; omega
                    | false =>
                      rw [beq_eq_false_iff_ne]
                      intro e
                      have := HAL.out.2 (h1.1 (by omega))
                      exact absurd this (by decide)
                  clear hpy hby HAL HS HCLS hje
                  go_wp2
                  go_roundw
                  case rel => exact ⟨k + 1, by omega, by go_num, HLW.out⟩
                  case measure => simp [intOf]; omega
                · clear HAL HS HCLS hje
                  go_wp2
                  go_roundw
                  case rel => exact ⟨k + 1, by omega, by go_num, HLW.out⟩
                  case measure => simp [intOf]; omega
          · have hkI : (i : Int) ≤ k := by omega
            go_wp2
            go_roundw
            case rel => exact ⟨i + 1, by have := HIT.out; omega, by go_num, HB2.out⟩
            case measure => have := HIT.out; simp [intOf]; omega
      · have hxc : x < 0 ∨ (0 ≤ x ∧ 1114111 < x) := by
          by_cases h0 : 0 ≤ x
          · right
            refine ⟨h0, ?_⟩
            by_cases h1 : x ≤ 1114111
            · exact absurd ⟨h0, h1⟩ hpt
            · omega
          · left; omega
        clear hpt
        rcases hxc with hx0 | ⟨hx0, hx1⟩
        · have hx1D : decide (0 ≤ x) = false := by simpa using hx0
          go_wp2
          go_loopw [10] (fun kv wr => kv = .int .i64 0 ∧ Hid (Below w.heap.size w wr)) (fun _ _ => 0)
          case atStart => exact ⟨rfl, HB1.out⟩
          case round =>
            obtain ⟨rfl, HB2⟩ := hrel
            rename World => w2
            by_cases h0i : 0 < i
            · have h0D : (0 : Int) < i := by omega
              go_wp2
              go_roundw
              case rel => exact ⟨i + 1, by have := HIT.out; omega, by go_num, HB2.out⟩
              case measure => have := HIT.out; simp [intOf]; omega
            · have h0D : (i : Int) ≤ 0 := by omega
              go_wp2
              go_roundw
              case rel => exact ⟨i + 1, by have := HIT.out; omega, by go_num, HB2.out⟩
              case measure => have := HIT.out; simp [intOf]; omega
        · have hx1D : decide (0 ≤ x) = true := by simpa using hx0
          have hx2D : decide (x ≤ 1114111) = false := by simpa using hx1
          go_wp2
          go_loopw [10] (fun kv wr => kv = .int .i64 0 ∧ Hid (Below w.heap.size w wr)) (fun _ _ => 0)
          case atStart => exact ⟨rfl, HB1.out⟩
          case round =>
            obtain ⟨rfl, HB2⟩ := hrel
            rename World => w2
            by_cases h0i : 0 < i
            · have h0D : (0 : Int) < i := by omega
              go_wp2
              go_roundw
              case rel => exact ⟨i + 1, by have := HIT.out; omega, by go_num, HB2.out⟩
              case measure => have := HIT.out; simp [intOf]; omega
            · have h0D : (i : Int) ≤ 0 := by omega
              go_wp2
              go_roundw
              case rel => exact ⟨i + 1, by have := HIT.out; omega, by go_num, HB2.out⟩
              case measure => have := HIT.out; simp [intOf]; omega
    · have hiI : (t : Int) ≤ i := by omega
      go_wp2
      go_ret
      exact ⟨rfl, HB.out⟩
end Go.Proofs.Ytkcjfgkfhjanpaa
