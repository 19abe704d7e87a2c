/- The walks of the kit's RangesOf, RangeRowsOf, SameRangeRows, Pick. -/
import Derived.Test.YtildfjlaieaadaaGreatQn
import Derived.Deep.RegionHeld3

namespace Go.Proofs.YtildfjlaieaadaaGreat
open Go.RowKit Tnr

theorem keep_cell {w w' : World} {a : Addr} {v : Value} (hb : Below w.heap.size w w') (h : w.cell? a = some v) : w'.cell? a = some v := by rw [hb.cell (World.block_lt_of_cell? w _ h)]; exact h
theorem samek (p q : Option Addr) (c d m : Nat) (l : List R) (w : World) (hm : m = l.length) (hp : SlR w p l) (hq : SlR w q l) (hl : l.length ≤ 100000) :
    Calls Tryz.prog 6 #[.slice p m c, .slice q m d] w fun e w' => e = .returned (.bool true) ∧ Below w.heap.size w w' := by
  subst hm
  have h := same_any p q c d l l w hp hq (by omega) (by omega)
  rw [decide_eq_true rfl] at h
  exact h.mono fun e w' ⟨h1, n, h2⟩ => ⟨h1, by rw [← h2]; exact drewN_below _ _⟩

set_option maxHeartbeats 3200000 in
set_option maxRecDepth 100000 in
theorem sameRows_any (p q : Option Addr) (c d n : Nat) (xs ys : List SV) (w : World) (hn : n = xs.length) (hy : n = ys.length) (hx : SlS w p xs) (hyy : SlS w q ys) (he : ∀ i, i < n → (gs xs i).2.2 = (gs ys i).2.2) (hl : ∀ i, i < n → (gs xs i).2.2.length ≤ 100000) (hnm : n ≤ 100000) :
    Calls Tryz.prog 14 #[.slice p n c, .slice q n d] w fun e w' => e = .returned (.bool true) ∧ Below w.heap.size w w' := by
  have HX := Lib.hid hx
  have HYY := Lib.hid hyy
  have HN := Lib.hid hn
  have HY := Lib.hid hy
  have HE := Lib.hid he
  have HL := Lib.hid hl
  have hnI : (n : Int) ≤ 100000 := by omega
  clear hx hyy hn hy he hl hnm
  go_enter Tryz.func14, Tryz.ntmps14
  go_wp2
  go_loopw [5] (fun iv wr => ∃ (k : Nat), k ≤ n ∧ iv = .int .i64 (k : Nat) ∧ Hid (Below w.heap.size w wr)) (fun iv _ => n - (intOf iv).toNat)
  case atStart => exact ⟨0, Nat.zero_le _, rfl, Below.refl _ _⟩
  case round =>
    obtain ⟨k, hk, rfl, HB⟩ := hrel
    rename World => wr
    by_cases hkn : k < n
    · have hkI : (k : Int) < n := by omega
      have hkx : k < xs.length := by have := HN.out; omega
      have hky : k < ys.length := by have := HY.out; omega
      obtain ⟨bp, op, rfl, hcp⟩ := sls_at (HX.out.below HB.out) hkx
      obtain ⟨bq, oq, rfl, hcq⟩ := sls_at (HYY.out.below HB.out) hky
      have hA := HX.out.1 (gs xs k) (by rw [gs_get hkx]; exact List.getElem_mem hkx)
      have hB := HYY.out.1 (gs ys k) (by rw [gs_get hky]; exact List.getElem_mem hky)
      have hee := HE.out k hkn
      have hll := HL.out k hkn
      obtain ⟨⟨pa, ca, la⟩, hga⟩ : ∃ x, x = gs xs k := ⟨_, rfl⟩
      obtain ⟨⟨pb, cb, lb⟩, hgb⟩ : ∃ x, x = gs ys k := ⟨_, rfl⟩
      rw [← hga] at hcp hA hee hll
      rw [← hgb] at hcq hB hee
      simp only at hcp hcq hA hB hee hll
      subst hee
      obtain ⟨m, hm⟩ : ∃ m, m = la.length := ⟨_, rfl⟩
      rw [← hm] at hcp hcq
      have HSAME : Hid (∀ W : World, Below wr.heap.size wr W → Calls Tryz.prog 6 #[.slice pa m ca, .slice pb m cb] W fun e w' => e = .returned (.bool true) ∧ Below W.heap.size W w') :=
        fun W hb => samek pa pb ca cb m la W hm ((hA.below HB.out).below hb) ((hB.below HB.out).below hb) hll
      have HK := Lib.hid hkn
      clear hga hgb hm hA hB hll hkn hkx hky
      go_wp2
      go_region_held3 (fun W => W.cell? ⟨bp, op + k, none⟩ = some (.slice pa m ca) ∧ W.cell? ⟨bq, oq + k, none⟩ = some (.slice pb m cb) ∧ Hid (Below wr.heap.size wr W)) (first | exact ⟨hcp, hcq, bl_drew _⟩ | exact ⟨by assumption, by assumption, by assumption⟩) (first | (go_at_call 6; (with_reducible refine (HSAME.out _ (bl_drew _)).mono ?_); rintro e w6 ⟨rfl, hb6⟩; have hq1 : World.cell? w6 ⟨bp, op + k, none⟩ = some (.slice pa m ca) := keep_cell hb6 hcp; have hq2 : World.cell? w6 ⟨bq, oq + k, none⟩ = some (.slice pb m cb) := keep_cell hb6 hcq; have hq3 : Hid (Below wr.heap.size wr w6) := bl_trans (bl_drew _) hb6; clear hb6))
      go_wp2
      go_roundw
      case rel => exact ⟨k + 1, by have := HK.out; omega, by go_num, bl_trans HB.out hq3.out⟩
      case measure => have := HK.out; simp [intOf]; omega
    · have hkI : (n : Int) ≤ k := by omega
      go_wp2
      go_ret
      exact ⟨rfl, HB.out⟩

theorem rows_eq {xs ys : List SV} (h : rowsV xs = rowsV ys) : xs.length = ys.length ∧ ∀ i, i < xs.length → (gs xs i).2.2 = (gs ys i).2.2 := by
  have hl : xs.length = ys.length := by rw [← rowsV_length xs, h, rowsV_length]
  refine ⟨hl, fun i hi => ?_⟩
  rw [← rowsV_gl hi, ← rowsV_gl (by omega), h]
theorem sameRows_eq (p q : Option Addr) (c d n : Nat) (xs ys : List SV) (w : World) (hn : n = xs.length) (h : rowsV xs = rowsV ys) (hx : SlS w p xs) (hy : SlS w q ys) (hf : (flat xs).length ≤ 100000) (hnm : n ≤ 100000) :
    Calls Tryz.prog 14 #[.slice p n c, .slice q n d] w fun e w' => e = .returned (.bool true) ∧ Below w.heap.size w w' := by
  obtain ⟨h1, h2⟩ := rows_eq h
  exact sameRows_any p q c d n xs ys w hn (by omega) hx hy (fun i hi => h2 i (by omega)) (fun i hi => by have := flat_one_le (show i < xs.length by omega); omega) hnm

set_option maxHeartbeats 800000 in
set_option maxRecDepth 100000 in
theorem rangesOf_any (p : Option Addr) (c n : Nat) (w : World) (hn : n ≤ 4000000000000000) :
    Calls Tryz.prog 17 #[.slice p n c, .int .i64 150] w fun e w' => ∃ k : Nat, e = .returned (.int .i64 (k : Nat)) ∧ k ≤ 151 ∧ (k ≤ 150 → k = n) ∧ w = w' := by
  have hnI : (n : Int) ≤ 4000000000000000 := by omega
  go_enter Tryz.func17, Tryz.ntmps17
  go_wp2
  go_ret
  refine ⟨min n 151, ?_, by omega, by omega, rfl⟩
  show Ending.returned (Value.int .i64 (min (n : Int) 151)) = .returned (.int .i64 ((min n 151 : Nat) : Int))
  rw [show ((min n 151 : Nat) : Int) = min (n : Int) 151 by omega]

set_option maxHeartbeats 1600000 in
set_option maxRecDepth 100000 in
theorem rangeRowsOf_bd (p : Option Addr) (c m : Nat) (xs : List SV) (w : World) (hm : m = xs.length) (hx : SlS w p xs) (hl : xs.length ≤ 1000000000000000) (hle : ∀ x ∈ xs, x.2.2.length ≤ 4000000000000000) :
    Calls Tryz.prog 11 #[.slice p m c, .int .i64 150] w fun e w' => ∃ z : Nat, e = .returned (.int .i64 (z : Nat)) ∧ z ≤ 400 ∧ (z ≤ 150 → xs.length + (flat xs).length ≤ 150) ∧ w = w' := by
  have HX := Lib.hid hx
  have HM := Lib.hid hm
  have HLE := Lib.hid hle
  have hmI : (m : Int) ≤ 1000000000000000 := by omega
  clear hx hm hle hl
  go_enter Tryz.func11, Tryz.ntmps11
  go_wp2
  go_loopw [5, 6] (fun nv iv wr => ∃ s k : Nat, k ≤ m ∧ s ≤ 400 ∧ nv = .int .i64 (s : Nat) ∧ iv = .int .i64 (k : Nat) ∧ Hid (s ≤ 150 → s = k + (flat (xs.take k)).length) ∧ wr = w) (fun _ iv _ => m - (intOf iv).toNat)
  case atStart => exact ⟨0, 0, Nat.zero_le _, by omega, rfl, rfl, fun _ => by simp [flat], rfl⟩
  case round =>
    obtain ⟨s, k, hk, hs, rfl, rfl, HE, rfl⟩ := hrel
    by_cases hkm : k < m
    · have hkI : (k : Int) < m := by omega
      by_cases hs1 : s ≤ 150
      · have hsI : (s : Int) ≤ 150 := by omega
        have hkx : k < xs.length := by have := HM.out; omega
        obtain ⟨b, o, rfl, hc⟩ := sls_at HX.out hkx
        have hg := HLE.out (gs xs k) (by rw [gs_get hkx]; exact List.getElem_mem hkx)
        have HT : Hid ((flat (xs.take (k + 1))).length = (flat (xs.take k)).length + (gs xs k).2.2.length) := by
          show _ = _
          rw [take_gs hkx, flat_append, List.length_append]
          have e : flat [gs xs k] = (gs xs k).2.2 := by simp [flat]
          rw [e]
        obtain ⟨t, ht⟩ : ∃ t, t = (gs xs k).2.2.length := ⟨_, rfl⟩
        rw [← ht] at hc hg HT
        have HR := Lib.hid (rangesOf_any (gs xs k).1 (gs xs k).2.1 t wr hg)
        clear ht hkx
        go_wp2_with fail
        refine HR.out.mono ?_
        clear HR
        rintro e w2 ⟨q, rfl, hq1, hq2, rfl⟩
        have HQ := Lib.hid hq2
        have hqI : (q : Int) ≤ 151 := by omega
        clear hq2 hc
        go_wp2
        go_roundw
        case rel =>
          refine ⟨s + 1 + q, k + 1, by omega, by omega, by go_num, by go_num, fun h => ?_, trivial⟩
          have h1 := HQ.out (by omega)
          have h2 := HE.out hs1
          have h3 := HT.out
          omega
        case measure => simp [intOf]; omega
      · have hsI : 150 < (s : Int) := by omega
        go_wp2
        go_ret
        exact ⟨s, rfl, hs, fun h => absurd h hs1, rfl⟩
    · have hkI : (m : Int) ≤ k := by omega
      have HF : Hid (s ≤ 150 → xs.length + (flat xs).length ≤ 150) := by
        intro h
        have h1 := HE.out h
        rw [List.take_of_length_le (by have := HM.out; omega)] at h1
        have := HM.out
        omega
      go_wp2
      go_ret
      exact ⟨s, rfl, hs, HF.out, rfl⟩
theorem rangeRowsOf_any (p : Option Addr) (c m : Nat) (xs : List SV) (w : World) (hm : m = xs.length) (hx : SlS w p xs) (hl : xs.length ≤ 1000000000000000) (hle : ∀ x ∈ xs, x.2.2.length ≤ 4000000000000000) :
    Calls Tryz.prog 11 #[.slice p m c, .int .i64 150] w fun e w' => ∃ z : Nat, e = .returned (.int .i64 (z : Nat)) ∧ (z ≤ 150 → xs.length + (flat xs).length ≤ 150) ∧ w = w' := by
  refine (rangeRowsOf_bd p c m xs w hm hx hl hle).mono ?_
  rintro e w' ⟨z, h1, _, h2, h3⟩
  exact ⟨z, h1, h2, h3⟩

theorem tmod_range (x n : Int) (h : 0 < n) : -n < Int.tmod x n ∧ Int.tmod x n < n := by
  have h1 := Int.tmod_lt_of_pos x h
  refine ⟨?_, h1⟩
  have h2 := Int.tmod_lt_of_pos (-x) h
  rw [Int.neg_tmod] at h2
  omega
end Go.Proofs.YtildfjlaieaadaaGreat
