/- The walks of the kit's RangesOf, RangeRowsOf, SameRangeRows, Pick. -/
import Derived.Test.YtkcjfgkfhjanpaaGreatQn
import Derived.Deep.RegionHeld3
namespace Go.Proofs.YtkcjfgkfhjanpaaGreat
open Go.RowKit Tnr

theorem keep_cell {w w' : World} {a : Addr} {v : Value} (hb : Below w.heap.size w w') (h : w.cell? a = some v) : w'.cell? a = some v := by rw [hb.cell (World.block_lt_of_cell? w _ h)]; exact h
theorem samek (p q : Option Addr) (c d m : Nat) (l : List R) (w : World) (hm : m = l.length) (hp : SlR w p l) (hq : SlR w q l) (hl : l.length ≤ 100000) :
    Calls Tryz.prog 20 #[.slice p m c, .slice q m d] w fun e w' => e = .returned (.bool true) ∧ Below w.heap.size w w' := by
  subst hm
  have h := same_any p q c d l l w hp hq (by omega) (by omega)
  rw [decide_eq_true rfl] at h
  exact h.mono fun e w' ⟨h1, n, h2⟩ => ⟨h1, by rw [← h2]; exact drewN_below _ _⟩

theorem rows_eq {xs ys : List SV} (h : rowsV xs = rowsV ys) : xs.length = ys.length ∧ ∀ i, i < xs.length → (gs xs i).2.2 = (gs ys i).2.2 := by
  have hl : xs.length = ys.length := by rw [← rowsV_length xs, h, rowsV_length]
  refine ⟨hl, fun i hi => ?_⟩
  rw [← rowsV_gl hi, ← rowsV_gl (by omega), h]
set_option maxHeartbeats 800000 in
set_option maxRecDepth 100000 in
theorem rangesOf_any (p : Option Addr) (c n : Nat) (w : World) (hn : n ≤ 4000000000000000) :
    Calls Tryz.prog 5 #[.slice p n c, .int .i64 150] w fun e w' => ∃ k : Nat, e = .returned (.int .i64 (k : Nat)) ∧ k ≤ 151 ∧ (k ≤ 150 → k = n) ∧ w = w' := by
  have hnI : (n : Int) ≤ 4000000000000000 := by omega
  go_enter Tryz.func5, Tryz.ntmps5
  go_wp2
  go_ret
  refine ⟨min n 151, ?_, by omega, by omega, rfl⟩
  show Ending.returned (Value.int .i64 (min (n : Int) 151)) = .returned (.int .i64 ((min n 151 : Nat) : Int))
  rw [show ((min n 151 : Nat) : Int) = min (n : Int) 151 by omega]

set_option maxHeartbeats 1600000 in
set_option maxRecDepth 100000 in
theorem rangeRowsOf_bd (p : Option Addr) (c m : Nat) (xs : List SV) (w : World) (hm : m = xs.length) (hx : SlS w p xs) (hl : xs.length ≤ 1000000000000000) (hle : ∀ x ∈ xs, x.2.2.length ≤ 4000000000000000) :
    Calls Tryz.prog 4 #[.slice p m c, .int .i64 150] w fun e w' => ∃ z : Nat, e = .returned (.int .i64 (z : Nat)) ∧ z ≤ 400 ∧ (z ≤ 150 → xs.length + (flat xs).length ≤ 150) ∧ w = w' := by
  have HX := Lib.hid hx
  have HM := Lib.hid hm
  have HLE := Lib.hid hle
  have hmI : (m : Int) ≤ 1000000000000000 := by omega
  clear hx hm hle hl
  go_enter Tryz.func4, Tryz.ntmps4
  go_wp2
  go_loopw [5, 6] (fun nv iv wr => ∃ s k : Nat, k ≤ m ∧ s ≤ 400 ∧ nv = .int .i64 (s : Nat) ∧ iv = .int .i64 (k : Nat) ∧ Hid (s ≤ 150 → s = k + (flat (xs.take k)).length) ∧ wr = w) (fun _ iv _ => m - (intOf iv).toNat)
  case atStart => exact ⟨0, 0, Nat.zero_le _, by omega, rfl, rfl, fun _ => by simp [flat], rfl⟩
  case round =>
    obtain ⟨s, k, hk, hs, rfl, rfl, HE, rfl⟩ := hrel
    by_cases hkm : k < m
    · have hkI : (k : Int) < m := by omega
      by_cases hs1 : s ≤ 150
      · have hsI : (s : Int) ≤ 150 := by omega
        have hkx : k < xs.length := by have := HM.out; omega
        obtain ⟨b, o, rfl, hc⟩ := sls_at HX.out hkx
        have hg := HLE.out (gs xs k) (by rw [gs_get hkx]; exact List.getElem_mem hkx)
        have HT : Hid ((flat (xs.take (k + 1))).length = (flat (xs.take k)).length + (gs xs k).2.2.length) := by
          show _ = _
          rw [take_gs hkx, flat_append, List.length_append]
          have e : flat [gs xs k] = (gs xs k).2.2 := by simp [flat]
          rw [e]
        obtain ⟨t, ht⟩ : ∃ t, t = (gs xs k).2.2.length := ⟨_, rfl⟩
        rw [← ht] at hc hg HT
        have HR := Lib.hid (rangesOf_any (gs xs k).1 (gs xs k).2.1 t wr hg)
        clear ht hkx
        go_wp2_with fail
        refine HR.out.mono ?_
        clear HR
        rintro e w2 ⟨q, rfl, hq1, hq2, rfl⟩
        have HQ := Lib.hid hq2
        have hqI : (q : Int) ≤ 151 := by omega
        clear hq2 hc
        go_wp2
        go_roundw
        case rel =>
          refine ⟨s + 1 + q, k + 1, by omega, by omega, by go_num, by go_num, fun h => ?_, trivial⟩
          have h1 := HQ.out (by omega)
          have h2 := HE.out hs1
          have h3 := HT.out
          omega
        case measure => simp [intOf]; omega
      · have hsI : 150 < (s : Int) := by omega
        go_wp2
        go_ret
        exact ⟨s, rfl, hs, fun h => absurd h hs1, rfl⟩
    · have hkI : (m : Int) ≤ k := by omega
      have HF : Hid (s ≤ 150 → xs.length + (flat xs).length ≤ 150) := by
        intro h
        have h1 := HE.out h
        rw [List.take_of_length_le (by have := HM.out; omega)] at h1
        have := HM.out
        omega
      go_wp2
      go_ret
      exact ⟨s, rfl, hs, HF.out, rfl⟩
theorem rangeRowsOf_any (p : Option Addr) (c m : Nat) (xs : List SV) (w : World) (hm : m = xs.length) (hx : SlS w p xs) (hl : xs.length ≤ 1000000000000000) (hle : ∀ x ∈ xs, x.2.2.length ≤ 4000000000000000) :
    Calls Tryz.prog 4 #[.slice p m c, .int .i64 150] w fun e w' => ∃ z : Nat, e = .returned (.int .i64 (z : Nat)) ∧ (z ≤ 150 → xs.length + (flat xs).length ≤ 150) ∧ w = w' := by
  refine (rangeRowsOf_bd p c m xs w hm hx hl hle).mono ?_
  rintro e w' ⟨z, h1, _, h2, h3⟩
  exact ⟨z, h1, h2, h3⟩

theorem tmod_range (x n : Int) (h : 0 < n) : -n < Int.tmod x n ∧ Int.tmod x n < n := by
  have h1 := Int.tmod_lt_of_pos x h
  refine ⟨?_, h1⟩
  have h2 := Int.tmod_lt_of_pos (-x) h
  rw [Int.neg_tmod] at h2
  omega
end Go.Proofs.YtkcjfgkfhjanpaaGreat
