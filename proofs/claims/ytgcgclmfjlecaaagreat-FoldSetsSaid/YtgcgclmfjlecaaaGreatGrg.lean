/- How great tables are; the chapter's own tables; the law's awake. -/
import Derived.Test.YtgcgclmfjlecaaaGreatGrd
import Derived.Test.YtgcgclmfjlecaaaGreatGq

namespace Go.Proofs.YtgcgclmfjlecaaaGreat
open Go.RowKit Tnr

theorem cast_min (a b : Nat) : ((min a b : Nat) : Int) = min (a : Int) (b : Int) := by
  rw [Nat.min_def, Int.min_def]; split <;> split <;> omega
theorem rangesOf_any (q : Option Addr) (c k : Nat) (w : World) : Calls Tryz.prog 16 #[.slice q k c, .int .i64 120] w fun e w' => e = .returned (.int .i64 ((min k 121 : Nat) : Int)) ∧ w' = w := by
  go_enter Tryz.func16, Tryz.ntmps16
  go_wp2
  go_ret
  exact ⟨by rw [cast_min]; rfl, rfl⟩
/-- small props. -/
def Small (xs : List PV) (k : Nat) : Prop := ∀ j, j < k → (gp xs j).1.size ≤ 1000 ∧ (gp xs j).2.2.2.length ≤ 120

set_option maxHeartbeats 3200000 in
set_option maxRecDepth 100000 in
theorem tablesOf_any (pf pp : Option Addr) (cf cp n m : Nat) (xs : List PV) (w : World) (hm : m = xs.length) (hmI : (m : Int) ≤ 100000000000000) (hp : SlP w pp xs) (hz : ∀ x ∈ xs, x.1.size ≤ 9223372036854775807 ∧ x.2.2.2.length ≤ 9223372036854775807) :
    Calls Tryz.prog 4 #[.agg #[.slice pf n cf, .slice pp m cp], .int .i64 120] w fun e w' => ∃ z : Nat, e = .returned (.int .i64 (z : Nat)) ∧ (z ≤ 120 → m ≤ 120 ∧ Small xs m) ∧ Below w.heap.size w w' := by
  have hb1 : Below w.heap.size w (w.alloc (.cells #[.slice pf n cf, .slice pp m cp] 25)) := bl_alloc _ _
  have hc0 : (w.alloc (.cells #[.slice pf n cf, .slice pp m cp] 25)).cell? ⟨w.heap.size, 0, none⟩ = some (.slice pf n cf) := by rw [World.cell?_alloc_at _ _ _ _ rfl]; rfl
  have hc1 : (w.alloc (.cells #[.slice pf n cf, .slice pp m cp] 25)).cell? ⟨w.heap.size, 1, none⟩ = some (.slice pp m cp) := by rw [World.cell?_alloc_at _ _ _ _ rfl]; rfl
  have HP := Lib.hid (hp.below hb1)
  have HB1 := Lib.hid hb1
  have HM := Lib.hid hm
  have HZ := Lib.hid hz
  clear hp hm hz hb1
  obtain ⟨z0, hz0⟩ : ∃ z0 : Nat, z0 = min n 120 := ⟨_, rfl⟩
  have HZ0 : Hid (z0 ≤ 120) := by rw [hz0]; exact Nat.min_le_right _ _
  obtain ⟨w1, hw1⟩ : ∃ W, W = w.alloc (.cells #[.slice pf n cf, .slice pp m cp] 25) := ⟨_, rfl⟩
  have HZE : Hid (((z0 : Nat) : Int) = min (n : Int) 120) := by rw [hz0]; exact cast_min n 120
  clear hz0
  rw [← hw1] at HP HB1 hc0 hc1
  go_enter Tryz.func4, Tryz.ntmps4
  have hnz : (z0 : Int) ≤ 120 := by have := HZ0.out; omega
  go_wp2
  rw [← hw1]
  clear hw1
  generalize hbt : w.heap.size = bt at hc0 hc1 ⊢
  go_loopw [5, 6] (fun zv iv wr => ∃ (i z r : Nat), i ≤ m ∧ zv = .int .i64 (z : Nat) ∧ iv = .int .i64 (i : Nat) ∧ (z : Int) ≤ 2000000000000000000 ∧ Hid (z ≤ 120 → Small xs i) ∧ Hid (i ≤ z) ∧ wr = w1.drewN r) (fun _ iv _ => m - (intOf iv).toNat)
  case atStart => exact ⟨0, z0, 0, Nat.zero_le _, by rw [HZE.out], rfl, by omega, fun _ j hj => absurd hj (by omega), Nat.zero_le _, rfl⟩
  case round =>
    obtain ⟨i, z, r, hi, rfl, rfl, hzb, HS, HIZ, rfl⟩ := hrel
    by_cases hin : i < m
    · have hiI : (i : Int) < m := by omega
      by_cases hz1 : z ≤ 120
      · have hzI1 : (z : Int) ≤ 120 := by omega
        have hiL : i < xs.length := by have := HM.out; omega
        obtain ⟨bb, o, rfl, hd0, hd1⟩ := slp_at HP.out hiL
        have hszx := HZ.out (gp xs i) (by rw [gp_get hiL]; exact List.getElem_mem _)
        have HSM : Hid ((gp xs i).1.size ≤ 1000 ∧ (gp xs i).2.2.2.length ≤ 120 → Small xs (i + 1)) := fun h j hj => by
          by_cases e : j = i
          · subst e; exact h
          · exact HS.out hz1 j (by omega)
        generalize (gp xs i).1 = nm at *
        generalize (gp xs i).2.1 = q at *
        generalize (gp xs i).2.2.1 = c at *
        obtain ⟨k, hk⟩ : ∃ k, k = (gp xs i).2.2.2.length := ⟨_, rfl⟩
        rw [← hk] at hd1 hszx HSM
        have hsI : (nm.size : Int) ≤ 9223372036854775807 := by have := hszx.1; omega
        have hq1 : (nm.size : Int) / 8 = ((nm.size / 8 : Nat) : Int) := by omega
        have hq2 : (nm.size : Int).tdiv 8 = ((nm.size / 8 : Nat) : Int) := by rw [Int.tdiv_eq_ediv_of_nonneg (by omega)]; exact hq1
        obtain ⟨q8, hq8⟩ : ∃ q8, q8 = nm.size / 8 := ⟨_, rfl⟩
        rw [← hq8] at hq1 hq2
        have hq9 : (q8 : Int) ≤ 1152921504606846976 := by omega
        obtain ⟨k1, hk1⟩ : ∃ k1, k1 = min k 121 := ⟨_, rfl⟩
        have hk2 : (k1 : Int) ≤ 121 := by rw [hk1]; have := Nat.min_le_right k 121; omega
        have HRO : Hid (∀ s, Calls Tryz.prog 16 #[.slice q k c, .int .i64 120] (w1.drewN s) fun e w' => e = .returned (.int .i64 (k1 : Nat)) ∧ w' = w1.drewN s) := fun s => by
          rw [hk1]; exact rangesOf_any q c k _
        have HF : Hid (z + 1 + q8 + k1 ≤ 120 → Small xs (i + 1)) := fun h => HSM.out ⟨by omega, by rw [hk1] at h; omega⟩
        have HI := Lib.hid hin
        have HZ1 := Lib.hid hz1
        clear hszx hk hk1 hq8
        have hw1a : IntKind.i64.wrap ((z : Int) + 1) = (z : Int) + 1 := by rw [IntKind.wrap_i64]; omega
        have hw1b : IntKind.i64.wrap ((z : Int) + 1 + (q8 : Int)) = (z : Int) + 1 + (q8 : Int) := by rw [IntKind.wrap_i64]; omega
        have hw1c : IntKind.i64.wrap ((z : Int) + 1 + (q8 : Int) + (k1 : Int)) = (z : Int) + 1 + (q8 : Int) + (k1 : Int) := by rw [IntKind.wrap_i64]; omega
        have HIZ2 : Hid (i + 1 ≤ z + 1 + q8 + k1) := by have := HIZ.out; show _ ≤ _; omega
        have hzb2 : ((z + 1 + q8 + k1 : Nat) : Int) ≤ 2000000000000000000 := by omega
        go_wp2
        go_quiet (first | (go_at_call 16; with_reducible exact (HRO.out _).mono fun _ _ h => ⟨h.1, _, h.2⟩))
        go_wp2
        go_roundw
        case rel => exact ⟨i + 1, z + 1 + q8 + k1, _, by have := HI.out; omega, by simp, by go_num, hzb2, HF.out, HIZ2.out, by first | rfl | exact World.drewN_drewN _ _ _⟩
        case measure => have := HI.out; simp [intOf]; omega
      · have hzI1 : ¬ ((z : Int) ≤ 120) := by omega
        have HBB : Hid (Below bt w (w1.drewN r)) := by rw [← hbt]; exact bl_trans HB1.out (drewN_below _ _)
        go_wp2
        go_ret
        exact ⟨z, rfl, fun h => absurd h hz1, HBB.out⟩
    · have hiI : ¬ ((i : Int) < m) := by omega
      have hin2 : i = m := by omega
      have HFI : Hid (z ≤ 120 → m ≤ 120 ∧ Small xs m) := fun h => ⟨by have := HIZ.out; omega, by rw [← hin2]; exact HS.out h⟩
      have HBB : Hid (Below bt w (w1.drewN r)) := by rw [← hbt]; exact bl_trans HB1.out (drewN_below _ _)
      go_wp2
      go_ret
      exact ⟨z, rfl, HFI.out, HBB.out⟩
end Go.Proofs.YtgcgclmfjlecaaaGreat
