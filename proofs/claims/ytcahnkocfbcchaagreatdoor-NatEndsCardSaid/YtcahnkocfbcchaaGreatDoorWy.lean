/- The walk of great: are numbers more than is gone through in time? -/
/- The walk of Pow below zero: no number, and the error of a wrong argument. -/
import Derived.Test.YtcahnkocfbcchaaGreatDoorWv

namespace Go.Proofs.YtcahnkocfbcchaaGreatDoor
open Go.RowKit Tnd

set_option maxRecDepth 100000 in
theorem great_any (p : Option Addr) (c : Nat) (L : List (List Nat)) (w : World) (hin : NatsIn w w.heap.size p L) (hL : L.length ≤ 1000000000) (ht : tot L ≤ 1000000000000000000) :
    Calls Tryz.prog 6 #[.slice p L.length c] w fun e w' => e = .returned (.bool (decide (60 < L.length + tot L))) ∧ ∃ n, w' = w.drewN n := by
  have HI := Lib.hid hin
  have HL := Lib.hid hL
  have HT := Lib.hid ht
  clear hin hL ht
  go_enter Tryz.func6, Tryz.ntmps6
  go_wp2
  go_loopw [3, 4] (fun v i wr => ∃ (k n : Nat) (m : Nat), k ≤ L.length ∧ i = .int .i64 k ∧ v = .int .i64 m ∧ Hid (m = k + tot (L.take k)) ∧ wr = w.drewN n) (fun _ i _ => L.length - (intOf i).toNat)
  case atStart => exact ⟨0, 0, 0, by omega, rfl, rfl, by show 0 = 0 + tot (L.take 0); simp [tot], rfl⟩
  case round =>
    obtain ⟨k, n, m, hk, rfl, rfl, HM, rfl⟩ := hrel
    have htk2 := tot_take L k
    by_cases hk1 : k < L.length
    · by_cases hm : m ≤ 60
      · obtain ⟨b, off, rfl, q, ck, hck⟩ : ∃ b off, p = some ⟨b, off, none⟩ ∧ ∃ q ck, w.cell? ⟨b, off + k, none⟩ = some (.slice q (gl L k).length ck) := by
          rcases HI.out with h | ⟨b, off, h1, _, h3⟩
          · subst h; simp at hk1
          · obtain ⟨q, ck, h4, _⟩ := h3 k hk1
            exact ⟨b, off, h1, q, ck, h4⟩
        have htk := tot_step hk1
        have htk3 := tot_take L (k + 1)
        have hyb : (gl L k).length ≤ 1000000000000000000 := by have := HT.out; omega
        have HM2 : Hid (m + 1 + (gl L k).length = k + 1 + tot (L.take (k + 1))) := by
          show _ = _
          rw [htk, HM.out]; omega
        generalize (gl L k).length = y at *
        have hkb : (k : Int) ≤ 9223372036854775000 := by have := HL.out; omega
        have y1 : (y : Int) ≤ 9223372036854775000 := by omega
        clear htk htk2 htk3 hyb
        go_wp2
        go_roundw
        case rel => exact ⟨k + 1, _, m + 1 + y, by omega, by go_num, by go_num, HM2, rfl⟩
        case measure => simp [intOf]; omega
      · have HD := Lib.hid (show decide (60 < L.length + tot L) = true by rw [decide_eq_true_iff]; have := HM.out; omega)
        clear htk2
        go_wp2
        go_ret
        exact ⟨by rw [HD.out]; first | (simp; done) | (simp; omega), _, rfl⟩
    · obtain rfl : k = L.length := by omega
      have HD := Lib.hid (show m = L.length + tot L by have h := HM.out; rw [List.take_length] at h; exact h)
      clear htk2
      go_wp2
      go_ret
      exact ⟨by rw [← HD.out]; first | (simp; done) | (simp; omega), _, rfl⟩
end Go.Proofs.YtcahnkocfbcchaaGreatDoor


namespace Go.Proofs.YtcahnkocfbcchaaGreatDoor
open Go.RowKit Tnd

set_option maxRecDepth 100000 in
theorem pow_neg (p : Option Addr) (l c : Nat) (n : Int) (w : World) (hn : n < 0) :
    Calls Tryz.prog 24 #[.agg #[.slice p l c], .int .i64 n] w fun e w' => e = .returned (.tuple #[.agg #[.slice none 0 0], .int .i64 2]) ∧ Below w.heap.size w w' := by
  obtain ⟨w0, hw0⟩ : ∃ w0, w0 = (w.alloc (.cells #[.slice p l c] 24)).alloc (.cells #[.slice none 0 0] 24) := ⟨_, rfl⟩
  have hB0 : Below w.heap.size w w0 := by subst hw0; exact ((Below.refl _ _).alloc (Nat.le_refl _) _).alloc (by simp) _
  have hR0 : w0.heap[w.heap.size + 1]? = some (.cells #[.slice none 0 0] 24 (0, 0)) := by
    subst hw0
    have h := heap_alloc_new (w.alloc (.cells #[.slice p l c] 24)) (.cells #[.slice none 0 0] 24)
    simpa using h
  have hcr := cell_of_one hR0
  have hfr := free_of_one hR0
  have HB0 := Lib.hid hB0
  have HW0 := Lib.hid hw0
  clear hB0 hR0 hw0
  go_enter Tryz.func24, Tryz.ntmps24
  go_wp2_with (rw [← HW0.out])
  refine bodyPost_ret (v := .tuple #[.agg #[.slice none 0 0], .int .i64 2]) (by simp [results, Tryz.results24, go_sem, hcr]) rfl ?_
  exact ⟨rfl, HB0.out.setCell (by simp) _⟩
end Go.Proofs.YtcahnkocfbcchaaGreatDoor

