/- The walk of great: are numbers more than is gone through in time? -/
import Derived.Test.YtcahnkocfbcchaaGreatDoorWs

namespace Go.Proofs.YtcahnkocfbcchaaGreatDoor
open Go.RowKit Tnd

set_option maxRecDepth 100000 in
theorem great_any (p : Option Addr) (c : Nat) (L : List (List Nat)) (w : World) (hin : NatsIn w w.heap.size p L) (hL : L.length ≤ 1000000000) (ht : tot L ≤ 1000000000000000000) :
    Calls Tryz.prog 6 #[.slice p L.length c] w fun e w' => e = .returned (.bool (decide (60 < L.length + tot L))) ∧ ∃ n, w' = w.drewN n := by
  have HI := Lib.hid hin
  have HL := Lib.hid hL
  have HT := Lib.hid ht
  clear hin hL ht
  go_enter Tryz.func6, Tryz.ntmps6
  go_wp2
  go_loopw [3, 4] (fun v i wr => ∃ (k n : Nat) (m : Nat), k ≤ L.length ∧ i = .int .i64 k ∧ v = .int .i64 m ∧ Hid (m = k + tot (L.take k)) ∧ wr = w.drewN n) (fun _ i _ => L.length - (intOf i).toNat)
  case atStart => exact ⟨0, 0, 0, by omega, rfl, rfl, by show 0 = 0 + tot (L.take 0); simp [tot], rfl⟩
  case round =>
    obtain ⟨k, n, m, hk, rfl, rfl, HM, rfl⟩ := hrel
    have htk2 := tot_take L k
    by_cases hk1 : k < L.length
    · by_cases hm : m ≤ 60
      · obtain ⟨b, off, rfl, q, ck, hck⟩ : ∃ b off, p = some ⟨b, off, none⟩ ∧ ∃ q ck, w.cell? ⟨b, off + k, none⟩ = some (.slice q (gl L k).length ck) := by
          rcases HI.out with h | ⟨b, off, h1, _, h3⟩
          · subst h; simp at hk1
          · obtain ⟨q, ck, h4, _⟩ := h3 k hk1
            exact ⟨b, off, h1, q, ck, h4⟩
        have htk := tot_step hk1
        have htk3 := tot_take L (k + 1)
        have hyb : (gl L k).length ≤ 1000000000000000000 := by have := HT.out; omega
        have HM2 : Hid (m + 1 + (gl L k).length = k + 1 + tot (L.take (k + 1))) := by
          show _ = _
          rw [htk, HM.out]; omega
        generalize (gl L k).length = y at *
        have hkb : (k : Int) ≤ 9223372036854775000 := by have := HL.out; omega
        have y1 : (y : Int) ≤ 9223372036854775000 := by omega
        clear htk htk2 htk3 hyb
        go_wp2
        go_roundw
        case rel => exact ⟨k + 1, _, m + 1 + y, by omega, by go_num, by go_num, HM2, rfl⟩
        case measure => simp [intOf]; omega
      · have HD := Lib.hid (show decide (60 < L.length + tot L) = true by rw [decide_eq_true_iff]; have := HM.out; omega)
        clear htk2
        go_wp2
        go_ret
        exact ⟨by rw [HD.out]; first | (simp; done) | (simp; omega), _, rfl⟩
    · obtain rfl : k = L.length := by omega
      have HD := Lib.hid (show m = L.length + tot L by have h := HM.out; rw [List.take_length] at h; exact h)
      clear htk2
      go_wp2
      go_ret
      exact ⟨by rw [← HD.out]; first | (simp; done) | (simp; omega), _, rfl⟩
end Go.Proofs.YtcahnkocfbcchaaGreatDoor
