/- The walk of KeptInts. -/
import Derived.Test.YtkpkhjflelmdjaaYa
namespace Go.Proofs.Ytkpkhjflelmdjaa
open Go.RowKit Tnd

set_option maxHeartbeats 3200000 in
set_option maxRecDepth 100000 in
theorem kept_any (p : Option Addr) (cp : Nat) (l : List Int) (B g cap : Nat) (w : World) (hp : SlI w p l) (hl : l.length ≤ 3000) (ho : OwnI w B (.slice (some ⟨g, 0, none⟩) (l.length + 12) cap) (l ++ marks 12)) (hcap : l.length + 12 ≤ cap) (hcm : cap ≤ 9223372036854775807) :
    Calls Try.prog 12 #[.slice (some ⟨g, 0, none⟩) l.length cap, .slice p l.length cp] w fun e w' => e = .returned (.bool true) ∧ Below w.heap.size w w' := by
  obtain ⟨n, hn⟩ : ∃ n, n = l.length := ⟨_, rfl⟩
  rw [← hn] at ho hcap ⊢
  have hnI : (n : Int) ≤ 3000 := by omega
  have hcI : (n : Int) + 12 ≤ (cap : Int) := by omega
  have hcJ : (cap : Int) ≤ 9223372036854775807 := by omega
  have HN := Lib.hid hn
  have HP := Lib.hid hp
  have HO := Lib.hid ho
  clear hp hn hl hcap hcm ho
  go_enter Try.func12, Try.ntmps12
  go_wp2
  go_loopw [6] (fun iv wr => ∃ (k r : Nat), k ≤ n + 12 ∧ iv = .int .i64 (k : Nat) ∧ wr = w.drewN r) (fun iv _ => n + 12 - (intOf iv).toNat)
  case atStart => exact ⟨0, 0, Nat.zero_le _, rfl, rfl⟩
  case round =>
    obtain ⟨k, r, hk, rfl, rfl⟩ := hrel
    by_cases hkn : k < n
    · obtain ⟨b1, o1, rfl, hc1⟩ : ∃ b off, p = some ⟨b, off, none⟩ ∧ w.cell? ⟨b, off + k, none⟩ = some (.int .i64 (gi l k)) := by
        have hkl : k < l.length := by have := HN.out; omega
        rcases HP.out with h | ⟨b, off, h1, h2⟩
        · rw [h] at hkl; simp at hkl
        · exact ⟨b, off, h1, h2 k hkl⟩
      have hc2 : w.cell? ⟨g, k, none⟩ = some (.int .i64 (gi l k)) := by
        rw [ownI_cell HO.out (by rw [List.length_append, marks_length, ← HN.out]) k (by omega), gi_front (by have := HN.out; omega)]
      obtain ⟨x, hx⟩ : ∃ x, x = gi l k := ⟨_, rfl⟩
      rw [← hx] at hc1 hc2
      clear hx
      have hkI : (k : Int) < n := by omega
      have hkJ : (k : Int) < (n : Int) + 12 := by omega
      have hge : decide ((n : Int) ≤ k) = false := by rw [decide_eq_false_iff_not]; omega
      have hlt : decide ((k : Int) < n) = true := by rw [decide_eq_true_iff]; omega
      have hltN : decide (k < n) = true := by rw [decide_eq_true_iff]; omega
      have hgeN : decide (n ≤ k) = false := by rw [decide_eq_false_iff_not]; omega
      clear hkn
      go_wp2
      go_quiet (fail)
      go_wp2
      go_roundw
      case rel => exact ⟨k + 1, r + nq, by omega, by go_num, by first | rfl | exact World.drewN_drewN _ _ _⟩
      case measure => simp [intOf]; omega
    · by_cases hk12 : k < n + 12
      · have hc2 : w.cell? ⟨g, k, none⟩ = some (.int .i64 (8000024 + ((k : Int) - n))) := by
          rw [ownI_cell HO.out (by rw [List.length_append, marks_length, ← HN.out]) k (by omega), gi_marks (by have := HN.out; omega) (by have := HN.out; omega), ← HN.out]
        have hkI : (n : Int) ≤ k := by omega
        have hkJ : (k : Int) < (n : Int) + 12 := by omega
        have hge : decide ((n : Int) ≤ k) = true := by rw [decide_eq_true_iff]; omega
        have hlt : decide ((k : Int) < n) = false := by rw [decide_eq_false_iff_not]; omega
        have hltN : decide (k < n) = false := by rw [decide_eq_false_iff_not]; omega
        have hgeN : decide (n ≤ k) = true := by rw [decide_eq_true_iff]; omega
        have hd0 : (0 : Int) ≤ (k : Int) - n := by omega
        have hd1 : (k : Int) - n ≤ 100 := by omega
        clear hkn
        go_wp2
        have hwr : IntKind.i64.wrap ((k : Int) - n) = (k : Int) - n := by rw [IntKind.wrap_i64]; omega
        obtain ⟨x, hx⟩ : ∃ x, x = 8000024 + ((k : Int) - n) := ⟨_, rfl⟩
        rw [← hx] at hc2
        have HMARK : Hid (∀ (z : Int) (W : World), z = (k : Int) - n → Calls Try.prog 27 #[.int .i64 1, .int .i64 z] W fun e w' => e = .returned (.int .i64 x) ∧ w' = W) := by
          rintro z W rfl
          rw [hx]
          exact mark_any _ W hd0 hd1
        clear hd0 hd1 hx
        go_quiet ((go_at_call 27; exact (HMARK.out _ _ (by first | rfl | exact hwr)).mono fun _ _ h => ⟨h.1, _, h.2⟩))
        go_wp2
        go_roundw
        case rel => exact ⟨k + 1, r + nq, by omega, by go_num, by first | rfl | exact World.drewN_drewN _ _ _⟩
        case measure => simp [intOf]; omega
      · have hkJ : (n : Int) + 12 ≤ k := by omega
        go_wp2
        go_ret
        exact ⟨rfl, bl_drewN _ _⟩
end Go.Proofs.Ytkpkhjflelmdjaa
