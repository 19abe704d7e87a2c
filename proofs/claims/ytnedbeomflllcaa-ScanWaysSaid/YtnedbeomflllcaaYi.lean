/- The walk of an escape. -/
import Derived.Test.YtnedbeomflllcaaYh
namespace Go.Proofs.Ytnedbeomflllcaa
open Go.RowKit Tnd

theorem point_any (a : Int) (w : World) : Calls Try.prog 27 #[.int .i64 a] w fun e w' => e = .returned (.tuple #[.int .i64 a, .bool true]) ∧ w' = w := by
  go_enter Try.func27, Try.ntmps27
  go_wp2
  go_ret2
  exact ⟨rfl, rfl⟩
theorem look_own (b : Nat) {x : Int} (h : amg x ownS = true) : lookK (escK b 15) x = some (itsF x) := by
  unfold amg ownS at h
  simp only [List.any_cons, List.any_nil, Bool.or_eq_true, Bool.or_false, beq_iff_eq] at h
  rcases h with h | h | h | h | h | h | h | h | h | h | h | h | h | h | h <;> (subst h; rfl)
theorem look_plain (b : Nat) {x v : Int} (h : plainR x = some v) : lookK (escK b 15) x = some (itsF v) := by
  unfold plainR at h
  split at h
  · rename_i e; cases h; subst e; rfl
  split at h
  · rename_i e; cases h; subst e; rfl
  split at h
  · rename_i e; cases h; subst e; rfl
  split at h
  · rename_i e; cases h; subst e; rfl
  split at h
  · rename_i e; cases h; subst e; rfl
  split at h
  · rename_i e; cases h; exact look_own b e
  · cases h
theorem look_none (b : Nat) {x : Int} (h : plainR x = none) (h1 : x ≠ 99) (h2 : x ≠ 48) (h3 : x ≠ 120) (h4 : x ≠ 117) : lookK (escK b 15) x = none := by
  unfold lookK
  rw [List.find?_eq_none.2]
  · rfl
  · intro p hp e
    have e : p.1 = x := by simpa using e
    subst e
    unfold plainR at h
    unfold escK esc0 at hp
    rcases List.mem_append.1 hp with hp | hp
    · simp only [List.mem_cons, List.not_mem_nil, or_false] at hp
      rcases hp with rfl | rfl | rfl | rfl | rfl | rfl | rfl | rfl | rfl <;> first | (exact absurd rfl h1) | (exact absurd rfl h2) | (exact absurd rfl h3) | (exact absurd rfl h4) | (simp at h)
    · obtain ⟨y, hy, rfl⟩ := List.mem_map.1 hp
      have hy2 : y ∈ ownS := List.mem_of_mem_take hy
      have : amg (y.toNat : Int) ownS = true := by unfold amg; rw [List.any_eq_true]; exact ⟨y, hy2, by simp⟩
      simp only at h
      rw [if_pos this] at h
      (repeat' split at h) <;> cases h
theorem esc_apart (b : Nat) : (escK b 15).Pairwise fun p q => p.1 ≠ q.1 := by
  unfold escK esc0 ownS
  simp [List.pairwise_cons, itsF, metF]
end Go.Proofs.Ytnedbeomflllcaa
