/- The walks of a scan's names: signs, and the name. -/
import Derived.Test.YtnedbeomflllcaaYk
import Derived.Laws.BytesArg
import Derived.Laws.IdiomStrings
namespace Go.Proofs.Ytnedbeomflllcaa
open Go.RowKit Tnd

theorem info_u8 : (Try.prog.info? 5).map (fun i => (i.zero, i.size, i.bytes)) = some (some (.int .u8 0), 1, 1) := by kernel_rfl
def lenOf : Value → Nat
  | .slice _ n _ => n
  | _ => 0
theorem sgn_step {l : List Int} {k m n : Nat} (hk : k < l.length) (hx : gi l k = (n : Int)) (ha : amg (n : Int) nmS = true) : sgnR (m + 1) (l.drop k) = UInt8.ofNat n :: sgnR m (l.drop (k + 1)) := by
  rw [drop_cons hk, hx]
  simp only [sgnR]
  rw [if_pos ha, Int.toNat_natCast]
theorem sgn_stop {l : List Int} {k m : Nat} (h : ¬ (k < l.length ∧ amg (gi l k) nmS = true)) : sgnR m (l.drop k) = [] := by
  cases m with
  | zero => rfl
  | succ m =>
    by_cases hk : k < l.length
    · rw [drop_cons hk]; simp only [sgnR]; rw [if_neg (fun ha => h ⟨hk, ha⟩)]
    · rw [List.drop_eq_nil_of_le (by omega)]; rfl
theorem own_block {w : World} {B : Nat} {v : Value} {N : List Nat} (h : Own w B 5 .u8 v N) {g : Nat} (hv : v.ownBlock = some g) : ∃ cs T2 fr, w.heap[g]? = some (.cells cs T2 fr) ∧ T2 ≠ 3 := by
  rcases h.2 with ⟨rfl, _⟩ | ⟨g2, cap, cur, rfl, _, hh, _⟩
  · simp [Value.ownBlock] at hv
  · simp only [Value.ownBlock, Option.some.injEq] at hv
    subst hv
    exact ⟨_, _, _, hh, by decide⟩
theorem grown_own {B : Nat} {w w' : World} {b : Nat} (h : w.grownBy w' (some b)) {v : Value} {e : TypeId} {kd : IntKind} {N : List Nat} (ho : Own w B e kd v N) (hb : b < B) : Own w' B e kd v N := by
  refine own_kept ho h ?_
  cases hv : v.ownBlock with
  | none => exact .inl rfl
  | some g =>
    right
    have := World.ownsRow.lt ho g hv
    intro e
    cases e
    omega

end Go.Proofs.Ytnedbeomflllcaa
