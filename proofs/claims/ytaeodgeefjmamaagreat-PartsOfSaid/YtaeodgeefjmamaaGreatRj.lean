/- The walks of Many, Least, slices.AppendSeq, slices.Collect. -/
import Derived.Test.YtaeodgeefjmamaaGreatRi
namespace Go.Proofs.YtaeodgeefjmamaaGreat
open Go.RowKit Tnr

attribute [local go_sem] Oper.semAt_some

def svV (x : SV) : Value := .slice x.1 x.2.2.length x.2.1
theorem sls_new {w : World} {xs : List SV} {cs : Array Value} {T : TypeId} (h : ∀ x ∈ xs, SlR w x.1 x.2.2) (hcs : cs = (xs.map svV).toArray) : SlS (w.alloc (.cells cs T)) (some ⟨w.heap.size, 0, none⟩) xs := by
  refine ⟨fun x hx => (h x hx).below (bl_alloc _ _), .inr ⟨w.heap.size, 0, rfl, fun i hi => ?_⟩⟩
  rw [Nat.zero_add, World.cell?_alloc_at _ _ _ _ rfl, hcs, gs_get hi]
  simp [svV, hi]
theorem flat_one (p : Option Addr) (c : Nat) (l : List R) : flat [(p, c, l)] = l := by simp [flat]

theorem joined_one (p : Option Addr) (c m : Nat) (l : List R) (W : World) (hm : m = l.length) (hp : SlR W p l) (hl : l.length ≤ 50000) :
    Calls Tryz.prog 74 #[.slice (some ⟨W.heap.size, 0, none⟩) 1 1] (W.alloc (.cells #[.slice p m c] 36)) fun e w' => ∃ q cq d, e = .returned (.agg #[.slice q d.length cq]) ∧ OwnR w' W.heap.size (.slice q d.length cq) d ∧ (puts [] l).Perm d ∧ Sorted d ∧ Below W.heap.size W w' := by
  subst hm
  have h := joined_any (some ⟨W.heap.size, 0, none⟩) 1 [(p, c, l)] (W.alloc (.cells #[.slice p l.length c] 36)) (sls_new (fun x hx => by simp only [List.mem_singleton] at hx; subst hx; exact hp) rfl) (by rw [flat_one]; omega) (by simp)
  refine Calls.mono h ?_
  rintro e w' ⟨q, cq, d, h1, h2, h3, h4, h5⟩
  rw [flat_one] at h3
  exact ⟨q, cq, d, h1, ownR_down h2 (by simp), h3, h4, bl_trans (bl_alloc _ _) h5⟩

/-- what the rounds of Many leave. -/
def stepM (n : Int) (r : R) : Int := wrap64 (n + wrap64 (wrap64 (r.2 - r.1) + 1))
def sumW (pre : List R) : Int := pre.foldl stepM 0
theorem sumW_snoc (pre : List R) (r : R) : sumW (pre ++ [r]) = stepM (sumW pre) r := by simp [sumW]
theorem fold_sum : ∀ (d : List R) (n last : Int), RF last d → -2 ≤ last → 0 ≤ n → n ≤ last + 2 → d.foldl stepM n = n + sum d
  | [], n, _, _, _, _, _ => by simp [sum]
  | r :: d, n, last, h, h1, h2, h3 => by
    obtain ⟨a1, a2, a3, a4⟩ := h
    have e : stepM n r = n + (r.2 - r.1 + 1) := by unfold stepM wrap64; omega
    rw [List.foldl_cons, e, fold_sum d _ r.2 a4 (by omega) (by omega) (by omega), sum_cons]; omega
theorem sumW_end {d : List R} (h : Rt d) : sumW d = sum d := by
  have := fold_sum d 0 (-2) h (by omega) (by omega) (by omega)
  rw [Int.zero_add] at this
  exact this

end Go.Proofs.YtaeodgeefjmamaaGreat
