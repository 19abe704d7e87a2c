/- The walks of Many, Least, slices.AppendSeq, slices.Collect. -/
import Derived.Test.YtkcjfgkfhjanpaaRi
namespace Go.Proofs.Ytkcjfgkfhjanpaa
open Go.RowKit Tnr

attribute [local go_sem] Oper.semAt_some

def svV (x : SV) : Value := .slice x.1 x.2.2.length x.2.1
theorem sls_new {w : World} {xs : List SV} {cs : Array Value} {T : TypeId} (h : ∀ x ∈ xs, SlR w x.1 x.2.2) (hcs : cs = (xs.map svV).toArray) : SlS (w.alloc (.cells cs T)) (some ⟨w.heap.size, 0, none⟩) xs := by
  refine ⟨fun x hx => (h x hx).below (bl_alloc _ _), .inr ⟨w.heap.size, 0, rfl, fun i hi => ?_⟩⟩
  rw [Nat.zero_add, World.cell?_alloc_at _ _ _ _ rfl, hcs, gs_get hi]
  simp [svV, hi]
theorem flat_one (p : Option Addr) (c : Nat) (l : List R) : flat [(p, c, l)] = l := by simp [flat]

theorem joined_one (p : Option Addr) (c m : Nat) (l : List R) (W : World) (hm : m = l.length) (hp : SlR W p l) (hl : l.length ≤ 50000) :
    Calls Try.prog 23 #[.slice (some ⟨W.heap.size, 0, none⟩) 1 1] (W.alloc (.cells #[.slice p m c] 31)) fun e w' => ∃ q cq d, e = .returned (.agg #[.slice q d.length cq]) ∧ OwnR w' W.heap.size (.slice q d.length cq) d ∧ (puts [] l).Perm d ∧ Sorted d ∧ Below W.heap.size W w' := by
  subst hm
  have h := joined_any (some ⟨W.heap.size, 0, none⟩) 1 [(p, c, l)] (W.alloc (.cells #[.slice p l.length c] 31)) (sls_new (fun x hx => by simp only [List.mem_singleton] at hx; subst hx; exact hp) rfl) (by rw [flat_one]; omega) (by simp)
  refine Calls.mono h ?_
  rintro e w' ⟨q, cq, d, h1, h2, h3, h4, h5⟩
  rw [flat_one] at h3
  exact ⟨q, cq, d, h1, ownR_down h2 (by simp), h3, h4, bl_trans (bl_alloc _ _) h5⟩

/-- what the rounds of Many leave. -/
def stepM (n : Int) (r : R) : Int := wrap64 (n + wrap64 (wrap64 (r.2 - r.1) + 1))
def sumW (pre : List R) : Int := pre.foldl stepM 0
theorem sumW_snoc (pre : List R) (r : R) : sumW (pre ++ [r]) = stepM (sumW pre) r := by simp [sumW]
theorem fold_sum : ∀ (d : List R) (n last : Int), RF last d → -2 ≤ last → 0 ≤ n → n ≤ last + 2 → d.foldl stepM n = n + sum d
  | [], n, _, _, _, _, _ => by simp [sum]
  | r :: d, n, last, h, h1, h2, h3 => by
    obtain ⟨a1, a2, a3, a4⟩ := h
    have e : stepM n r = n + (r.2 - r.1 + 1) := by unfold stepM wrap64; omega
    rw [List.foldl_cons, e, fold_sum d _ r.2 a4 (by omega) (by omega) (by omega), sum_cons]; omega
theorem sumW_end {d : List R} (h : Rt d) : sumW d = sum d := by
  have := fold_sum d 0 (-2) h (by omega) (by omega) (by omega)
  rw [Int.zero_add] at this
  exact this

set_option maxHeartbeats 800000 in
set_option maxRecDepth 100000 in
theorem many_any (p : Option Addr) (c : Nat) (l : List R) (w : World) (hp : SlR w p l) (hl : l.length ≤ 50000) :
    Calls Try.prog 9 #[.slice p l.length c] w fun e W' => e = .returned (.int .i64 (mny l)) ∧ Below w.heap.size w W' := by
  refine (callsIn_wide (n := 8)).1 ?_
  have hro : Fence.wide.round = none := rfl
  have HP := Lib.hid hp
  obtain ⟨m, hm⟩ : ∃ m, m = l.length := ⟨_, rfl⟩
  have HLE := Lib.hid hl
  have HJ := Lib.hid (joined_one p c m l (w.alloc (.cells #[.int .i64 0] 3)) hm (hp.below (bl_alloc _ _)) hl)
  rw [World.size_alloc] at HJ
  rw [← hm]
  clear hp hm hl
  refine callsIn_of_wp_marks Try.func9 rfl trivial ?_ hro
  simp only [Try.ntmps9, List.size_toArray, List.length_cons, List.length_nil, Nat.reduceAdd, Nat.reduceSub, Array.replicate_succ, Array.replicate_zero, List.push_toArray, List.append_toArray, List.nil_append, List.cons_append]
  gi_wp2_with (first | (refine ⟨trivial, ?_⟩; gi_at_call 23; refine (callsIn_wide.2 HJ.out).mono ?_; rintro e w5 ⟨q, cq, d, rfl, ho5, hp5, hs5, hb5⟩; have HO5 := Lib.hid ho5; have HP5 := Lib.hid hp5; have HS5 := Lib.hid hs5; have HB5 := Lib.hid hb5; clear ho5 hp5 hs5 hb5) | (refine ⟨trivial, ?_⟩; gi_at_call 24; refine (callsIn_wide.2 (all_any _ _ _ _)).mono ?_; rintro e w' ⟨rfl, rfl⟩))
  obtain ⟨B, hB⟩ : ∃ B, B = w.heap.size := ⟨_, rfl⟩
  rw [← hB] at HO5 HB5 ⊢
  have hin5 := in_perm HP5.out (puts_in in_nil)
  have hmr := HLE.out
  have hdl : d.length ≤ 50000 := by
    have h1 := puts_length l []
    have h2 := HP5.out.length_eq
    rw [List.length_nil] at h1
    omega
  obtain ⟨q', cq', e5, _, _, _, hsl5, hob5⟩ := ownR_form HO5.out
  simp only [Value.slice.injEq, true_and] at e5
  obtain ⟨rfl, rfl⟩ := e5
  have HQB : Hid (∀ a, q = some a → a.block ≠ B) := by
    intro a ha
    have := (hob5 a.block (by rw [ha]; rfl)).2
    omega
  have HML := Lib.hid (merge_right hin5 HS5.out)
  have HEN := Lib.hid (cn_of HP5.out HS5.out)
  have bN0 : Boxed w5 B 3 (.int .i64 0) := by
    have h := Boxed.new w 3 (.int .i64 0)
    rw [← hB] at h
    exact (HB5.out.block B (by omega)).trans h
  have bN := bN0.alloc (.cells #[.slice q d.length cq] 58)
  have bS := Boxed.new w5 58 (.slice q d.length cq)
  have hsl0 := hsl5.below (bl_alloc w5 (.cells #[.slice q d.length cq] 58))
  have hB0 : Below w.heap.size w (w5.alloc (.cells #[.slice q d.length cq] 58)) := by
    have h1 := bl_alloc w (.cells #[.int .i64 0] 3)
    have h2 := h1.trans (HB5.out.mono (by omega))
    exact h2.alloc h2.size _
  obtain ⟨Bs, hBs⟩ : ∃ Bs, Bs = w5.heap.size := ⟨_, rfl⟩
  rw [← hBs] at bS ⊢
  have hsz : (w5.alloc (.cells #[.slice q d.length cq] 58)).heap.size = Bs + 1 := by rw [hBs]; simp
  have hBBs : B < Bs := by rw [hBs]; exact bN0.lt
  obtain ⟨W0, hW0⟩ : ∃ W0, w5.alloc (.cells #[.slice q d.length cq] 58) = W0 := ⟨_, rfl⟩
  rw [hW0] at bN bS hsl0 hB0 hsz ⊢
  have hst := all_stops (8 - 1) Bs q cq d hin5 (by omega) (by omega) W0 bS hsl0
  obtain ⟨md, hmd⟩ : ∃ md, md = d.length := ⟨_, rfl⟩
  rw [← hmd] at bS ⊢
  clear hmd hW0 hBs hob5 hsl5 bN0 hin5 hsl0
  refine wpIn_rangeFunc_ownH hro (by omega) (gf := 36) (lb := #[.pointer (some ⟨Bs, 0, none⟩)]) rfl trivial (enters_of Try.func36 (by kernel_rfl) rfl)
    hst (fun h k => h.trans k) kpb_b (Below.refl _ _) (fun _ => rfl)
    (fun pre W => Boxed W B 3 (.int .i64 (sumW pre)) ∧ Boxed W Bs 58 (.slice q md cq) ∧ Below w.heap.size w W)
    (fun _ _ _ => False)
    (OwnFrom.and (Own.from (boxed_own _ _ _) _) (OwnFrom.and (Own.from (boxed_own _ _ _) _) (ownFrom_below (Nat.le_refl _) (by omega))))
    (fun _ _ _ _ _ hs _ _ => hs)
    ⟨bN, bS, hB0⟩
    (fun x a' W => ∃ Bx, Bs < Bx ∧ W.heap[Bx]? = some (.cells #[.int .i64 x.1, .int .i64 x.2] 43 (0, 0)) ∧ a' = { tmps := #[.slice p m c, undef, .int .i64 0, .pointer (some ⟨B, 0, none⟩), .pointer (some ⟨Bx, 0, none⟩), .slice p m c, .slice (some ⟨B + 1, 0, none⟩) 1 1, .agg #[.slice q md cq], .func (.func 36) #[] #[.pointer (some ⟨Bs, 0, none⟩)], .agg #[.int .i64 x.1, .int .i64 x.2], undef, undef, undef, undef, undef, undef, undef, undef, undef], defers := [] })
    (fun x a' _ X Y row hs hg hr => by
      obtain ⟨Bx, h1, h2, h3⟩ := hs
      refine ⟨Bx, h1, (hg.block Bx (lt_of_block h2) fun e => ?_).trans h2, h3⟩
      obtain ⟨o, ho, hc⟩ := (hr Bx e.symm).2
      rw [h2] at ho; cases ho; cases hc)
    ?assign ?body ?done ?stop
  case assign =>
    rintro l pre x W K ⟨hN1, hS1, hB1⟩ hK
    clear hB
    gi_wp2
    exact hK _ _ ((KeepsOthers.alloc _ _).from _) ⟨fun h => h.below (bl_alloc _ _), fun v hv => hv.alloc _⟩ ⟨hN1.alloc _, hS1.alloc _, hB1.alloc hB1.size _⟩ ⟨W.heap.size, hS1.lt, heap_alloc_new W _, rfl⟩
  case body =>
    rintro l pre x a' W hl ⟨r, hr⟩ ⟨hN1, hS1, hB1⟩ ⟨Bx, hBx, hX1, rfl⟩ hlt
    have cN := hN1.cell
    have fN := hN1.frozen
    have cX0 := two_cell0 hX1
    have cX1 := two_cell1 hX1
    have HNX := Lib.hid hN1
    have HSX := Lib.hid hS1
    have HBB := Lib.hid hB1
    have HHB := Lib.hid hB
    clear hN1 hX1 hS1 hB1 hB hr
    gi_wp2
    have hbe := HHB.out
    refine ⟨(KeepsOthers.setCell _ _ _).from _, ⟨fun h => h.set HQB.out _ _, fun v hv => hv.other (by omega) _⟩, ⟨?_, HSX.out.other (by omega) _, HBB.out.setCell (p := ⟨B, 0, none⟩) (by simp; omega) _⟩⟩
    rw [sumW_snoc]
    exact HNX.out.set _
  case done =>
    rintro D ys W hD rfl ⟨hN1, hS1, hB1⟩ hK
    have cN := hN1.cell
    have HHB := Lib.hid hB
    clear hB
    gi_wp2
    refine ⟨by simp, .inl ⟨_, _, rfl, run_takeDeferred hK, ?_⟩⟩
    refine ⟨_, results_tmp rfl _ _ _, ?_, hB1.trans (belowK_b (w := w) (Nat.le_refl _) W D _ _ (by have := HHB.out; omega) hK rfl rfl)⟩
    show Ending.returned (Value.int .i64 (sumW (merge d))) = _
    rw [sumW_end HML.out, HEN.out]; rfl
  case stop =>
    rintro D c pre W _ _ h _
    exact h.elim
end Go.Proofs.Ytkcjfgkfhjanpaa
