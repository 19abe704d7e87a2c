/- RangesTells, for every two lists of ranges and every number, no condition: what any ranges have, what two have both, what one has not, is what the document tells; they stay, and what is told lies apart. The frame. -/
import Derived.Test.YtobdkkcihjpebaaGreatRzi
import Derived.Test.YtobdkkcihjpebaaGreatRp
namespace Go.Proofs.YtobdkkcihjpebaaGreat
open Go.ChangeShapes Go.WideShapes Go.ChangeAt Go.RowKit Go.Deep Tnr

set_option maxRecDepth 100000 in
theorem ranges_nil {H : Type} {enc : TypeId × Value → H} {W : World} {n c : Nat} {d : DataW H} {p : List MemPlace}
    (h : DataW.Trod enc Tryz.prog W 0 (fun _ => true) true 22 (.slice none n c) d p) : c = 0 := by
  obtain ⟨fuel, hf⟩ := h
  have hcells : (Value.slice none n c).cells.toList = [.slice none n c] := rfl
  rw [hcells] at hf
  have ce : Tryz.prog.cellsOf 39 = 2 := by kernel_rfl
  have ci : Tryz.prog.cellsOf 3 = 1 := by kernel_rfl
  rcases open_slice_pairs Tryz.underlying22 Tryz.underlying39 ce rfl rfl ci ci hf with ⟨hcs, _⟩ | ⟨a, len, cap, m, k, V0, V1, D0, D1, P0, P1, hcs, _⟩
  · simp only [List.cons.injEq, Value.slice.injEq, and_true, true_and] at hcs
    exact hcs.2
  · simp only [List.cons.injEq, Value.slice.injEq, reduceCtorEq, false_and] at hcs

set_option maxRecDepth 100000 in
theorem tells_lifted (os : Os) (started : os.Started) (H : Type) (enc : TypeId × Value → H) :
    ReturnsInHanded {} Tryz.checked os 3 .any (Rows.rangesTellsSpec.pre6 enc Tryz.prog Tryz.f3 Rows.rangesTellsRow.domain false) (Rows.rangesTellsSpec.post enc Tryz.prog Tryz.f3 false true false false) := by
  refine returnsInHanded_of_change_sized (C := Tryz.checked) own started (by kernel_rfl) Tryz.func3
    (ChangeSpec.witness6 (enc := enc) (C := Tryz.checked) false ⟨#[], #[.slice none 0 0, .slice none 0 0, .int .i64 0], []⟩ 8 (by kernel_rfl) (by kernel_rfl) (by kernel_rfl) (by kernel_rfl)) ?_
  intro W base args ds gs before hval0 hW hcnd hsz _
  have hval : ∀ (j : Nat) t v, Tryz.f3.params[j]? = some t → args[j]? = some v → Value.okWide Tryz.prog W .any base t v := hval0
  have hW' := hW
  obtain ⟨p, q, hA0, hV, rfl, hfz, hnd⟩ := hW
  have hA : DataW.TrodAll enc Tryz.prog W 0 (fun _ => true) true Tryz.f3.params.toList args.toList ds p := hA0
  have hsz1 : (DataW.weightsEach Tryz.prog (Tryz.f3.params.toList ++ Rows.rangesTellsSpec.plain.varTypes Tryz.prog) (ds ++ gs)).all (· ≤ reachBytes) = true := hsz
  rw [Tryz.params3] at hA hval hsz1
  obtain ⟨v0, v1, v2, d0, d1, d2, p0, p1, p2, rfl, rfl, rfl, h0, h1, h2⟩ := trodAll_three hA
  obtain ⟨rfl, rfl⟩ := trodVars_none hV
  obtain ⟨q0, c0, l0, rfl, hs0, hn0⟩ := ranges_opened (hval 0 22 v0 rfl rfl) h0
  obtain ⟨q1, c1, l1, rfl, hs1, hn1⟩ := ranges_opened (hval 1 22 v1 rfl rfl) h1
  obtain ⟨x, rfl, rfl, rfl, wx⟩ := open_int Tryz.underlying3 (hval 2 3 v2 rfl rfl) h2
  have hsz2 : (DataW.weightsEach Tryz.prog [22, 22, 3] [d0, d1, _]).all (· ≤ reachBytes) = true := hsz1
  simp only [DataW.weightsEach, List.all_append, Bool.and_eq_true] at hsz2
  obtain ⟨z0, z1, _⟩ := hsz2
  have hp0 : q0 = none → c0 = 0 := fun e => by subst e; exact ranges_nil h0
  have hp1 : q1 = none → c1 = 0 := fun e => by subst e; exact ranges_nil h1
  have key := tells_true q0 q1 c0 c1 l0.length l1.length l0 l1 x W rfl rfl hs0 hs1 (hn0 z0) (hn1 z1) hp0 hp1
  clear hA0 hval0
  simp only [List.append_nil, List.append_assoc] at hW'
  have hlt : ∀ x ∈ p0 ++ (p1 ++ []), x.block < W.heap.size := fun x hx => by simpa using hW'.lt x (by simpa using hx)
  refine key.mono fun e W' ⟨he, bel⟩ => ?_
  subst he
  refine ⟨_, rfl, _, _, _, [], p0 ++ (p1 ++ []), [], hW', ?_, ?_, rfl, bel.frame _, fun h => by cases h⟩
  · exact trodAll_mk1 (shut_bool Tryz.underlying4 _)
  · exact trodAll_mk3 (Below.trod laidOut readRanges rowRanges h0 bel (fun x hx => hlt x (by simp [hx]))) (Below.trod laidOut readRanges rowRanges h1 bel (fun x hx => hlt x (by simp [hx]))) (shut_int Tryz.underlying3 wx)

theorem rangesTells_holds : Rows.RangesTellsSaid :=
  OpenClaim.holds_of_wide 3 Tryz.f3 rfl rfl rfl rfl rfl rfl rfl ⟨rfl, rfl, rfl, rfl, rfl⟩ rfl rfl rfl rfl rfl (by kernel_rfl) Tryz.func3 (by kernel_rfl)
    (of_decide_eq_true (by kernel_rfl)) (by unfold Func.isWrapper; first | (rw [if_pos (by decide +kernel)]; kernel_rfl) | (rw [if_neg (by decide +kernel)]; exact ⟨rfl, rfl⟩))
    (fun os started H enc _ => tells_lifted os started H enc)
end Go.Proofs.YtobdkkcihjpebaaGreat
