/- RangesHas, for every two lists of ranges and every list of numbers, no condition: a code point is in what is joined just if it is in one, in what both have just if in both, in Not just if it is not; the least one is, and none below it; of points just those are that are code points. The row's frame. -/
import Derived.Test.YtdlakmgdaldhnaaRr
import Derived.Test.YtdlakmgdaldhnaaRp
namespace Go.Proofs.Ytdlakmgdaldhnaa
open Go.ChangeShapes Go.WideShapes Go.ChangeAt Go.RowKit Tnr

set_option maxRecDepth 100000 in
theorem has_lifted (os : Os) (started : os.Started) (H : Type) (enc : TypeId × Value → H) :
    ReturnsInHanded {} Try.checked os 5 .any (Rows.rangesHasSpec.pre6 enc Try.prog Try.f5 Rows.rangesHasRow.domain false) (Rows.rangesHasSpec.post enc Try.prog Try.f5 false true false false) := by
  refine returnsInHanded_of_change_sized (C := Try.checked) own started (by kernel_rfl) Try.func5
    (ChangeSpec.witness6 (enc := enc) (C := Try.checked) false ⟨#[], #[.slice none 0 0, .slice none 0 0, .slice none 0 0], []⟩ 8 (by kernel_rfl) (by kernel_rfl) (by kernel_rfl) (by kernel_rfl)) ?_
  intro W base args ds gs before hval0 hW hcnd hsz _
  have hval : ∀ (j : Nat) t v, Try.f5.params[j]? = some t → args[j]? = some v → Value.okWide Try.prog W .any base t v := hval0
  have hW' := hW
  obtain ⟨p, q, hA0, hV, rfl, hfz, hnd⟩ := hW
  have hA : DataW.TrodAll enc Try.prog W 0 (fun _ => true) true Try.f5.params.toList args.toList ds p := hA0
  have hsz1 : (DataW.weightsEach Try.prog (Try.f5.params.toList ++ Rows.rangesHasSpec.plain.varTypes Try.prog) (ds ++ gs)).all (· ≤ reachBytes) = true := hsz
  rw [Try.params5] at hA hval hsz1
  obtain ⟨v0, v1, v2, d0, d1, d2, p0, p1, p2, rfl, rfl, rfl, h0, h1, h2⟩ := trodAll_three hA
  obtain ⟨rfl, rfl⟩ := trodVars_none hV
  obtain ⟨q0, c0, l0, rfl, hs0, hn0⟩ := ranges_opened (hval 0 29 v0 rfl rfl) h0
  obtain ⟨q1, c1, l1, rfl, hs1, hn1⟩ := ranges_opened (hval 1 29 v1 rfl rfl) h1
  obtain ⟨q2, c2, l2, rfl, hs2, hn2⟩ := ints_opened (hval 2 23 v2 rfl rfl) h2
  have hsz2 : (DataW.weightsEach Try.prog [29, 29, 23] [d0, d1, d2]).all (· ≤ reachBytes) = true := hsz1
  simp only [DataW.weightsEach, List.all_append, Bool.and_eq_true] at hsz2
  obtain ⟨z0, z1, z2, _⟩ := hsz2
  have key := has_true2 q0 q1 q2 c0 c1 c2 l0 l1 l2 W hs0 hs1 hs2 (hn0 z0) (hn1 z1) (hn2 z2)
  clear hA0 hval0
  simp only [List.append_nil, List.append_assoc] at hW'
  have hlt : ∀ x ∈ p0 ++ (p1 ++ p2), x.block < W.heap.size := fun x hx => by simpa using hW'.lt x (by simpa using hx)
  refine key.mono fun e W' ⟨he, bel⟩ => ?_
  subst he
  refine ⟨_, rfl, _, _, _, [], p0 ++ (p1 ++ p2), [], hW', ?_, ?_, rfl, bel.frame _, fun h => by cases h⟩
  · exact trodAll_mk1 (shut_bool Try.underlying4 _)
  · exact trodAll_mk3 (Below.trod laidOut readRanges rowRanges h0 bel (fun x hx => hlt x (by simp [hx]))) (Below.trod laidOut readRanges rowRanges h1 bel (fun x hx => hlt x (by simp [hx]))) (Below.trod laidOut readInts rowInts h2 bel (fun x hx => hlt x (by simp [hx])))

theorem rangesHas_holds : Rows.RangesHasSaid :=
  OpenClaim.holds_of_wide 5 Try.f5 rfl rfl rfl rfl rfl rfl rfl ⟨rfl, rfl, rfl, rfl, rfl⟩ rfl rfl rfl rfl rfl (by kernel_rfl) Try.func5 (by kernel_rfl)
    (of_decide_eq_true (by kernel_rfl)) (by unfold Func.isWrapper; first | (rw [if_pos (by decide +kernel)]; kernel_rfl) | (rw [if_neg (by decide +kernel)]; exact ⟨rfl, rfl⟩))
    (fun os started H enc _ => has_lifted os started H enc)
end Go.Proofs.Ytdlakmgdaldhnaa
