/- PartsAt, for every rows of ranges, every ranges and every list of numbers, no condition: which row has a number first, which have one of the ranges', and their least ones, is what the document tells; all stays, what is told lies apart. The frame. -/
import Derived.Test.YtkcjfgkfhjanpaaGreatTb
import Derived.Test.YtkcjfgkfhjanpaaGreatTr
namespace Go.Proofs.YtkcjfgkfhjanpaaGreat
open Go.ChangeShapes Go.WideShapes Go.ChangeAt Go.RowKit Tnr

set_option maxRecDepth 100000 in
theorem at_lifted (os : Os) (started : os.Started) (H : Type) (enc : TypeId × Value → H) :
    ReturnsInHanded {} Tryz.checked os 3 .any (Rows.partsAtSpec.pre6 enc Tryz.prog Tryz.f3 Rows.partsAtRow.domain false) (Rows.partsAtSpec.post enc Tryz.prog Tryz.f3 false true false false) := by
  refine returnsInHanded_of_change_sized (C := Tryz.checked) own started (by kernel_rfl) Tryz.func3
    (ChangeSpec.witness6 (enc := enc) (C := Tryz.checked) false ⟨#[], #[.slice none 0 0, .slice none 0 0, .slice none 0 0], []⟩ 8 (by kernel_rfl) (by kernel_rfl) (by kernel_rfl) (by kernel_rfl)) ?_
  intro W base args ds gs before hval0 hW hcnd hsz _
  have hval : ∀ (j : Nat) t v, Tryz.f3.params[j]? = some t → args[j]? = some v → Value.okWide Tryz.prog W .any base t v := hval0
  have hW' := hW
  obtain ⟨p, q, hA0, hV, rfl, hfz, hnd⟩ := hW
  have hA : DataW.TrodAll enc Tryz.prog W 0 (fun _ => true) true Tryz.f3.params.toList args.toList ds p := hA0
  have hsz1 : (DataW.weightsEach Tryz.prog (Tryz.f3.params.toList ++ Rows.partsAtSpec.plain.varTypes Tryz.prog) (ds ++ gs)).all (· ≤ reachBytes) = true := hsz
  rw [Tryz.params3] at hA hval hsz1
  obtain ⟨v0, v1, v2, d0, d1, d2, p0, p1, p2, rfl, rfl, rfl, h0, h1, h2⟩ := trodAll_three hA
  obtain ⟨rfl, rfl⟩ := trodVars_none hV
  obtain ⟨q0, c0, xs, rfl, hs0, hnl, hn0⟩ := rows_opened (hval 0 22 v0 rfl rfl) h0
  obtain ⟨q1, c1, l1, rfl, hs1, hnn1, hn1⟩ := ranges_opened2 (hval 1 23 v1 rfl rfl) h1
  obtain ⟨q2, c2, l2, rfl, hs2, hn2⟩ := ints_opened (hval 2 24 v2 rfl rfl) h2
  have hsz2 : (DataW.weightsEach Tryz.prog [22, 23, 24] [d0, d1, d2]).all (· ≤ reachBytes) = true := hsz1
  simp only [DataW.weightsEach, List.all_append, Bool.and_eq_true] at hsz2
  obtain ⟨z0, z1, z2, _⟩ := hsz2
  have key := at_true q0 q1 q2 c0 c1 c2 xs l1 l2 W hs0 hnl.2 hs1 hnn1 hs2 (hn0 z0).1 (hn0 z0).2 (by have := hn1 z1; omega) (hn2 z2)
  clear hA0 hval0
  simp only [List.append_nil, List.append_assoc] at hW'
  have hlt : ∀ x ∈ p0 ++ (p1 ++ p2), x.block < W.heap.size := fun x hx => by simpa using hW'.lt x (by simpa using hx)
  refine key.mono fun e W' ⟨he, bel⟩ => ?_
  subst he
  refine ⟨_, rfl, _, _, _, [], p0 ++ (p1 ++ p2), [], hW', ?_, ?_, rfl, bel.frame _, fun h => by cases h⟩
  · exact trodAll_mk1 (shut_bool Tryz.underlying4 _)
  · exact trodAll_mk3 (Below.trod laidOut readRows rowRows h0 bel (fun x hx => hlt x (by simp [hx]))) (Below.trod laidOut readRanges rowRanges h1 bel (fun x hx => hlt x (by simp [hx]))) (Below.trod laidOut readInts rowInts h2 bel (fun x hx => hlt x (by simp [hx])))

theorem partsAt_holds : Rows.PartsAtSaid :=
  OpenClaim.holds_of_wide 3 Tryz.f3 rfl rfl rfl rfl rfl rfl rfl ⟨rfl, rfl, rfl, rfl, rfl⟩ rfl rfl rfl rfl rfl (by kernel_rfl) Tryz.func3 (by kernel_rfl)
    (of_decide_eq_true (by kernel_rfl)) (by unfold Func.isWrapper; first | (rw [if_pos (by decide +kernel)]; kernel_rfl) | (rw [if_neg (by decide +kernel)]; exact ⟨rfl, rfl⟩))
    (fun os started H enc _ => at_lifted os started H enc)
end Go.Proofs.YtkcjfgkfhjanpaaGreat
