/- PartsWhole, for every rows of ranges and every list of numbers, no condition: classes are sets, none empty, in the order of their least code points; together they have all code points, and no two have one both; each set is the join of those that have one of its code points; two code points are of one class just if they are in the same sets. The frame. -/
import Derived.Test.YtkcjfgkfhjanpaaQu
import Derived.Test.YtkcjfgkfhjanpaaQr
namespace Go.Proofs.Ytkcjfgkfhjanpaa
open Go.ChangeShapes Go.WideShapes Go.ChangeAt Go.RowKit Tnr

set_option maxRecDepth 100000 in
theorem whole_lifted (os : Os) (started : os.Started) (H : Type) (enc : TypeId × Value → H) :
    ReturnsInHanded {} Try.checked os 3 .any (Rows.partsWholeSpec.pre6 enc Try.prog Try.f3 Rows.partsWholeRow.domain false) (Rows.partsWholeSpec.post enc Try.prog Try.f3 false true false false) := by
  refine returnsInHanded_of_change_sized (C := Try.checked) own started (by kernel_rfl) Try.func3
    (ChangeSpec.witness6 (enc := enc) (C := Try.checked) false ⟨#[], #[.slice none 0 0, .slice none 0 0], []⟩ 8 (by kernel_rfl) (by kernel_rfl) (by kernel_rfl) (by kernel_rfl)) ?_
  intro W base args ds gs before hval0 hW hcnd hsz _
  have hval : ∀ (j : Nat) t v, Try.f3.params[j]? = some t → args[j]? = some v → Value.okWide Try.prog W .any base t v := hval0
  have hW' := hW
  obtain ⟨p, q, hA0, hV, rfl, hfz, hnd⟩ := hW
  have hA : DataW.TrodAll enc Try.prog W 0 (fun _ => true) true Try.f3.params.toList args.toList ds p := hA0
  have hsz1 : (DataW.weightsEach Try.prog (Try.f3.params.toList ++ Rows.partsWholeSpec.plain.varTypes Try.prog) (ds ++ gs)).all (· ≤ reachBytes) = true := hsz
  rw [Try.params3] at hA hval hsz1
  obtain ⟨v0, v1, d0, d1, p0, p1, rfl, rfl, rfl, h0, h1⟩ := trodAll_two hA
  obtain ⟨rfl, rfl⟩ := trodVars_none hV
  obtain ⟨q0, c0, xs, rfl, hs0, hnl, hn0⟩ := rows_opened (hval 0 22 v0 rfl rfl) h0
  obtain ⟨q1, c1, l1, rfl, hs1, hn1⟩ := ints_opened (hval 1 23 v1 rfl rfl) h1
  have hsz2 : (DataW.weightsEach Try.prog [22, 23] [d0, d1]).all (· ≤ reachBytes) = true := hsz1
  simp only [DataW.weightsEach, List.all_append, Bool.and_eq_true] at hsz2
  obtain ⟨z0, z1, _⟩ := hsz2
  have key := whole_true q0 q1 c0 c1 xs l1 W hs0 hnl.1 hs1 (hn0 z0).1 (hn0 z0).2 (hn1 z1)
  clear hA0 hval0
  simp only [List.append_nil, List.append_assoc] at hW'
  have hlt : ∀ x ∈ p0 ++ p1, x.block < W.heap.size := fun x hx => by simpa using hW'.lt x (by simpa using hx)
  refine key.mono fun e W' ⟨he, bel⟩ => ?_
  subst he
  refine ⟨_, rfl, _, _, _, [], p0 ++ p1, [], hW', ?_, ?_, rfl, bel.frame _, fun h => by cases h⟩
  · exact trodAll_mk1 (shut_bool Try.underlying4 _)
  · exact trodAll_mk2 (Below.trod laidOut readRows rowRows h0 bel (fun x hx => hlt x (by simp [hx]))) (Below.trod laidOut readInts rowInts h1 bel (fun x hx => hlt x (by simp [hx])))

theorem partsWhole_holds : Rows.PartsWholeSaid :=
  OpenClaim.holds_of_wide 3 Try.f3 rfl rfl rfl rfl rfl rfl rfl ⟨rfl, rfl, rfl, rfl, rfl⟩ rfl rfl rfl rfl rfl (by kernel_rfl) Try.func3 (by kernel_rfl)
    (of_decide_eq_true (by kernel_rfl)) (by unfold Func.isWrapper; first | (rw [if_pos (by decide +kernel)]; kernel_rfl) | (rw [if_neg (by decide +kernel)]; exact ⟨rfl, rfl⟩))
    (fun os started H enc _ => whole_lifted os started H enc)
end Go.Proofs.Ytkcjfgkfhjanpaa
