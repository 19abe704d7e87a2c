/- PartsAgain, for every rows of ranges and every number, no condition: sets that are turned about and joined by their complements, and the classes themselves as sets, make the same classes. The frame. -/
import Derived.Test.YtkcjfgkfhjanpaaQq
import Derived.Test.YtkcjfgkfhjanpaaQr
namespace Go.Proofs.Ytkcjfgkfhjanpaa
open Go.ChangeShapes Go.WideShapes Go.ChangeAt Go.RowKit Tnr

set_option maxRecDepth 100000 in
theorem again_lifted (os : Os) (started : os.Started) (H : Type) (enc : TypeId × Value → H) :
    ReturnsInHanded {} Try.checked os 4 .any (Rows.partsAgainSpec.pre6 enc Try.prog Try.f4 Rows.partsAgainRow.domain false) (Rows.partsAgainSpec.post enc Try.prog Try.f4 false true false false) := by
  refine returnsInHanded_of_change_sized (C := Try.checked) own started (by kernel_rfl) Try.func4
    (ChangeSpec.witness6 (enc := enc) (C := Try.checked) false ⟨#[], #[.slice none 0 0, .int .i64 0], []⟩ 8 (by kernel_rfl) (by kernel_rfl) (by kernel_rfl) (by kernel_rfl)) ?_
  intro W base args ds gs before hval0 hW hcnd hsz _
  have hval : ∀ (j : Nat) t v, Try.f4.params[j]? = some t → args[j]? = some v → Value.okWide Try.prog W .any base t v := hval0
  have hW' := hW
  obtain ⟨p, q, hA0, hV, rfl, hfz, hnd⟩ := hW
  have hA : DataW.TrodAll enc Try.prog W 0 (fun _ => true) true Try.f4.params.toList args.toList ds p := hA0
  have hsz1 : (DataW.weightsEach Try.prog (Try.f4.params.toList ++ Rows.partsAgainSpec.plain.varTypes Try.prog) (ds ++ gs)).all (· ≤ reachBytes) = true := hsz
  rw [Try.params4] at hA hval hsz1
  obtain ⟨v0, v1, d0, d1, p0, p1, rfl, rfl, rfl, h0, h1⟩ := trodAll_two hA
  obtain ⟨rfl, rfl⟩ := trodVars_none hV
  obtain ⟨q0, c0, xs, rfl, hs0, hnl, hn0⟩ := rows_opened (hval 0 22 v0 rfl rfl) h0
  obtain ⟨zz, rfl⟩ := okWide_int Try.underlying3 (hval 1 3 v1 rfl rfl)
  have hsz2 : (DataW.weightsEach Try.prog [22, 3] [d0, d1]).all (· ≤ reachBytes) = true := hsz1
  simp only [DataW.weightsEach, List.all_append, Bool.and_eq_true] at hsz2
  obtain ⟨z0, z1, _⟩ := hsz2
  have key := again_true q0 c0 xs zz W hs0 hnl.1 hnl.2 (hn0 z0).1 (hn0 z0).2
  clear hA0 hval0
  simp only [List.append_nil, List.append_assoc] at hW'
  have hlt : ∀ x ∈ p0 ++ p1, x.block < W.heap.size := fun x hx => by simpa using hW'.lt x (by simpa using hx)
  refine key.mono fun e W' ⟨he, bel⟩ => ?_
  subst he
  refine ⟨_, rfl, _, _, _, [], p0 ++ p1, [], hW', ?_, ?_, rfl, bel.frame _, fun h => by cases h⟩
  · exact trodAll_mk1 (shut_bool Try.underlying4 _)
  · exact trodAll_mk2 (Below.trod laidOut readRows rowRows h0 bel (fun x hx => hlt x (by simp [hx]))) (Below.trod laidOut readInt rowInt h1 bel (fun x hx => hlt x (by simp [hx])))

theorem partsAgain_holds : Rows.PartsAgainSaid :=
  OpenClaim.holds_of_wide 4 Try.f4 rfl rfl rfl rfl rfl rfl rfl ⟨rfl, rfl, rfl, rfl, rfl⟩ rfl rfl rfl rfl rfl (by kernel_rfl) Try.func4 (by kernel_rfl)
    (of_decide_eq_true (by kernel_rfl)) (by unfold Func.isWrapper; first | (rw [if_pos (by decide +kernel)]; kernel_rfl) | (rw [if_neg (by decide +kernel)]; exact ⟨rfl, rfl⟩))
    (fun os started H enc _ => again_lifted os started H enc)
end Go.Proofs.Ytkcjfgkfhjanpaa
