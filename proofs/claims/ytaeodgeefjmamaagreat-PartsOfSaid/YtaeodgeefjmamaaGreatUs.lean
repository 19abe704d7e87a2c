/- PartsOf, for every rows of ranges, no condition: the classes by any sets, or the error, are what the document tells; the sets stay, what is told lies apart. The frame. -/
import Derived.Test.YtaeodgeefjmamaaGreatUf
import Derived.Test.YtaeodgeefjmamaaGreatUr
namespace Go.Proofs.YtaeodgeefjmamaaGreat
open Go.ChangeShapes Go.WideShapes Go.ChangeAt Go.RowKit Tnr

set_option maxRecDepth 100000 in
theorem of_lifted (HAR : ApartRowsOk) (os : Os) (started : os.Started) (H : Type) (enc : TypeId × Value → H) :
    ReturnsInHanded {} Tryz.checked os 3 .any (Rows.partsOfSpec.pre6 enc Tryz.prog Tryz.f3 Rows.partsOfRow.domain false) (Rows.partsOfSpec.post enc Tryz.prog Tryz.f3 false true false false) := by
  refine returnsInHanded_of_change_sized (C := Tryz.checked) own started (by kernel_rfl) Tryz.func3
    (ChangeSpec.witness6 (enc := enc) (C := Tryz.checked) false ⟨#[], #[.slice none 0 0], []⟩ 8 (by kernel_rfl) (by kernel_rfl) (by kernel_rfl) (by kernel_rfl)) ?_
  intro W base args ds gs before hval0 hW hcnd hsz _
  have hval : ∀ (j : Nat) t v, Tryz.f3.params[j]? = some t → args[j]? = some v → Value.okWide Tryz.prog W .any base t v := hval0
  have hW' := hW
  obtain ⟨p, q, hA0, hV, rfl, hfz, hnd⟩ := hW
  have hA : DataW.TrodAll enc Tryz.prog W 0 (fun _ => true) true Tryz.f3.params.toList args.toList ds p := hA0
  have hsz1 : (DataW.weightsEach Tryz.prog (Tryz.f3.params.toList ++ Rows.partsOfSpec.plain.varTypes Tryz.prog) (ds ++ gs)).all (· ≤ reachBytes) = true := hsz
  rw [Tryz.params3] at hA hval hsz1
  obtain ⟨v0, d0, rfl, rfl, h0⟩ := trodAll_one hA
  obtain ⟨rfl, rfl⟩ := trodVars_none hV
  obtain ⟨q0, c0, xs, rfl, hs0, hnl, hn0⟩ := rows_opened (hval 0 22 v0 rfl rfl) h0
  have hsz2 : (DataW.weightsEach Tryz.prog [22] [d0]).all (· ≤ reachBytes) = true := hsz1
  simp only [DataW.weightsEach, List.all_append, Bool.and_eq_true] at hsz2
  have z0 := hsz2.1
  have key := of_true HAR q0 c0 xs W hs0 hnl.2 (hn0 z0).1 (hn0 z0).2
  clear hA0 hval0
  simp only [List.append_nil, List.append_assoc] at hW'
  have hlt : ∀ x ∈ p, x.block < W.heap.size := fun x hx => by simpa using hW'.lt x (by simpa using hx)
  refine key.mono fun e W' ⟨he, bel⟩ => ?_
  subst he
  refine ⟨_, rfl, _, _, _, [], p, [], hW', ?_, ?_, rfl, bel.frame _, fun h => by cases h⟩
  · exact trodAll_mk1 (shut_bool Tryz.underlying4 _)
  · exact trodAll_mk1 (Below.trod laidOut readRows rowRows h0 bel (fun x hx => hlt x (by simp [hx])))

theorem partsOf_holds : Rows.PartsOfSaid :=
  OpenClaim.holds_of_wide 3 Tryz.f3 rfl rfl rfl rfl rfl rfl rfl ⟨rfl, rfl, rfl, rfl, rfl⟩ rfl rfl rfl rfl rfl (by kernel_rfl) Tryz.func3 (by kernel_rfl)
    (of_decide_eq_true (by kernel_rfl)) (by unfold Func.isWrapper; first | (rw [if_pos (by decide +kernel)]; kernel_rfl) | (rw [if_neg (by decide +kernel)]; exact ⟨rfl, rfl⟩))
    (fun os started H enc _ => of_lifted apartRows_ok os started H enc)
end Go.Proofs.YtaeodgeefjmamaaGreat
