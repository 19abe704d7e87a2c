/- PointsRound, for every list of numbers and every two texts, no condition: numbers that have a text are the code points of it; a text that has code points is just theirs; two texts one behind the other have the code points of both. The row's frame and its tied card. -/
import Derived.Test.YtephbdglibcfiabDoorPw
import Derived.Test.YtephbdglibcfiabDoorPu1
import Derived.Test.YtephbdglibcfiabDoorPu2
import Derived.Test.YtephbdglibcfiabDoorPu3
import Derived.Test.YtephbdglibcfiabDoorPu4
import Derived.Test.YtephbdglibcfiabDoorPu5
import Derived.Test.YtephbdglibcfiabDoorPu6
import Derived.Carry
namespace Go.Proofs.YtephbdglibcfiabDoor
open Go.ChangeShapes Go.WideShapes Go.ChangeAt Go.RowKit Tnd

theorem round_true (q : Option Addr) (cl : Nat) (l : List Int) (s t : ByteArray) (w : World) (hL : LeadsIn w) (hS : SizesIn w) (hq : SlI w q l) (hl : l.length ≤ 1000000000000000) (hs : s.size ≤ 1000000000000000) (ht : t.size ≤ 1000000000000000) :
    Calls Tryd.prog 8 #[.slice q l.length cl, .string s, .string t] w fun e w' => e = .returned (.bool true) ∧ Below w.heap.size w w' := by
  by_cases hg : 3000 < l.length ∨ 3000 < s.size + t.size
  · exact round_great q cl l.length s t w hL hl hs ht hg
  have hsl : s.data.toList.length = s.size := by simp
  have htl : t.data.toList.length = t.size := by simp
  have g1 : l.length ≤ 3000 := by omega
  have g2 : s.size + t.size ≤ 3000 := by omega
  rcases ofR_kind s.data.toList with ⟨a, h1⟩ | ⟨n1, h1⟩ | ⟨h1, _⟩
  case inr.inr => omega
  all_goals rcases textR_kind l with ⟨x, hx, hxl, hxo, hxi⟩ | hx
  · rcases ofR_kind t.data.toList with ⟨b, h2⟩ | ⟨n2, h2⟩ | ⟨h2, _⟩
    · exact round_yes_rr q cl l s t w hL hS hq g1 g2 x hx hxl hxo hxi a b h1 h2
    · exact round_yes_rw q cl l s t w hL hS hq g1 g2 x hx hxl hxo hxi a n2 h1 h2
    · omega
  · rcases ofR_kind t.data.toList with ⟨b, h2⟩ | ⟨n2, h2⟩ | ⟨h2, _⟩
    · exact round_no_rr q cl l s t w hL hS hq g1 g2 hx a b h1 h2
    · exact round_no_rw q cl l s t w hL hS hq g1 g2 hx a n2 h1 h2
    · omega
  · exact round_yes_w q cl l s t w hL hS hq g1 g2 x hx hxl hxo hxi n1 h1
  · exact round_no_w q cl l s t w hL hS hq g1 g2 hx n1 h1

theorem round_met (os : Os) (args : Array Value) : laidMetH Tryd.prog Rows.pointsRoundRow.laid ((World.doorLaid Tryd.prog 400 os).forCall (fun _ _ => 0) ⟨#[], args, []⟩).memory :=
  laidMetH_of_parts3 (fuel := 8) (laidMet_of_run' 8 (by kernel_rfl) (by kernel_rfl)) (by kernel_rfl) (by kernel_rfl)

set_option maxRecDepth 100000 in
theorem round_lifted (os : Os) (started : os.Started) (H : Type) (enc : TypeId × Value → H) :
    ReturnsInHanded {} Tryd.checked os 8 .any (fun w args => (Rows.pointsRoundSpec.pre enc Tryd.prog Tryd.f8 [] false w args ∧ laidMetH Tryd.prog Rows.pointsRoundRow.laid w) ∧ sizedMet enc Tryd.prog Tryd.f8 (OpenSpec.ofChange Rows.pointsRoundSpec) false w args)
      (Rows.pointsRoundSpec.post enc Tryd.prog Tryd.f8 false true false false) := by
  refine returnsInHanded_of_change_and (C := Tryd.checked) (X := fun w _ => laidMetH Tryd.prog Rows.pointsRoundRow.laid w) (fun _ _ _ hh h => h.of_heap hh) own started (by kernel_rfl) Tryd.func8
    (ChangeSpec.witness_shaped (enc := enc) (C := Tryd.checked) (os := os) (X := fun w _ => laidMetH Tryd.prog Rows.pointsRoundRow.laid w) false (World.doorLaid Tryd.prog 400 os) #[.slice none 0 0, .string ⟨#[]⟩, .string ⟨#[]⟩] 8 rfl (World.shaped_of_RefB (by kernel_rfl) (by kernel_rfl)) (by kernel_rfl) (by kernel_rfl) (by kernel_rfl) (round_met os _)) ?_
  intro W base args ds gs before hval0 hW _ hsz hL _
  have hval : ∀ (j : Nat) t v, Tryd.f8.params[j]? = some t → args[j]? = some v → Value.okWide Tryd.prog W .any base t v := hval0
  have hW' := hW
  obtain ⟨p, q, hA0, hV, rfl, hfz, hnd⟩ := hW
  have hA : DataW.TrodAll enc Tryd.prog W 0 (fun _ => true) true Tryd.f8.params.toList args.toList ds p := hA0
  have hsz1 : (DataW.weightsEach Tryd.prog (Tryd.f8.params.toList ++ Rows.pointsRoundSpec.plain.varTypes Tryd.prog) (ds ++ gs)).all (· ≤ reachBytes) = true := hsz
  rw [Tryd.params8] at hA hval hsz1
  obtain ⟨v0, v1, v2, d0, d1, d2, p0, p1, p2, rfl, rfl, rfl, h0, h1, h2⟩ := trodAll_three hA
  obtain ⟨rfl, rfl⟩ := trodVars_none hV
  obtain ⟨s, rfl, rfl, rfl, ws⟩ := Go.ChangeMaps.open_string Tryd.underlying9 (hval 1 9 v1 rfl rfl) h1
  obtain ⟨t, rfl, rfl, rfl, wt⟩ := Go.ChangeMaps.open_string Tryd.underlying9 (hval 2 9 v2 rfl rfl) h2
  obtain ⟨qq, c, l, rfl, hsl, hlc, hcm, hqn, hlen⟩ := ints_opened (hval 0 33 v0 rfl rfl) h0
  have hsz2 : (DataW.weightsEach Tryd.prog [33, 9, 9] [d0, .lit (.string s.data.toList), .lit (.string t.data.toList)]).all (· ≤ reachBytes) = true := hsz1
  simp only [DataW.weightsEach, List.all_append, Bool.and_eq_true] at hsz2
  obtain ⟨z0, z1, z2, _⟩ := hsz2
  have y1 : s.size ≤ 1000000000000000 := by
    have h := List.all_eq_true.1 z1 s.data.toList.length (by simp [DataW.weights])
    rw [decide_eq_true_iff] at h
    simp only [reachBytes] at h
    have e : s.data.toList.length = s.size := by simp
    omega
  have y2 : t.size ≤ 1000000000000000 := by
    have h := List.all_eq_true.1 z2 t.data.toList.length (by simp [DataW.weights])
    rw [decide_eq_true_iff] at h
    simp only [reachBytes] at h
    have e : t.data.toList.length = t.size := by simp
    omega
  obtain ⟨hLe, hSi⟩ := both_of_laid hL
  have key := round_true qq c l s t W hLe hSi hsl (hlen z0) y1 y2
  clear hA0 hval0
  simp only [List.append_nil] at hW'
  have hlt : ∀ x ∈ p0, x.block < W.heap.size := fun x hx => by simpa using hW'.lt x (by simpa using hx)
  refine key.mono fun e W' ⟨he, bel⟩ => ?_
  subst he
  refine ⟨_, rfl, _, _, _, [], p0 ++ ([] ++ []), [], hW', ?_, ?_, rfl, bel.frame _, fun h => by cases h⟩
  · exact trodAll_mk1 (shut_bool Tryd.underlying4 _)
  · exact trodAll_mk3 (Below.trod laidOut readInts rowInts h0 bel hlt) (Go.ChangeMaps.shut_string Tryd.underlying9 ws) (Go.ChangeMaps.shut_string Tryd.underlying9 wt)

theorem pointsRound_holds : Rows.PointsRoundSaid :=
  OpenClaim.holds_of_wide 8 Tryd.f8 rfl rfl rfl rfl rfl rfl rfl ⟨rfl, rfl, rfl, rfl, rfl⟩ rfl rfl rfl rfl rfl (by kernel_rfl) Tryd.func8 (by kernel_rfl)
    (of_decide_eq_true (by kernel_rfl)) (by unfold Func.isWrapper; first | (rw [if_pos (by decide +kernel)]; kernel_rfl) | (rw [if_neg (by decide +kernel)]; exact ⟨rfl, rfl⟩))
    (fun os started H enc _ => round_lifted os started H enc)

theorem pointsRound_card : Rows.PointsRoundCardSaid :=
  Claim7.holds_tied_plain_at .later [] [.data, .data] true Rows.pointsRoundCard.stood.harness true
    pointsRound_holds (fun _ h => by cases h) (by kernel_rfl) (fun _ h => by cases h) pointsRound_row_tie rfl ⟨rfl, rfl⟩ (by kernel_rfl) rfl
    (fun f fn hf hfn => by
      obtain rfl : f = 8 := Option.some.inj ((show Tryd.prog.funcNamed "tinder/tinderlaw02.PointsRound" = some 8 by kernel_rfl).symm.trans hf) |>.symm
      obtain rfl : fn = Tryd.f8 := (Option.some.inj (Tryd.func8.symm.trans hfn)).symm
      exact ⟨by kernel_rfl, fun j t ht => by
        rw [Tryd.params8] at ht
        have hm : t ∈ [33, 9] := by
          have := Array.mem_of_getElem? ht
          simp at this
          simp [this]
        have hall : ([33, 9].all fun u => !Tryd.prog.wantsStandIn u) = true := by kernel_rfl
        exact (show Tryd.prog.wantsStandIn t = false by simpa using List.all_eq_true.1 hall t hm)⟩)
    (by kernel_rfl)
end Go.Proofs.YtephbdglibcfiabDoor
