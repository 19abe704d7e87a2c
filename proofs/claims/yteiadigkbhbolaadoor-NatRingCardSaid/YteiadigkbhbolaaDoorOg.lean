/- NatRing: for every three Nats, of whatever lengths, it tells true, and they read as they did. No condition. The row's frame: what the listed table gives the walk, the argument opened, the statement put together, the card. -/
import Derived.Test.YteiadigkbhbolaaDoorOf
import Derived.Test.YteiadigkbhbolaaDoorVa
import Derived.Test.YteiadigkbhbolaaDoorCards
import Derived.Test.YteiadigkbhbolaaDoorTie
import Derived.ProofKit
import Derived.LaidMore
import Derived.OpenShut
import Derived.Stop.Joined
import Derived.ChangeMaps5
namespace Go.Proofs.YteiadigkbhbolaaDoor
open Go.ChangeShapes Go.WideShapes Go.ChangeAt Go.RowKit Tnd

theorem b_nv {l : List Nat} {k1 : Nat} (hd : Digs 4294967296 l) (h : 32 * l.length ≤ k1) : nv 4294967296 l < 2 ^ k1 := by
  have h1 := nv_lt 4294967296 l hd
  have e : (4294967296 : Nat) ^ l.length = 2 ^ (32 * l.length) := by rw [Nat.pow_mul]
  rw [e] at h1
  exact Nat.lt_of_lt_of_le h1 (Nat.pow_le_pow_right (by omega) h)
theorem NatIn.digs {w : World} {B : Nat} {v : Value} {l : List Nat} (h : NatIn w B v l) : Digs 4294967296 l := by
  obtain ⟨_, _, _, _, hd, _⟩ := h
  exact hd
theorem ring_true (p1 p2 p3 : Option Addr) (c1 c2 c3 : Nat) (l1 l2 l3 : List Nat) (w : World) (htab : Lib.TabIs Tryd.prog w "internal/strconv.uint64pow10" .u64 Lib.pow10Tab)
    (h1 : NatIn w w.heap.size (.agg #[.slice p1 l1.length c1]) l1) (h2 : NatIn w w.heap.size (.agg #[.slice p2 l2.length c2]) l2) (h3 : NatIn w w.heap.size (.agg #[.slice p3 l3.length c3]) l3)
    (ht : l1.length + l2.length + l3.length ≤ 1000000000000000000) :
    Calls Tryd.prog 4 #[.agg #[.slice p1 l1.length c1], .agg #[.slice p2 l2.length c2], .agg #[.slice p3 l3.length c3]] w fun e w' => e = .returned (.bool true) ∧ Below w.heap.size w w' := by
  by_cases hg : 57 < l1.length + l2.length + l3.length
  · exact ring_great p1 p2 p3 c1 c2 c3 l1 l2 l3 w htab h1 h2 h3 ht hg
  · obtain ⟨k1, hk1⟩ : ∃ k1, k1 = 1824 := ⟨_, rfl⟩
    obtain ⟨ka, hka⟩ : ∃ ka, ka = 14600 := ⟨_, rfl⟩
    exact ring_small p1 p2 p3 c1 c2 c3 l1 l2 l3 w htab h1 h2 h3 hg _ _ _ rfl rfl rfl ka (by omega) k1 (by omega) (b_nv h1.digs (by omega)) (b_nv h2.digs (by omega)) (b_nv h3.digs (by omega))

theorem own : ownKnob Tryd.prog.godebug = none := by kernel_rfl
theorem laidOut : laidOutB Tryd.prog = true := by kernel_rfl
theorem readNat : Tryd.prog.readableRec 25 = true := by kernel_rfl
theorem rowNat : 25 < Tryd.prog.types.size := of_decide_eq_true (by kernel_rfl)
theorem gTab : Tryd.prog.globalNamed "internal/strconv.uint64pow10" = some 2 := by kernel_rfl
theorem tTab : (Tryd.prog.globals[2]?).map (·.type) = some 123 := by kernel_rfl
theorem dTab : (Rows.laid_internal_strconv_uint64pow10 : DataW Unit) = Lib.tabData .u64 Lib.pow10Tab := by kernel_rfl

theorem tab_of_laid {W : World} (h : laidMetH Tryd.prog Rows.natRingRow.laid W) : Lib.TabIs Tryd.prog W "internal/strconv.uint64pow10" .u64 Lib.pow10Tab := by
  rw [MakeChecks.laidMetH_plain _ _ _ (by kernel_rfl)] at h
  obtain ⟨ps, ⟨_, _, _, _, _, _, _, _, _, _, ⟨_, _, _, _, _, _, _, _, _, _, ⟨g, t, cs, f, p, q, hg, ht, hv, hd, _, _⟩, _⟩, _⟩, _, _⟩ := h
  obtain rfl := Option.some.inj (gTab.symm.trans hg)
  obtain rfl := Option.some.inj (tTab.symm.trans ht)
  rw [dTab] at hd
  have e := Lib.cells_of_tab Tryd.underlying123 Tryd.underlying43 (by kernel_rfl) (by kernel_rfl) hd
  unfold Lib.TabIs
  rw [hv, ← e]

theorem door_met (os : Os) (args : Array Value) : laidMetH Tryd.prog Rows.natRingRow.laid ((World.doorLaid Tryd.prog 400 os).forCall (fun _ _ => 0) ⟨#[], args, []⟩).memory :=
  laidMetH_of_parts3 (fuel := 8) (laidMet_of_run' 8 (by kernel_rfl) (by kernel_rfl)) (by kernel_rfl) (by kernel_rfl)

set_option maxRecDepth 100000 in
theorem ring_lifted (os : Os) (started : os.Started) (H : Type) (enc : TypeId × Value → H) :
    ReturnsInHanded {} Tryd.checked os 4 .any (fun w args => (Rows.natRingSpec.pre enc Tryd.prog Tryd.f4 [] false w args ∧ laidMetH Tryd.prog Rows.natRingRow.laid w) ∧ sizedMet enc Tryd.prog Tryd.f4 (OpenSpec.ofChange Rows.natRingSpec) false w args)
      (Rows.natRingSpec.post enc Tryd.prog Tryd.f4 false true false false) := by
  refine returnsInHanded_of_change_and (C := Tryd.checked) (X := fun w _ => laidMetH Tryd.prog Rows.natRingRow.laid w) (fun _ _ _ hh h => h.of_heap hh) own started (by kernel_rfl) Tryd.func4
    (ChangeSpec.witness_shaped (enc := enc) (C := Tryd.checked) (os := os) (X := fun w _ => laidMetH Tryd.prog Rows.natRingRow.laid w) false (World.doorLaid Tryd.prog 400 os) #[.agg #[.slice none 0 0], .agg #[.slice none 0 0], .agg #[.slice none 0 0]] 8 rfl (World.shaped_of_RefB (by kernel_rfl) (by kernel_rfl)) (by kernel_rfl) (by kernel_rfl) (by kernel_rfl) (door_met os _)) ?_
  intro W base args ds gs before hval0 hW _ hsz hL _
  have hval : ∀ (j : Nat) t v, Tryd.f4.params[j]? = some t → args[j]? = some v → Value.okWide Tryd.prog W .any base t v := hval0
  have hW' := hW
  obtain ⟨p, q, hA0, hV, rfl, hfz, hnd⟩ := hW
  have hA : DataW.TrodAll enc Tryd.prog W 0 (fun _ => true) true Tryd.f4.params.toList args.toList ds p := hA0
  have hsz1 : (DataW.weightsEach Tryd.prog (Tryd.f4.params.toList ++ Rows.natRingSpec.plain.varTypes Tryd.prog) (ds ++ gs)).all (· ≤ reachBytes) = true := hsz
  rw [Tryd.params4] at hA hval hsz1
  obtain ⟨v0, v1, v2, d0, d1, d2, p0, p1, p2, rfl, rfl, rfl, h0, h1, h2⟩ := trodAll_three hA
  obtain ⟨rfl, rfl⟩ := trodVars_none hV
  obtain ⟨q0, c0, l0, rfl, s0, in0⟩ := nat_sized (hval 0 25 v0 rfl rfl) h0
  obtain ⟨q1, c1, l1, rfl, s1, in1⟩ := nat_sized (hval 1 25 v1 rfl rfl) h1
  obtain ⟨q2, c2, l2, rfl, s2, in2⟩ := nat_sized (hval 2 25 v2 rfl rfl) h2
  have hsz2 : (DataW.weightsEach Tryd.prog [25, 25, 25] [d0, d1, d2]).all (· ≤ reachBytes) = true := hsz1
  simp only [DataW.weightsEach, List.all_append, Bool.and_eq_true] at hsz2
  have y0 := s0 hsz2.1
  have y1 := s1 hsz2.2.1
  have y2 := s2 hsz2.2.2.1
  have htab := tab_of_laid hL
  clear hA0 hval0
  simp only [List.append_nil] at hW'
  have hlt : ∀ x ∈ p0 ++ (p1 ++ p2), x.block < W.heap.size := fun x hx => by simpa using hW'.lt x (by simpa using hx)
  refine (ring_true q0 q1 q2 c0 c1 c2 l0 l1 l2 W htab in0 in1 in2 (by omega)).mono fun e W' ⟨he, bel⟩ => ?_
  subst he
  refine ⟨_, rfl, _, _, _, [], p0 ++ (p1 ++ p2), [], hW', ?_, ?_, rfl, bel.frame _, fun h => by cases h⟩
  · exact trodAll_mk1 (shut_bool Tryd.underlying4 _)
  · exact trodAll_mk3 (Below.trod laidOut readNat rowNat h0 bel (fun x hx => hlt x (by simp [hx]))) (Below.trod laidOut readNat rowNat h1 bel (fun x hx => hlt x (by simp [hx]))) (Below.trod laidOut readNat rowNat h2 bel (fun x hx => hlt x (by simp [hx])))

theorem natRing_holds : Rows.NatRingSaid :=
  OpenClaim.holds_of_wide 4 Tryd.f4 rfl rfl rfl rfl rfl rfl rfl ⟨rfl, rfl, rfl, rfl, rfl⟩ rfl rfl rfl rfl rfl (by kernel_rfl) Tryd.func4 (by kernel_rfl)
    (of_decide_eq_true (by kernel_rfl)) (by unfold Func.isWrapper; first | (rw [if_pos (by decide +kernel)]; kernel_rfl) | (rw [if_neg (by decide +kernel)]; exact ⟨rfl, rfl⟩))
    (fun os started H enc _ => ring_lifted os started H enc)

theorem natRing_card : Rows.NatRingCardSaid :=
  Claim7.holds_tied_plain_at .later [] [.data, .data, .data, .sentinel, .sentinel] true Rows.natRingCard.stood.harness true
    natRing_holds (fun _ h => by cases h) (by kernel_rfl) (fun _ h => by cases h) natRing_row_tie rfl ⟨rfl, rfl⟩ (by kernel_rfl) rfl
    (fun f fn hf hfn => by
      obtain rfl : f = 4 := Option.some.inj ((show Tryd.prog.funcNamed "tinder/tinderlaw01.NatRing" = some 4 by kernel_rfl).symm.trans hf) |>.symm
      obtain rfl : fn = Tryd.f4 := (Option.some.inj (Tryd.func4.symm.trans hfn)).symm
      exact ⟨by kernel_rfl, fun j t ht => by
        rw [Tryd.params4] at ht
        have hm : t ∈ [25] := by
          have := Array.mem_of_getElem? ht
          simp at this
          simp [this]
        have hall : ([25].all fun u => !Tryd.prog.wantsStandIn u) = true := by kernel_rfl
        exact (show Tryd.prog.wantsStandIn t = false by simpa using List.all_eq_true.1 hall t hm)⟩)
    (by kernel_rfl)
end Go.Proofs.YteiadigkbhbolaaDoor
