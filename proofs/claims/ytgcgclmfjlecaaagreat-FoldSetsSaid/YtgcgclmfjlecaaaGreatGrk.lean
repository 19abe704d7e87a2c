/- FoldSets, for every tables and either way of folding, no condition: what words are made of, and lines, digits and spaces, is what the document tells, each time in memory of its own. The frame. -/
import Derived.Test.YtgcgclmfjlecaaaGreatGrj
import Derived.Test.YtgcgclmfjlecaaaGreatRows
import Derived.ProofKit
import Derived.OpenShut
import Derived.SizedLaws
import Derived.Deep.SlicePairs
import Derived.Carry
import Derived.Lib.SmallJoins

namespace Go.Proofs.YtgcgclmfjlecaaaGreat
open Go.ChangeShapes Go.WideShapes Go.ChangeAt Go.RowKit Go.Deep Go.Lib Tnr

theorem own : ownKnob Tryz.prog.godebug = none := by kernel_rfl
theorem laidOut : laidOutB Tryz.prog = true := by kernel_rfl
theorem readTables : Tryz.prog.readableRec 25 = true := by kernel_rfl
theorem rowTables : 25 < Tryz.prog.types.size := of_decide_eq_true (by kernel_rfl)
def iv : Value → Int
  | .int _ z => z
  | _ => 0
def sv : Value → ByteArray
  | .string s => s
  | _ => ⟨#[]⟩
theorem gr_map (len : Nat) (f : Nat → R) (i : Nat) (hi : i < len) : gr ((List.range len).map f) i = f i := by
  rw [gr_get (by simpa using hi)]; simp
theorem gp_map (len : Nat) (f : Nat → PV) (i : Nat) (hi : i < len) : gp ((List.range len).map f) i = f i := by
  rw [gp_get (by simpa using hi)]; simp
set_option maxRecDepth 100000 in
theorem set_read {H : Type} {enc : TypeId × Value → H} {W : World} {v : Value} {d : DataW H} {pl : List MemPlace} {fuel : Nat}
    (hf : DataW.trod enc Tryz.prog W 0 (fun _ => true) true fuel 28 [v] = some (d, pl)) :
    ∃ q c l, v = .slice q l.length c ∧ SlR W q l ∧ l.length ≤ 9223372036854775807 := by
  have ce : Tryz.prog.cellsOf 41 = 2 := by kernel_rfl
  have ci : Tryz.prog.cellsOf 3 = 1 := by kernel_rfl
  rcases open_slice_pairs Tryz.underlying28 Tryz.underlying41 ce rfl rfl ci ci hf with ⟨hcs, _⟩ | ⟨a, n, c, m, k, V0, V1, D0, D1, P0, P1, hcs, _, hlc, hcm, hmm, hx, hcell⟩
  · simp only [List.cons.injEq, and_true] at hcs
    subst hcs
    exact ⟨none, 0, [], rfl, .inl rfl, Nat.zero_le _⟩
  · simp only [List.cons.injEq, and_true] at hcs
    subst hcs
    simp only [if_true] at hmm
    have hl : ((List.range n).map fun i => ((iv (V0 i), iv (V1 i)) : R)).length = n := by simp
    refine ⟨some a, c, (List.range n).map fun i => (iv (V0 i), iv (V1 i)), by rw [hl], ?_, by rw [hl]; exact Nat.le_trans hlc (Nat.le_trans hcm (by decide))⟩
    by_cases h0 : n = 0
    · left; rw [h0]; rfl
    · right
      obtain ⟨b, off, spot⟩ := a
      have hspot : spot = none := by simpa [Addr.add] using World.cell?_spot (hcell 0 (by omega)).1
      subst hspot
      refine ⟨b, off, rfl, fun i hi => ?_⟩
      rw [hl] at hi
      rw [gr_map n _ i hi]
      obtain ⟨g1, g2, g3, g4⟩ := hcell i (by omega)
      obtain ⟨z0, e0, _, _⟩ := DataW.trod_int Tryz.underlying3 g3
      obtain ⟨z1, e1, _, _⟩ := DataW.trod_int Tryz.underlying3 g4
      simp only [List.cons.injEq, and_true] at e0 e1
      rw [e0] at g1
      rw [e1] at g2
      rw [e0, e1]
      rw [Go.WideShapes.add_plain] at g1 g2
      exact ⟨g1, by rw [Nat.add_assoc]; exact g2⟩
set_option maxRecDepth 100000 in
theorem folds_read {H : Type} {enc : TypeId × Value → H} {W : World} {v : Value} {d : DataW H} {pl : List MemPlace} {fuel : Nat}
    (hf : DataW.trod enc Tryz.prog W 0 (fun _ => true) true fuel 22 [v] = some (d, pl)) :
    ∃ q c l, v = .slice q l.length c ∧ SlR W q l ∧ ((d.weights Tryz.prog 22).all (· ≤ reachBytes) = true → l.length ≤ 10000000000000) := by
  have ce : Tryz.prog.cellsOf 70 = 2 := by kernel_rfl
  have ci : Tryz.prog.cellsOf 3 = 1 := by kernel_rfl
  rcases open_slice_pairs Tryz.underlying22 Tryz.underlying70 ce rfl rfl ci ci hf with ⟨hcs, _⟩ | ⟨a, n, c, m, k, V0, V1, D0, D1, P0, P1, hcs, _, hlc, hcm, hmm, hx, hcell⟩
  · simp only [List.cons.injEq, and_true] at hcs
    subst hcs
    exact ⟨none, 0, [], rfl, .inl rfl, fun _ => Nat.zero_le _⟩
  · simp only [List.cons.injEq, and_true] at hcs
    subst hcs
    simp only [if_true] at hmm
    have hl : ((List.range n).map fun i => ((iv (V0 i), iv (V1 i)) : R)).length = n := by simp
    refine ⟨some a, c, (List.range n).map fun i => (iv (V0 i), iv (V1 i)), by rw [hl], ?_, ?_⟩
    · by_cases h0 : n = 0
      · left; rw [h0]; rfl
      · right
        obtain ⟨b, off, spot⟩ := a
        have hspot : spot = none := by simpa [Addr.add] using World.cell?_spot (hcell 0 (by omega)).1
        subst hspot
        refine ⟨b, off, rfl, fun i hi => ?_⟩
        rw [hl] at hi
        rw [gr_map n _ i hi]
        obtain ⟨g1, g2, g3, g4⟩ := hcell i (by omega)
        obtain ⟨z0, e0, _, _⟩ := DataW.trod_int Tryz.underlying3 g3
        obtain ⟨z1, e1, _, _⟩ := DataW.trod_int Tryz.underlying3 g4
        simp only [List.cons.injEq, and_true] at e0 e1
        rw [e0] at g1
        rw [e1] at g2
        rw [e0, e1]
        rw [Go.WideShapes.add_plain] at g1 g2
        exact ⟨g1, by rw [Nat.add_assoc]; exact g2⟩
    · intro hw
      have hdd := congrArg Prod.fst hx
      simp only at hdd
      rw [hdd] at hw
      simp only [DataW.weights, Tryz.underlying22, List.all_cons, Bool.and_eq_true, decide_eq_true_eq] at hw
      have hb8 : Tryz.prog.bytesOf 70 = 16 := by kernel_rfl
      rw [hb8] at hw
      have h1 := hw.1
      rw [hl]
      simp only [List.length_map, List.length_range, reachBytes] at h1
      omega
set_option maxRecDepth 100000 in
theorem props_read {H : Type} {enc : TypeId × Value → H} {W : World} {v : Value} {d : DataW H} {pl : List MemPlace} {fuel : Nat}
    (hf : DataW.trod enc Tryz.prog W 0 (fun _ => true) true fuel 23 [v] = some (d, pl)) :
    ∃ q c xs, v = .slice q xs.length c ∧ SlP W q xs ∧ (∀ x ∈ xs, x.1.size ≤ 9223372036854775807 ∧ x.2.2.2.length ≤ 9223372036854775807) ∧ ((d.weights Tryz.prog 23).all (· ≤ reachBytes) = true → xs.length ≤ 10000000000000) := by
  have ce : Tryz.prog.cellsOf 36 = 2 := by kernel_rfl
  have cs : Tryz.prog.cellsOf 9 = 1 := by kernel_rfl
  have cr : Tryz.prog.cellsOf 28 = 1 := by kernel_rfl
  rcases open_slice_pairs Tryz.underlying23 Tryz.underlying36 ce rfl rfl cs cr hf with ⟨hcs, _⟩ | ⟨a, n, c, m, k, V0, V1, D0, D1, P0, P1, hcs, _, hlc, hcm, hmm, hx, hcell⟩
  · simp only [List.cons.injEq, and_true] at hcs
    subst hcs
    exact ⟨none, 0, [], rfl, ⟨fun x hx => by simp at hx, .inl rfl⟩, fun x hx => by simp at hx, fun _ => Nat.zero_le _⟩
  · simp only [List.cons.injEq, and_true] at hcs
    subst hcs
    simp only [if_true] at hmm
    obtain ⟨G, hG⟩ := choose_lt (α := PV) (n := n) (p := fun i x => V0 i = .string x.1 ∧ x.1.size ≤ 9223372036854775807 ∧ V1 i = .slice x.2.1 x.2.2.2.length x.2.2.1 ∧ SlR W x.2.1 x.2.2.2 ∧ x.2.2.2.length ≤ 9223372036854775807) (fun i hi => by
      obtain ⟨g1, g2, g3, g4⟩ := hcell i (by omega)
      obtain ⟨z1, e1, _, e3⟩ := DataW.trod_string Tryz.underlying9 g3
      obtain ⟨q, c, l, h1, h2, h3⟩ := set_read g4
      simp only [List.cons.injEq, and_true] at e1
      exact ⟨(z1, q, c, l), e1, Nat.le_trans e3 (by decide), h1, h2, h3⟩)
    have hl : ((List.range n).map G).length = n := by simp
    refine ⟨some a, c, (List.range n).map G, by rw [hl], ⟨?_, ?_⟩, ?_, ?_⟩
    · intro x hx
      rw [List.mem_map] at hx
      obtain ⟨i, hi, rfl⟩ := hx
      exact (hG i (List.mem_range.1 hi)).2.2.2.1
    · by_cases h0 : n = 0
      · left; rw [h0]; rfl
      · right
        obtain ⟨b, off, spot⟩ := a
        have hspot : spot = none := by simpa [Addr.add] using World.cell?_spot (hcell 0 (by omega)).1
        subst hspot
        refine ⟨b, off, rfl, fun i hi => ?_⟩
        rw [hl] at hi
        rw [gp_map n _ i hi]
        obtain ⟨g1, g2, g3, g4⟩ := hcell i (by omega)
        rw [Go.WideShapes.add_plain] at g1 g2
        rw [(hG i hi).1] at g1
        rw [(hG i hi).2.2.1] at g2
        exact ⟨g1, by rw [Nat.add_assoc]; exact g2⟩
    · intro x hx
      rw [List.mem_map] at hx
      obtain ⟨i, hi, rfl⟩ := hx
      exact ⟨(hG i (List.mem_range.1 hi)).2.1, (hG i (List.mem_range.1 hi)).2.2.2.2⟩
    · intro hw
      have hdd := congrArg Prod.fst hx
      simp only at hdd
      rw [hdd] at hw
      simp only [DataW.weights, Tryz.underlying23, List.all_cons, Bool.and_eq_true, decide_eq_true_eq] at hw
      have hb8 : Tryz.prog.bytesOf 36 = 40 := by kernel_rfl
      rw [hb8] at hw
      have h1 := hw.1
      rw [hl]
      simp only [List.length_map, List.length_range, reachBytes] at h1
      omega
set_option maxRecDepth 100000 in
/-- tables that came in, of their cells. -/
theorem tables_opened {H : Type} {enc : TypeId × Value → H} {W : World} {b0 : Nat} {v : Value} {d : DataW H} {p : List MemPlace}
    (hv : Value.okWide Tryz.prog W .any b0 25 v) (h : DataW.Trod enc Tryz.prog W 0 (fun _ => true) true 25 v d p) :
    ∃ q c F q2 c2 ps, v = .agg #[.slice q F.length c, .slice q2 ps.length c2] ∧ SlR W q F ∧ SlP W q2 ps ∧ (∀ x ∈ ps, x.1.size ≤ 9223372036854775807 ∧ x.2.2.2.length ≤ 9223372036854775807) ∧
      ((d.weights Tryz.prog 25).all (· ≤ reachBytes) = true → F.length ≤ 10000000000000 ∧ ps.length ≤ 10000000000000) := by
  obtain ⟨v0, v1, ⟨d0, p0⟩, ⟨d1, p1⟩, n, rfl, rfl, _, h0, h1⟩ := Go.Joins.open_agg2 Tryz.underlying25 (by kernel_rfl) (by kernel_rfl) hv h
  obtain ⟨q, c, F, rfl, hF, hw0⟩ := folds_read h0
  obtain ⟨q2, c2, ps, rfl, hP, hz, hw1⟩ := props_read h1
  refine ⟨q, c, F, q2, c2, ps, rfl, hF, hP, hz, fun hw => ?_⟩
  have hw2 : ((DataW.weightsEach Tryz.prog [22, 23] [d0, d1]).all (· ≤ reachBytes)) = true := by
    simpa [DataW.weights, Tryz.underlying25] using hw
  simp only [DataW.weightsEach, List.all_append, Bool.and_eq_true] at hw2
  exact ⟨hw0 hw2.1, hw1 hw2.2.1⟩

set_option maxRecDepth 100000 in
theorem foldSets_lifted (os : Os) (started : os.Started) (H : Type) (enc : TypeId × Value → H) :
    ReturnsInHanded {} Tryz.checked os 3 .any (Rows.foldSetsSpec.pre6 enc Tryz.prog Tryz.f3 Rows.foldSetsRow.domain false) (Rows.foldSetsSpec.post enc Tryz.prog Tryz.f3 false true false false) := by
  refine returnsInHanded_of_change_sized (C := Tryz.checked) own started (by kernel_rfl) Tryz.func3
    (ChangeSpec.witness6 (enc := enc) (C := Tryz.checked) false ⟨#[], #[.agg #[.slice none 0 0, .slice none 0 0], .bool false], []⟩ 8 (by kernel_rfl) (by kernel_rfl) (by kernel_rfl) (by kernel_rfl)) ?_
  intro W base args ds gs before hval0 hW hcnd hsz _
  have hval : ∀ (j : Nat) t v, Tryz.f3.params[j]? = some t → args[j]? = some v → Value.okWide Tryz.prog W .any base t v := hval0
  have hW' := hW
  obtain ⟨p, q, hA0, hV, rfl, hfz, hnd⟩ := hW
  have hA : DataW.TrodAll enc Tryz.prog W 0 (fun _ => true) true Tryz.f3.params.toList args.toList ds p := hA0
  have hsz1 : (DataW.weightsEach Tryz.prog (Tryz.f3.params.toList ++ Rows.foldSetsSpec.plain.varTypes Tryz.prog) (ds ++ gs)).all (· ≤ reachBytes) = true := hsz
  rw [Tryz.params3] at hA hval hsz1
  obtain ⟨v0, v1, d0, d1, p0, p1, rfl, rfl, rfl, h0, h1⟩ := trodAll_two hA
  obtain ⟨rfl, rfl⟩ := trodVars_none hV
  obtain ⟨q0, c0, F, q2, c2, ps, rfl, hF, hP, hz, hn0⟩ := tables_opened (hval 0 25 v0 rfl rfl) h0
  obtain ⟨fo, rfl, rfl, rfl⟩ := open_bool Tryz.underlying4 (hval 1 4 v1 rfl rfl) h1
  have hsz2 : (DataW.weightsEach Tryz.prog [25, 4] [d0, .lit (.bool fo)]).all (· ≤ reachBytes) = true := hsz1
  simp only [DataW.weightsEach, List.all_append, Bool.and_eq_true] at hsz2
  obtain ⟨z0, _⟩ := hsz2
  have key := foldSets_true q0 q2 c0 c2 F.length ps.length F ps fo W rfl hF (hn0 z0).1 rfl hP (hn0 z0).2 hz
  clear hA0 hval0
  simp only [List.append_nil] at hW'
  have hlt : ∀ x ∈ p0, x.block < W.heap.size := fun x hx => by simpa using hW'.lt x (by simpa using hx)
  refine key.mono fun e W' ⟨he, bel⟩ => ?_
  subst he
  refine ⟨_, rfl, _, _, _, [], p0 ++ [], [], hW', ?_, ?_, rfl, bel.frame _, fun h => by cases h⟩
  · exact trodAll_mk1 (shut_bool Tryz.underlying4 _)
  · exact trodAll_mk2 (Below.trod laidOut readTables rowTables h0 bel hlt) (shut_bool Tryz.underlying4 _)

theorem foldSets_holds : Rows.FoldSetsSaid :=
  OpenClaim.holds_of_wide 3 Tryz.f3 rfl rfl rfl rfl rfl rfl rfl ⟨rfl, rfl, rfl, rfl, rfl⟩ rfl rfl rfl rfl rfl (by kernel_rfl) Tryz.func3 (by kernel_rfl)
    (of_decide_eq_true (by kernel_rfl)) (by unfold Func.isWrapper; first | (rw [if_pos (by decide +kernel)]; kernel_rfl) | (rw [if_neg (by decide +kernel)]; exact ⟨rfl, rfl⟩))
    (fun os started H enc _ => foldSets_lifted os started H enc)
end Go.Proofs.YtgcgclmfjlecaaaGreat
