/- ScanTail, for every numbers and asks, no condition: what a scan tells, ask by ask, is what a new scan of the rest tells, its place being as much further on; what tells false reads nothing; the place never goes back, nor beyond the end; all that was read and is left is what there was. The frame. -/
import Derived.Test.YtkpkhjflelmdjaaYy
import Derived.Test.YtkpkhjflelmdjaaRows
import Derived.ProofKit
import Derived.OpenShut
import Derived.SizedLaws
import Derived.Deep.SlicePairs
import Derived.Carry
namespace Go.Proofs.Ytkpkhjflelmdjaa
open Go.ChangeShapes Go.WideShapes Go.ChangeAt Go.RowKit Go.Deep Tnd

theorem own : ownKnob Try.prog.godebug = none := by kernel_rfl
theorem laidOut : laidOutB Try.prog = true := by kernel_rfl
theorem readAsks : Try.prog.readableRec 23 = true := by kernel_rfl
theorem rowAsks : 23 < Try.prog.types.size := of_decide_eq_true (by kernel_rfl)
theorem readInts : Try.prog.readableRec 22 = true := by kernel_rfl
theorem rowInts : 22 < Try.prog.types.size := of_decide_eq_true (by kernel_rfl)
theorem gi_taken {zs : List Int} {len i : Nat} (hi : i < len) : gi (zs.take len) i = zs.getD i 0 := by
  unfold gi
  rw [List.getD_eq_getElem?_getD, List.getD_eq_getElem?_getD, List.getElem?_take, if_pos hi]
set_option maxRecDepth 100000 in
theorem ints_open {H : Type} {enc : TypeId × Value → H} {W : World} {v : Value} {d : DataW H} {p : List MemPlace} {b0 : Nat}
    (hv : Value.okWide Try.prog W .any b0 22 v) (h : DataW.Trod enc Try.prog W 0 (fun _ => true) true 22 v d p) :
    ∃ q c l, v = .slice q l.length c ∧ SlI W q l ∧ (q = none → c = 0) ∧ l.length ≤ c ∧ c ≤ maxLen := by
  obtain ⟨q, n, c, rfl⟩ : ∃ q n c, v = .slice q n c := okWide_slice Try.underlying22 hv
  obtain ⟨fuel, hf⟩ := h
  have hcells : (Value.slice q n c).cells.toList = [.slice q n c] := rfl
  rw [hcells] at hf
  rcases open_ints Try.underlying22 Try.underlying3 (by kernel_rfl) hf with ⟨hcs, _⟩ | ⟨a, len, cap, zs, hcs, _, hlc, hcm, hzl, hyy, hcell, hwf⟩
  · simp only [List.cons.injEq, Value.slice.injEq, and_true] at hcs
    obtain ⟨rfl, rfl, rfl⟩ := hcs
    exact ⟨none, 0, [], rfl, .inl rfl, fun _ => rfl, Nat.le_refl _, Nat.zero_le _⟩
  · simp only [List.cons.injEq, Value.slice.injEq, and_true] at hcs
    obtain ⟨rfl, rfl, rfl⟩ := hcs
    simp only [if_true] at hzl
    have hl : (zs.take n).length = n := by simp; omega
    refine ⟨some a, c, zs.take n, by rw [hl], ?_, (fun h => by cases h), by rw [hl]; exact hlc, hcm⟩
    by_cases h0 : n = 0
    · left; rw [h0]; rfl
    · right
      obtain ⟨b, off, rfl, hc⟩ := ints_at hcell (by omega)
      refine ⟨b, off, rfl, fun i hi => ?_⟩
      rw [hl] at hi
      rw [hc i (by omega), gi_taken hi]
def ivl : Value → Int
  | .int _ z => z
  | _ => 0
def svl : Value → ByteArray
  | .string s => s
  | _ => noB
theorem ga_map (n : Nat) (f : Nat → Int × ByteArray) (i : Nat) (hi : i < n) : ga ((List.range n).map f) i = f i := by
  unfold ga
  rw [List.getD_eq_getElem?_getD, List.getElem?_map, List.getElem?_range hi]; rfl
set_option maxRecDepth 100000 in
theorem asks_open {H : Type} {enc : TypeId × Value → H} {W : World} {v : Value} {d : DataW H} {p : List MemPlace} {b0 : Nat}
    (hv : Value.okWide Try.prog W .any b0 23 v) (h : DataW.Trod enc Try.prog W 0 (fun _ => true) true 23 v d p) :
    ∃ q c l, v = .slice q l.length c ∧ SlA W q l ∧ l.length ≤ c ∧ c ≤ maxLen ∧ ∀ i, i < l.length → (ga l i).2.size ≤ maxLen := by
  obtain ⟨q, n, c, rfl⟩ : ∃ q n c, v = .slice q n c := okWide_slice Try.underlying23 hv
  obtain ⟨fuel, hf⟩ := h
  have hcells : (Value.slice q n c).cells.toList = [.slice q n c] := rfl
  rw [hcells] at hf
  have ce : Try.prog.cellsOf 33 = 2 := by kernel_rfl
  have ci : Try.prog.cellsOf 3 = 1 := by kernel_rfl
  have cs : Try.prog.cellsOf 9 = 1 := by kernel_rfl
  rcases open_slice_pairs Try.underlying23 Try.underlying33 ce rfl rfl ci cs hf with ⟨hcs, _⟩ | ⟨a, len, cap, m, k, V0, V1, D0, D1, P0, P1, hcs, _, hlc, hcm, hmm, hx, hcell⟩
  · simp only [List.cons.injEq, Value.slice.injEq, and_true] at hcs
    obtain ⟨rfl, rfl, rfl⟩ := hcs
    exact ⟨none, 0, [], rfl, .inl rfl, Nat.le_refl _, Nat.zero_le _, fun i hi => by simp at hi⟩
  · simp only [List.cons.injEq, Value.slice.injEq, and_true] at hcs
    obtain ⟨rfl, rfl, rfl⟩ := hcs
    simp only [if_true] at hmm
    have hl : ((List.range n).map fun i => (ivl (V0 i), svl (V1 i))).length = n := by simp
    refine ⟨some a, c, (List.range n).map fun i => (ivl (V0 i), svl (V1 i)), by rw [hl], ?_, by rw [hl]; exact hlc, hcm, ?_⟩
    · by_cases h0 : n = 0
      · left; rw [h0]; rfl
      · right
        obtain ⟨b, off, spot⟩ := a
        have hspot : spot = none := by simpa [Addr.add] using World.cell?_spot (hcell 0 (by omega)).1
        subst hspot
        refine ⟨b, off, rfl, fun i hi => ?_⟩
        rw [hl] at hi
        rw [ga_map n _ i hi]
        obtain ⟨g1, g2, g3, g4⟩ := hcell i (by omega)
        obtain ⟨z0, e0, _, _⟩ := DataW.trod_int Try.underlying3 g3
        obtain ⟨z1, e1, _, _⟩ := DataW.trod_string Try.underlying9 g4
        simp only [List.cons.injEq, and_true] at e0 e1
        rw [e0] at g1
        rw [e1] at g2
        rw [e0, e1]
        rw [Go.WideShapes.add_plain] at g1 g2
        exact ⟨g1, by rw [Nat.add_assoc]; exact g2⟩
    · intro i hi
      rw [hl] at hi
      rw [ga_map n _ i hi]
      obtain ⟨g1, g2, g3, g4⟩ := hcell i (by omega)
      obtain ⟨z1, e1, _, e3⟩ := DataW.trod_string Try.underlying9 g4
      simp only [List.cons.injEq, and_true] at e1
      rw [e1]; exact e3

set_option maxRecDepth 100000 in
theorem tail_lifted (os : Os) (started : os.Started) (H : Type) (enc : TypeId × Value → H) :
    ReturnsInHanded {} Try.checked os 6 .any (Rows.scanTailSpec.pre6 enc Try.prog Try.f6 Rows.scanTailRow.domain false) (Rows.scanTailSpec.post enc Try.prog Try.f6 false true false false) := by
  refine returnsInHanded_of_change_sized (C := Try.checked) own started (by kernel_rfl) Try.func6
    (ChangeSpec.witness6 (enc := enc) (C := Try.checked) false ⟨#[], #[.slice none 0 0, .slice none 0 0], []⟩ 8 (by kernel_rfl) (by kernel_rfl) (by kernel_rfl) (by kernel_rfl)) ?_
  intro W base args ds gs before hval0 hW hcnd hsz _
  have hval : ∀ (j : Nat) t v, Try.f6.params[j]? = some t → args[j]? = some v → Value.okWide Try.prog W .any base t v := hval0
  have hW' := hW
  obtain ⟨p, q, hA0, hV, rfl, hfz, hnd⟩ := hW
  have hA : DataW.TrodAll enc Try.prog W 0 (fun _ => true) true Try.f6.params.toList args.toList ds p := hA0
  rw [Try.params6] at hA hval
  obtain ⟨v0, v1, d0, d1, p0, p1, rfl, rfl, rfl, h0, h1⟩ := trodAll_two hA
  obtain ⟨rfl, rfl⟩ := trodVars_none hV
  obtain ⟨q0, c0, l, rfl, hs, hq, hlc, hcm⟩ := ints_open (hval 0 22 v0 rfl rfl) h0
  obtain ⟨q1, c1, asks, rfl, ha, hal, ham, hst⟩ := asks_open (hval 1 23 v1 rfl rfl) h1
  simp only [maxLen] at hcm ham hst
  have key := tail_true q0 l c0 q1 asks c1 W hs hq hlc hcm ha hal ham hst
  clear hA0 hval0
  simp only [List.append_nil, List.append_assoc] at hW'
  have hlt : ∀ x ∈ p0 ++ p1, x.block < W.heap.size := fun x hx => by simpa using hW'.lt x (by simpa using hx)
  refine key.mono fun e W' ⟨he, bel⟩ => ?_
  subst he
  refine ⟨_, rfl, _, _, _, [], p0 ++ p1, [], hW', ?_, ?_, rfl, bel.frame _, fun h => by cases h⟩
  · exact trodAll_mk1 (shut_bool Try.underlying4 _)
  · exact trodAll_mk2 (Below.trod laidOut readInts rowInts h0 bel (fun x hx => hlt x (by simp [hx]))) (Below.trod laidOut readAsks rowAsks h1 bel (fun x hx => hlt x (by simp [hx])))

theorem scanTail_holds : Rows.ScanTailSaid :=
  OpenClaim.holds_of_wide 6 Try.f6 rfl rfl rfl rfl rfl rfl rfl ⟨rfl, rfl, rfl, rfl, rfl⟩ rfl rfl rfl rfl rfl (by kernel_rfl) Try.func6 (by kernel_rfl)
    (of_decide_eq_true (by kernel_rfl)) (by unfold Func.isWrapper; first | (rw [if_pos (by decide +kernel)]; kernel_rfl) | (rw [if_neg (by decide +kernel)]; exact ⟨rfl, rfl⟩))
    (fun os started H enc _ => tail_lifted os started H enc)
end Go.Proofs.Ytkpkhjflelmdjaa
