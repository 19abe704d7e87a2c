/- Rows of ranges, rows of numbers that came in: of their cells; the reading's size bounds their lengths. -/
import Derived.Test.YtildfjlaieaadaaGreatQl
import Derived.Test.YtildfjlaieaadaaGreatRows
import Derived.ProofKit
import Derived.OpenShut
import Derived.SizedLaws
import Derived.Deep.SlicePairs
import Derived.Carry

namespace Go.Proofs.YtildfjlaieaadaaGreat
open Go.ChangeShapes Go.WideShapes Go.ChangeAt Go.RowKit Go.Deep Tnr

theorem own : ownKnob Tryz.prog.godebug = none := by kernel_rfl
theorem laidOut : laidOutB Tryz.prog = true := by kernel_rfl
theorem readInts : Tryz.prog.readableRec 32 = true := by kernel_rfl
theorem rowInts : 32 < Tryz.prog.types.size := of_decide_eq_true (by kernel_rfl)
theorem readInt : Tryz.prog.readableRec 3 = true := by kernel_rfl
theorem rowInt : 3 < Tryz.prog.types.size := of_decide_eq_true (by kernel_rfl)

def iv : Value → Int
  | .int _ z => z
  | _ => 0
theorem gr_map (len : Nat) (f : Nat → R) (i : Nat) (hi : i < len) : gr ((List.range len).map f) i = f i := by
  rw [gr_get (by simpa using hi)]; simp
theorem gq_take {zs : List Int} {len i : Nat} (hi : i < len) : gq (zs.take len) i = zs.getD i 0 := by
  unfold gq
  rw [List.getD_eq_getElem?_getD, List.getD_eq_getElem?_getD, List.getElem?_take, if_pos hi]
set_option maxRecDepth 100000 in
theorem ints_opened {H : Type} {enc : TypeId × Value → H} {W : World} {v : Value} {d : DataW H} {p : List MemPlace} {b0 : Nat}
    (hv : Value.okWide Tryz.prog W .any b0 32 v) (h : DataW.Trod enc Tryz.prog W 0 (fun _ => true) true 32 v d p) :
    ∃ q c l, v = .slice q l.length c ∧ SlQ W q l ∧ ((d.weights Tryz.prog 32).all (· ≤ reachBytes) = true → l.length ≤ 1000000000000000) := by
  obtain ⟨q, n, c, rfl⟩ : ∃ q n c, v = .slice q n c := okWide_slice Tryz.underlying32 hv
  obtain ⟨fuel, hf⟩ := h
  have hcells : (Value.slice q n c).cells.toList = [.slice q n c] := rfl
  rw [hcells] at hf
  rcases open_ints Tryz.underlying32 Tryz.underlying3 (by kernel_rfl) hf with ⟨hcs, _⟩ | ⟨a, len, cap, zs, hcs, _, hlc, hcm, hzl, hyy, hcell, hwf⟩
  · simp only [List.cons.injEq, Value.slice.injEq, and_true] at hcs
    obtain ⟨rfl, rfl, rfl⟩ := hcs
    exact ⟨none, 0, [], rfl, .inl rfl, fun _ => Nat.zero_le _⟩
  · simp only [List.cons.injEq, Value.slice.injEq, and_true] at hcs
    obtain ⟨rfl, rfl, rfl⟩ := hcs
    simp only [if_true] at hzl
    have hl : (zs.take n).length = n := by simp; omega
    refine ⟨some a, c, zs.take n, by rw [hl], ?_, ?_⟩
    · by_cases h0 : n = 0
      · left; rw [h0]; rfl
      · right
        obtain ⟨b, off, rfl, hc⟩ := ints_at hcell (by omega)
        refine ⟨b, off, rfl, fun i hi => ?_⟩
        rw [hl] at hi
        rw [hc i (by omega), gq_take hi]
    · intro hw
      have hdd : d = .slice (lits .i64 (zs.take n)) (lits .i64 (zs.drop n)) := (congrArg Prod.fst hyy)
      rw [hdd] at hw
      have hlits : ∀ (k : IntKind) (z : List Int), (lits (H := H) k z).length = z.length := by intro k z; simp [lits]
      simp only [DataW.weights, Tryz.underlying32, List.all_cons, Bool.and_eq_true, decide_eq_true_eq, hlits] at hw
      have hb8 : Tryz.prog.bytesOf 3 = 8 := by kernel_rfl
      rw [hb8] at hw
      have h1 := hw.1
      rw [hl]
      simp only [List.length_take, List.length_drop, reachBytes] at h1
      omega
set_option maxRecDepth 100000 in
theorem ranges_read {H : Type} {enc : TypeId × Value → H} {W : World} {v : Value} {d : DataW H} {pl : List MemPlace} {fuel : Nat}
    (hf : DataW.trod enc Tryz.prog W 0 (fun _ => true) true fuel 29 [v] = some (d, pl)) :
    ∃ q c l, v = .slice q l.length c ∧ SlR W q l ∧ (q = none → c = 0) ∧ ((d.weights Tryz.prog 29).all (· ≤ reachBytes) = true → l.length ≤ 1000000000000000) := by
  have ce : Tryz.prog.cellsOf 28 = 2 := by kernel_rfl
  have ci : Tryz.prog.cellsOf 3 = 1 := by kernel_rfl
  rcases open_slice_pairs Tryz.underlying29 Tryz.underlying28 ce rfl rfl ci ci hf with ⟨hcs, _⟩ | ⟨a, n, c, m, k, V0, V1, D0, D1, P0, P1, hcs, _, hlc, hcm, hmm, hx, hcell⟩
  · simp only [List.cons.injEq, and_true] at hcs
    subst hcs
    exact ⟨none, 0, [], rfl, .inl rfl, fun _ => rfl, fun _ => Nat.zero_le _⟩
  · simp only [List.cons.injEq, and_true] at hcs
    subst hcs
    simp only [if_true] at hmm
    have hl : ((List.range n).map fun i => ((Go.Proofs.YtildfjlaieaadaaGreat.iv (V0 i), Go.Proofs.YtildfjlaieaadaaGreat.iv (V1 i)) : R)).length = n := by simp
    refine ⟨some a, c, (List.range n).map fun i => (iv (V0 i), iv (V1 i)), by rw [hl], ?_, (fun h => by cases h), ?_⟩
    · by_cases h0 : n = 0
      · left; rw [h0]; rfl
      · right
        obtain ⟨b, off, spot⟩ := a
        have hspot : spot = none := by simpa [Addr.add] using World.cell?_spot (hcell 0 (by omega)).1
        subst hspot
        refine ⟨b, off, rfl, fun i hi => ?_⟩
        rw [hl] at hi
        rw [gr_map n _ i hi]
        obtain ⟨g1, g2, g3, g4⟩ := hcell i (by omega)
        obtain ⟨z0, e0, _, _⟩ := DataW.trod_int Tryz.underlying3 g3
        obtain ⟨z1, e1, _, _⟩ := DataW.trod_int Tryz.underlying3 g4
        simp only [List.cons.injEq, and_true] at e0 e1
        rw [e0] at g1
        rw [e1] at g2
        rw [e0, e1]
        rw [Go.WideShapes.add_plain] at g1 g2
        exact ⟨g1, by rw [Nat.add_assoc]; exact g2⟩
    · intro hw
      have hdd := congrArg Prod.fst hx
      simp only at hdd
      rw [hdd] at hw
      simp only [DataW.weights, Tryz.underlying29, List.all_cons, Bool.and_eq_true, decide_eq_true_eq] at hw
      have hb8 : Tryz.prog.bytesOf 28 = 16 := by kernel_rfl
      rw [hb8] at hw
      have h1 := hw.1
      rw [hl]
      simp only [List.length_map, List.length_range, reachBytes] at h1
      omega
theorem weights_map {H : Type} (P : Program) (t : TypeId) (f : Nat → DataW H) : ∀ (l : List Nat) (i : Nat), i ∈ l → ∀ x ∈ (f i).weights P t, x ∈ DataW.weightsAll P t (l.map f)
  | [], i, hi, _, _ => by simp at hi
  | j :: l, i, hi, x, hx => by
    simp only [List.map_cons, DataW.weightsAll, List.mem_append]
    rcases List.mem_cons.1 hi with rfl | hi
    · exact .inl hx
    · exact .inr (weights_map P t f l i hi x hx)
theorem gs_map (len : Nat) (f : Nat → SV) (i : Nat) (hi : i < len) : gs ((List.range len).map f) i = f i := by
  rw [gs_get (by simpa using hi)]; simp
set_option maxRecDepth 100000 in
theorem rows_opened {H : Type} {enc : TypeId × Value → H} {W : World} {v : Value} {d : DataW H} {p : List MemPlace} {b0 : Nat}
    (hv : Value.okWide Tryz.prog W .any b0 22 v) (h : DataW.Trod enc Tryz.prog W 0 (fun _ => true) true 22 v d p) :
    ∃ q c xs, v = .slice q xs.length c ∧ SlS W q xs ∧ (xs.length ≤ c ∧ (q = none → c = 0)) ∧ ((d.weights Tryz.prog 22).all (· ≤ reachBytes) = true → xs.length ≤ 1000000000000000 ∧ ∀ x ∈ xs, x.2.2.length ≤ 4000000000000000) := by
  obtain ⟨q, n, c, rfl⟩ : ∃ q n c, v = .slice q n c := okWide_slice Tryz.underlying22 hv
  obtain ⟨fuel, hf⟩ := h
  have hcells : (Value.slice q n c).cells.toList = [.slice q n c] := rfl
  rw [hcells] at hf
  have ce : Tryz.prog.cellsOf 29 = 1 := by kernel_rfl
  rcases open_slice1 Tryz.underlying22 ce hf with ⟨hcs, _⟩ | ⟨a, len, cap, m, k, V, D, Pl, hcs, _, hlc, hcm, hmm, hx, hcell⟩
  · simp only [List.cons.injEq, Value.slice.injEq, and_true] at hcs
    obtain ⟨rfl, rfl, rfl⟩ := hcs
    exact ⟨none, 0, [], rfl, ⟨fun x hx => by simp at hx, .inl rfl⟩, ⟨Nat.le_refl _, fun _ => rfl⟩, fun _ => ⟨Nat.zero_le _, fun x hx => by simp at hx⟩⟩
  · simp only [List.cons.injEq, Value.slice.injEq, and_true] at hcs
    obtain ⟨rfl, rfl, rfl⟩ := hcs
    simp only [if_true] at hmm
    obtain ⟨F, hF⟩ := choose_lt (α := SV) (n := n) (p := fun i x => V i = .slice x.1 x.2.2.length x.2.1 ∧ SlR W x.1 x.2.2 ∧ (x.1 = none → x.2.1 = 0) ∧ (((D i).weights Tryz.prog 29).all (· ≤ reachBytes) = true → x.2.2.length ≤ 1000000000000000)) (fun i hi => by
      obtain ⟨q, c, l, h1, h2, h3, h4⟩ := ranges_read (hcell i (by omega)).2
      exact ⟨(q, c, l), h1, h2, h3, h4⟩)
    have hl : ((List.range n).map F).length = n := by simp
    refine ⟨some a, c, (List.range n).map F, by rw [hl], ⟨?_, ?_⟩, ?_, ?_⟩
    · intro x hx
      rw [List.mem_map] at hx
      obtain ⟨i, hi, rfl⟩ := hx
      exact (hF i (List.mem_range.1 hi)).2.1
    · by_cases h0 : n = 0
      · left; rw [h0]; rfl
      · right
        obtain ⟨b, off, spot⟩ := a
        have hspot : spot = none := by simpa [Addr.add] using World.cell?_spot (hcell 0 (by omega)).1
        subst hspot
        refine ⟨b, off, rfl, fun i hi => ?_⟩
        rw [hl] at hi
        rw [gs_map n _ i hi]
        have g1 := (hcell i (by omega)).1
        rw [Go.WideShapes.add_plain] at g1
        rw [g1, (hF i hi).1]
    · exact ⟨by rw [hl]; exact hlc, fun h => by cases h⟩
    · intro hw
      have hdd := congrArg Prod.fst hx
      simp only at hdd
      rw [hdd] at hw
      simp only [DataW.weights, Tryz.underlying22, List.all_cons, Bool.and_eq_true, decide_eq_true_eq] at hw
      have hb8 : Tryz.prog.bytesOf 29 = 24 := by kernel_rfl
      rw [hb8] at hw
      have h1 := hw.1
      simp only [List.length_map, List.length_range, reachBytes] at h1
      refine ⟨by rw [hl]; omega, ?_⟩
      intro x hx
      rw [List.mem_map] at hx
      obtain ⟨i, hi, rfl⟩ := hx
      have h2 := (hF i (List.mem_range.1 hi)).2.2.2 (by
        rw [List.all_eq_true]
        intro y hy
        have h3 := hw.2
        rw [List.all_eq_true] at h3
        exact h3 y (List.mem_append_left _ (weights_map _ _ D _ i hi y hy)))
      omega
theorem readRows : Tryz.prog.readableRec 22 = true := by kernel_rfl
theorem rowRows : 22 < Tryz.prog.types.size := of_decide_eq_true (by kernel_rfl)
end Go.Proofs.YtildfjlaieaadaaGreat
