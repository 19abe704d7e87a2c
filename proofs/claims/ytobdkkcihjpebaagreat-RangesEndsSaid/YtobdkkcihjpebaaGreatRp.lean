/- A list of ranges, of ints, that came in: of its cells; its reading's size bounds its length. -/
import Derived.Test.YtobdkkcihjpebaaGreatRn
import Derived.Test.YtobdkkcihjpebaaGreatRows
import Derived.ProofKit
import Derived.OpenShut
import Derived.SizedLaws
import Derived.Deep.SlicePairs
import Derived.Carry
namespace Go.Proofs.YtobdkkcihjpebaaGreat
open Go.ChangeShapes Go.WideShapes Go.ChangeAt Go.RowKit Go.Deep Tnr

theorem own : ownKnob Tryz.prog.godebug = none := by kernel_rfl
theorem laidOut : laidOutB Tryz.prog = true := by kernel_rfl
theorem readRanges : Tryz.prog.readableRec 22 = true := by kernel_rfl
theorem rowRanges : 22 < Tryz.prog.types.size := of_decide_eq_true (by kernel_rfl)
theorem readInts : Tryz.prog.readableRec 37 = true := by kernel_rfl
theorem rowInts : 37 < Tryz.prog.types.size := of_decide_eq_true (by kernel_rfl)

def iv : Value → Int
  | .int _ z => z
  | _ => 0
theorem gr_map (len : Nat) (f : Nat → R) (i : Nat) (hi : i < len) : gr ((List.range len).map f) i = f i := by
  rw [gr_get (by simpa using hi)]; simp
set_option maxRecDepth 100000 in
theorem ranges_opened {H : Type} {enc : TypeId × Value → H} {W : World} {v : Value} {d : DataW H} {p : List MemPlace} {b0 : Nat}
    (hv : Value.okWide Tryz.prog W .any b0 22 v) (h : DataW.Trod enc Tryz.prog W 0 (fun _ => true) true 22 v d p) :
    ∃ q c l, v = .slice q l.length c ∧ SlR W q l ∧ ((d.weights Tryz.prog 22).all (· ≤ reachBytes) = true → l.length ≤ 1000000000000000) := by
  obtain ⟨q, n, c, rfl⟩ : ∃ q n c, v = .slice q n c := okWide_slice Tryz.underlying22 hv
  obtain ⟨fuel, hf⟩ := h
  have hcells : (Value.slice q n c).cells.toList = [.slice q n c] := rfl
  rw [hcells] at hf
  have ce : Tryz.prog.cellsOf 39 = 2 := by kernel_rfl
  have ci : Tryz.prog.cellsOf 3 = 1 := by kernel_rfl
  rcases open_slice_pairs Tryz.underlying22 Tryz.underlying39 ce rfl rfl ci ci hf with ⟨hcs, _⟩ | ⟨a, len, cap, m, k, V0, V1, D0, D1, P0, P1, hcs, _, hlc, hcm, hmm, hx, hcell⟩
  · simp only [List.cons.injEq, Value.slice.injEq, and_true] at hcs
    obtain ⟨rfl, rfl, rfl⟩ := hcs
    exact ⟨none, 0, [], rfl, .inl rfl, fun _ => Nat.zero_le _⟩
  · simp only [List.cons.injEq, Value.slice.injEq, and_true] at hcs
    obtain ⟨rfl, rfl, rfl⟩ := hcs
    simp only [if_true] at hmm
    have hl : ((List.range n).map fun i => ((iv (V0 i), iv (V1 i)) : R)).length = n := by simp
    refine ⟨some a, c, (List.range n).map fun i => (iv (V0 i), iv (V1 i)), by rw [hl], ?_, ?_⟩
    · by_cases h0 : n = 0
      · left; rw [h0]; rfl
      · right
        obtain ⟨b, off, spot⟩ := a
        have hspot : spot = none := by simpa [Addr.add] using World.cell?_spot (hcell 0 (by omega)).1
        subst hspot
        refine ⟨b, off, rfl, fun i hi => ?_⟩
        rw [hl] at hi
        rw [gr_map n _ i hi]
        obtain ⟨g1, g2, g3, g4⟩ := hcell i (by omega)
        obtain ⟨z0, e0, _, _⟩ := DataW.trod_int Tryz.underlying3 g3
        obtain ⟨z1, e1, _, _⟩ := DataW.trod_int Tryz.underlying3 g4
        simp only [List.cons.injEq, and_true] at e0 e1
        rw [e0] at g1
        rw [e1] at g2
        rw [e0, e1]
        rw [Go.WideShapes.add_plain] at g1 g2
        exact ⟨g1, by rw [Nat.add_assoc]; exact g2⟩
    · intro hw
      have hdd := congrArg Prod.fst hx
      simp only at hdd
      rw [hdd] at hw
      simp only [DataW.weights, Tryz.underlying22, List.all_cons, Bool.and_eq_true, decide_eq_true_eq] at hw
      have hb8 : Tryz.prog.bytesOf 39 = 16 := by kernel_rfl
      rw [hb8] at hw
      have h1 := hw.1
      rw [hl]
      simp only [List.length_map, List.length_range, reachBytes] at h1
      omega

theorem gi_take {zs : List Int} {len i : Nat} (hi : i < len) : gi (zs.take len) i = zs.getD i 0 := by
  unfold gi
  rw [List.getD_eq_getElem?_getD, List.getD_eq_getElem?_getD, List.getElem?_take, if_pos hi]
set_option maxRecDepth 100000 in
theorem ints_opened {H : Type} {enc : TypeId × Value → H} {W : World} {v : Value} {d : DataW H} {p : List MemPlace} {b0 : Nat}
    (hv : Value.okWide Tryz.prog W .any b0 37 v) (h : DataW.Trod enc Tryz.prog W 0 (fun _ => true) true 37 v d p) :
    ∃ q c l, v = .slice q l.length c ∧ SlI W q l ∧ ((d.weights Tryz.prog 37).all (· ≤ reachBytes) = true → l.length ≤ 1000000000000000) := by
  obtain ⟨q, n, c, rfl⟩ : ∃ q n c, v = .slice q n c := okWide_slice Tryz.underlying37 hv
  obtain ⟨fuel, hf⟩ := h
  have hcells : (Value.slice q n c).cells.toList = [.slice q n c] := rfl
  rw [hcells] at hf
  rcases open_ints Tryz.underlying37 Tryz.underlying3 (by kernel_rfl) hf with ⟨hcs, _⟩ | ⟨a, len, cap, zs, hcs, _, hlc, hcm, hzl, hyy, hcell, hwf⟩
  · simp only [List.cons.injEq, Value.slice.injEq, and_true] at hcs
    obtain ⟨rfl, rfl, rfl⟩ := hcs
    exact ⟨none, 0, [], rfl, .inl rfl, fun _ => Nat.zero_le _⟩
  · simp only [List.cons.injEq, Value.slice.injEq, and_true] at hcs
    obtain ⟨rfl, rfl, rfl⟩ := hcs
    simp only [if_true] at hzl
    have hl : (zs.take n).length = n := by simp; omega
    refine ⟨some a, c, zs.take n, by rw [hl], ?_, ?_⟩
    · by_cases h0 : n = 0
      · left; rw [h0]; rfl
      · right
        obtain ⟨b, off, rfl, hc⟩ := ints_at hcell (by omega)
        refine ⟨b, off, rfl, fun i hi => ?_⟩
        rw [hl] at hi
        rw [hc i (by omega), gi_take hi]
    · intro hw
      have hdd : d = .slice (lits .i64 (zs.take n)) (lits .i64 (zs.drop n)) := (congrArg Prod.fst hyy)
      rw [hdd] at hw
      have hlits : ∀ (k : IntKind) (z : List Int), (lits (H := H) k z).length = z.length := by intro k z; simp [lits]
      simp only [DataW.weights, Tryz.underlying37, List.all_cons, Bool.and_eq_true, decide_eq_true_eq, hlits] at hw
      have hb8 : Tryz.prog.bytesOf 3 = 8 := by kernel_rfl
      rw [hb8] at hw
      have h1 := hw.1
      rw [hl]
      simp only [List.length_take, List.length_drop, reachBytes] at h1
      omega
end Go.Proofs.YtobdkkcihjpebaaGreat
