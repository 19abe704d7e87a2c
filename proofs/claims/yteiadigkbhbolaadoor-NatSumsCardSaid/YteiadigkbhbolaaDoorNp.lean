/- A row of Nats that came in: of its cells; the reading's size bounds their lengths. -/
import Derived.Test.YteiadigkbhbolaaDoorWo
import Derived.Test.YteiadigkbhbolaaDoorWh
import Derived.ProofKit
import Derived.LaidMore
import Derived.OpenShut
import Derived.Stop.Joined
import Derived.Deep.Slices
import Derived.Deep.SlicePairs
namespace Go.Proofs.YteiadigkbhbolaaDoor
open Go.ChangeShapes Go.WideShapes Go.ChangeAt Go.RowKit Go.Deep Tnd

theorem getD_int (zs : List Int) (i : Nat) (hi : i < zs.length) : zs.getD i 0 = zs[i] := by
  simp [List.getD, hi]
set_option maxRecDepth 100000 in
/-- the digits of a Nat that came in. -/
theorem digits_read {H : Type} {enc : TypeId × Value → H} {W : World} {v : Value} {y : DataW H × List MemPlace} {fuel : Nat}
    (hf : DataW.trod enc Tryd.prog W 0 (fun _ => true) true fuel 23 [v] = some y) :
    ∃ q c l, v = .slice q l.length c ∧ ((y.1.weights Tryd.prog 23).all (· ≤ reachBytes) = true → l.length ≤ 140737488355328) ∧ NatIn W W.heap.size (.agg #[.slice q l.length c]) l := by
  rcases open_ints Tryd.underlying23 Tryd.underlying47 (by kernel_rfl) hf with ⟨hcs, _⟩ | ⟨a, len, cap, zs, hcs, _, hlc, hcm, hzl, hyy, hcell, hwf⟩
  · obtain rfl : v = .slice none 0 0 := by simpa using hcs
    exact ⟨none, 0, [], rfl, fun _ => Nat.zero_le _, none, 0, rfl, .inl rfl, (fun _ hd => nomatch hd), Nat.zero_le _, Nat.zero_le _, fun _ => rfl⟩
  · obtain rfl : v = .slice (some a) len cap := by simpa using hcs
    simp only [if_true] at hzl
    have hmax : maxLen ≤ 9223372036854775807 := by decide
    have hwf' : ∀ i, i < zs.length → ∃ k : Nat, zs.getD i 0 = (k : Int) ∧ k < 4294967296 := by
      intro i hi
      have hm : zs.getD i 0 ∈ zs := by
        rw [getD_int zs i hi]; exact List.getElem_mem hi
      have hb := bounds_u32 (hwf _ hm)
      generalize zs.getD i 0 = z at hb ⊢
      exact ⟨z.toNat, by omega, by omega⟩
    have hl : ((zs.take len).map Int.toNat).length = len := by simp; omega
    refine ⟨some a, cap, (zs.take len).map Int.toNat, by rw [hl], ?_, some a, cap, rfl, ?_, ?_, by rw [hl]; exact hlc, by omega, fun e => by cases e⟩
    · intro hw
      rw [hyy] at hw
      have hlits : ∀ (k : IntKind) (z : List Int), (lits (H := H) k z).length = z.length := by intro k z; simp [lits]
      simp only [DataW.weights, Tryd.underlying23, List.all_cons, Bool.and_eq_true, decide_eq_true_eq, hlits] at hw
      have hb4 : Tryd.prog.bytesOf 47 = 4 := by kernel_rfl
      rw [hb4] at hw
      have h1 := hw.1
      rw [hl]
      simp only [List.length_take, List.length_drop, reachBytes] at h1
      omega
    · by_cases h00 : len = 0
      · left
        subst h00
        simp
      · right
        obtain ⟨b, off, rfl, hc⟩ := ints_at hcell (by omega)
        have hb : b < W.heap.size := World.block_lt_of_cell? W _ (hc 0 (by omega))
        refine ⟨b, off, rfl, hb, fun i hi => ?_⟩
        rw [hl] at hi
        rw [hc i (by omega)]
        obtain ⟨k, e1, _⟩ := hwf' i (by omega)
        have e2 : gd ((zs.take len).map Int.toNat) i = k := by
          unfold gd
          have e3 : zs[i]? = some (k : Int) := by
            rw [List.getElem?_eq_getElem (by omega)]
            rw [getD_int zs i (by omega)] at e1
            rw [e1]
          simp [List.getD, List.getElem?_map, hi, e3]
        rw [e2, e1]
    · intro d hd
      obtain ⟨z, hz, rfl⟩ := List.mem_map.1 hd
      obtain ⟨i, hi, rfl⟩ := List.mem_iff_getElem.1 (List.mem_of_mem_take hz)
      obtain ⟨k, e1, e2⟩ := hwf' i hi
      rw [getD_int zs i hi] at e1
      rw [e1]; simpa using e2
theorem struct1_read {H : Type} {enc : TypeId × Value → H} {P : Program} {w : World} {base : Nat} {spare : Nat → Bool} {held : Bool} {t : TypeId} {f0 : Field} {v : Value} {d : DataW H} {pl : List MemPlace} {fuel : Nat} (hs : P.underlying t = some (.struct #[f0])) (hone : Deep.oneCellFields P #[f0] = true)
    (hf : DataW.trod enc P w base spare held fuel t [v] = some (d, pl)) : ∃ (y0 : DataW H × List MemPlace) (n : Nat), d = .agg [y0.1] ∧ DataW.trod enc P w base spare held n f0.type [v] = some y0 := by
  obtain ⟨xs, n, _, hx, _, hlen, hf'⟩ := DataW.trod_struct hs hf
  obtain ⟨o0, k0⟩ := Deep.hone_of hone 0 f0 rfl
  match xs, hlen with
  | [y0], _ =>
    have h0 := hf' 0 f0 rfl
    simp only [Prod.mk.injEq] at hx
    exact ⟨y0, n, by simpa using hx.1, by simpa [Value.cells, o0, k0] using h0⟩
set_option maxRecDepth 100000 in
/-- a Nat in a row that came in. -/
theorem natcell_read {H : Type} {enc : TypeId × Value → H} {W : World} {v : Value} {d : DataW H} {pl : List MemPlace} {fuel : Nat}
    (hf : DataW.trod enc Tryd.prog W 0 (fun _ => true) true fuel 25 [v] = some (d, pl)) :
    ∃ q c l, v = .slice q l.length c ∧ ((d.weights Tryd.prog 25).all (· ≤ reachBytes) = true → l.length ≤ 140737488355328) ∧ NatIn W W.heap.size (.agg #[.slice q l.length c]) l := by
  obtain ⟨y0, n, hd, h1⟩ := struct1_read Tryd.underlying25 (by kernel_rfl) hf
  obtain ⟨q, c, l, e1, e2, e3⟩ := digits_read h1
  refine ⟨q, c, l, e1, fun hw => ?_, e3⟩
  refine e2 ?_
  rw [hd] at hw
  simp only [DataW.weights, Tryd.underlying25, DataW.weightsEach, List.map_cons, List.map_nil, List.append_nil] at hw
  exact hw
theorem weights_map {H : Type} (P : Program) (t : TypeId) (f : Nat → DataW H) : ∀ (l : List Nat) (i : Nat), i ∈ l → ∀ x ∈ (f i).weights P t, x ∈ DataW.weightsAll P t (l.map f)
  | [], i, hi, _, _ => by simp at hi
  | j :: l, i, hi, x, hx => by
    simp only [List.map_cons, DataW.weightsAll, List.mem_append]
    rcases List.mem_cons.1 hi with rfl | hi
    · exact .inl hx
    · exact .inr (weights_map P t f l i hi x hx)
theorem gl_map (len : Nat) (f : Nat → List Nat) (i : Nat) (hi : i < len) : gl ((List.range len).map f) i = f i := by
  rw [gl_at (by simpa using hi)]; simp
theorem choose_lt' {α : Type} {n : Nat} {p : Nat → α → Prop} [Inhabited α] (h : ∀ i, i < n → ∃ x, p i x) : ∃ F : Nat → α, ∀ i, i < n → p i (F i) := by
  refine ⟨fun i => if hi : i < n then Classical.choose (h i hi) else default, fun i hi => ?_⟩
  simp only [hi, dif_pos]
  exact Classical.choose_spec (h i hi)
set_option maxRecDepth 100000 in
theorem nats_opened {H : Type} {enc : TypeId × Value → H} {W : World} {v : Value} {d : DataW H} {p : List MemPlace} {b0 : Nat}
    (hv : Value.okWide Tryd.prog W .any b0 32 v) (h : DataW.Trod enc Tryd.prog W 0 (fun _ => true) true 32 v d p) :
    ∃ q c L, v = .slice q L.length c ∧ NatsIn W W.heap.size q L ∧ ((d.weights Tryd.prog 32).all (· ≤ reachBytes) = true → L.length ≤ 1000000000000000000 ∧ ∀ k, k < L.length → (gl L k).length ≤ 1000000000000000000) := by
  obtain ⟨q, n, c, rfl⟩ : ∃ q n c, v = .slice q n c := okWide_slice Tryd.underlying32 hv
  obtain ⟨fuel, hf⟩ := h
  have hcells : (Value.slice q n c).cells.toList = [.slice q n c] := rfl
  rw [hcells] at hf
  have ce : Tryd.prog.cellsOf 25 = 1 := by kernel_rfl
  rcases open_slice1 Tryd.underlying32 ce hf with ⟨hcs, _⟩ | ⟨a, len, cap, m, k, V, D, Pl, hcs, _, hlc, hcm, hmm, hx, hcell⟩
  · simp only [List.cons.injEq, Value.slice.injEq, and_true] at hcs
    obtain ⟨rfl, rfl, rfl⟩ := hcs
    exact ⟨none, 0, [], rfl, .inl rfl, fun _ => ⟨Nat.zero_le _, fun k hk => by simp at hk⟩⟩
  · simp only [List.cons.injEq, Value.slice.injEq, and_true] at hcs
    obtain ⟨rfl, rfl, rfl⟩ := hcs
    simp only [if_true] at hmm
    obtain ⟨F, hF⟩ := choose_lt' (α := List Nat) (n := n) (p := fun i l => ∃ q c, V i = .slice q l.length c ∧ (((D i).weights Tryd.prog 25).all (· ≤ reachBytes) = true → l.length ≤ 140737488355328) ∧ NatIn W W.heap.size (.agg #[.slice q l.length c]) l) (fun i hi => by
      obtain ⟨q, c, l, h1, h2, h3⟩ := natcell_read (hcell i (by omega)).2
      exact ⟨l, q, c, h1, h2, h3⟩)
    have hl : ((List.range n).map F).length = n := by simp
    refine ⟨some a, c, (List.range n).map F, by rw [hl], ?_, ?_⟩
    · by_cases h0 : n = 0
      · left; rw [h0]; rfl
      · right
        obtain ⟨b, off, spot⟩ := a
        have hspot : spot = none := by simpa [Addr.add] using World.cell?_spot (hcell 0 (by omega)).1
        subst hspot
        refine ⟨b, off, rfl, ?_, fun i hi => ?_⟩
        · have g1 := (hcell 0 (by omega)).1
          exact World.block_lt_of_cell? W _ g1
        · rw [hl] at hi
          rw [gl_map n _ i hi]
          have g1 := (hcell i (by omega)).1
          rw [Go.WideShapes.add_plain] at g1
          obtain ⟨q, c, h1, h2, h3⟩ := hF i hi
          obtain ⟨q', c', e, h4, h5, h6⟩ := h3
          simp only [Value.agg.injEq, Array.mk.injEq, List.cons.injEq, Value.slice.injEq, and_true, true_and] at e
          obtain ⟨rfl, rfl⟩ := e
          exact ⟨q, c, by rw [g1, h1], h4, h5, h6⟩
    · intro hw
      have hdd := congrArg Prod.fst hx
      simp only at hdd
      rw [hdd] at hw
      simp only [DataW.weights, Tryd.underlying32, List.all_cons, Bool.and_eq_true, decide_eq_true_eq] at hw
      have hb8 : Tryd.prog.bytesOf 25 = 24 := by kernel_rfl
      rw [hb8] at hw
      have h1 := hw.1
      simp only [List.length_map, List.length_range, reachBytes] at h1
      refine ⟨by rw [hl]; omega, ?_⟩
      intro i hi
      rw [hl] at hi
      rw [gl_map n _ i hi]
      obtain ⟨q, c, _, h2, _⟩ := hF i hi
      have h4 := h2 (by
        rw [List.all_eq_true]
        intro y hy
        have h3 := hw.2
        rw [List.all_eq_true] at h3
        exact h3 y (List.mem_append_left _ (weights_map _ _ D _ i (List.mem_range.2 hi) y hy)))
      omega
end Go.Proofs.YteiadigkbhbolaaDoor
