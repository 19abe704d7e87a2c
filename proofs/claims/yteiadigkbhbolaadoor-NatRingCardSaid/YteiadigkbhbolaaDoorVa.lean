/- A Nat argument opened: its digits, and that the reading's size bounds their number. -/
import Derived.Test.YteiadigkbhbolaaDoorWz
import Derived.ProofKit
import Derived.LaidMore
import Derived.OpenShut
import Derived.Stop.Joined
namespace Go.Proofs.YteiadigkbhbolaaDoor
open Go.ChangeShapes Go.WideShapes Go.ChangeAt Go.RowKit Tnd

theorem getD_in (zs : List Int) (i : Nat) (hi : i < zs.length) : zs.getD i 0 = zs[i] := by
  simp [List.getD, hi]
/-- a struct of one field of one cell, opened. -/
theorem open_agg1 {H : Type} {enc : TypeId × Value → H} {P : Program} {w : World} {base : Nat} {spare : Nat → Bool} {held : Bool} {r : Reach} {b0 : Nat} {t : TypeId} {f0 : Field} {v : Value} {d : DataW H} {p : List MemPlace} (hs : P.underlying t = some (.struct #[f0])) (hone : Deep.oneCellFields P #[f0] = true) (hC : P.cellsOf t = 1)
    (hv : Value.okWide P w r b0 t v) (h : DataW.Trod enc P w base spare held t v d p) :
    ∃ (v0 : Value) (y0 : DataW H × List MemPlace) (n : Nat), v = .agg #[v0] ∧ d = .agg [y0.1] ∧ p = y0.2 ∧ DataW.trod enc P w base spare held n f0.type [v0] = some y0 := by
  obtain ⟨cs, rfl, hsz⟩ := okWide_struct hs hv
  obtain ⟨c0, rfl⟩ : ∃ c0, cs = #[c0] := by
    obtain ⟨l⟩ := cs
    have hl : l.length = 1 := by simpa using hsz.trans hC
    match l, hl with
    | [c], _ => exact ⟨c, rfl⟩
  obtain ⟨fuel, hf⟩ := h
  obtain ⟨xs, n, _, hx, _, hlen, hf'⟩ := DataW.trod_struct hs hf
  obtain ⟨o0, k0⟩ := Deep.hone_of hone 0 f0 rfl
  match xs, hlen with
  | [y0], _ =>
    have h0 := hf' 0 f0 rfl
    simp only [Prod.mk.injEq] at hx
    exact ⟨c0, y0, n, rfl, by simpa using hx.1, by simpa using hx.2, by simpa [Value.cells, o0, k0] using h0⟩

set_option maxRecDepth 100000 in
/-- a Nat that came in, of its cells. -/
theorem nat_sized {H : Type} {enc : TypeId × Value → H} {W : World} {b0 : Nat} {v : Value} {d : DataW H} {p : List MemPlace}
    (hv : Value.okWide Tryd.prog W .any b0 25 v) (h : DataW.Trod enc Tryd.prog W 0 (fun _ => true) true 25 v d p) :
    ∃ q c l, v = .agg #[.slice q l.length c] ∧ ((d.weights Tryd.prog 25).all (· ≤ reachBytes) = true → l.length ≤ 140737488355328) ∧ NatIn W W.heap.size (.agg #[.slice q l.length c]) l := by
  obtain ⟨v0, y0, n, rfl, hdd, _, h0⟩ := open_agg1 Tryd.underlying25 (by kernel_rfl) (by kernel_rfl) hv h
  rcases open_ints Tryd.underlying23 Tryd.underlying47 (by kernel_rfl) h0 with ⟨hcs, _⟩ | ⟨a, len, cap, zs, hcs, _, hlc, hcm, hzl, hyy, hcell, hwf⟩
  · obtain rfl : v0 = .slice none 0 0 := by simpa using hcs
    exact ⟨none, 0, [], rfl, fun _ => Nat.zero_le _, none, 0, rfl, .inl rfl, (fun _ hd => nomatch hd), Nat.zero_le _, Nat.zero_le _, fun _ => rfl⟩
  · obtain rfl : v0 = .slice (some a) len cap := by simpa using hcs
    simp only [if_true] at hzl
    have hmax : maxLen ≤ 9223372036854775807 := by decide
    have hwf' : ∀ i, i < zs.length → ∃ k : Nat, zs.getD i 0 = (k : Int) ∧ k < 4294967296 := by
      intro i hi
      have hm : zs.getD i 0 ∈ zs := by
        rw [getD_in zs i hi]; exact List.getElem_mem hi
      have hb := bounds_u32 (hwf _ hm)
      generalize zs.getD i 0 = z at hb ⊢
      exact ⟨z.toNat, by omega, by omega⟩
    have hl : ((zs.take len).map Int.toNat).length = len := by simp; omega
    refine ⟨some a, cap, (zs.take len).map Int.toNat, by rw [hl], ?_, some a, cap, rfl, ?_, ?_, by rw [hl]; exact hlc, by omega, fun e => by cases e⟩
    · intro hw
      rw [hdd, hyy] at hw
      have hlits : ∀ (k : IntKind) (z : List Int), (lits (H := H) k z).length = z.length := by intro k z; simp [lits]
      simp only [DataW.weights, Tryd.underlying25, Tryd.underlying23, DataW.weightsEach, List.map_cons, List.map_nil, List.cons_append, List.all_cons, Bool.and_eq_true, decide_eq_true_eq, hlits] at hw
      have hb4 : Tryd.prog.bytesOf 47 = 4 := by kernel_rfl
      rw [hb4] at hw
      have h1 := hw.1
      rw [hl]
      simp only [List.length_take, List.length_drop, reachBytes] at h1
      omega
    · by_cases h00 : len = 0
      · left
        subst h00
        simp
      · right
        obtain ⟨b, off, rfl, hc⟩ := ints_at hcell (by omega)
        have hb : b < W.heap.size := World.block_lt_of_cell? W _ (hc 0 (by omega))
        refine ⟨b, off, rfl, hb, fun i hi => ?_⟩
        rw [hl] at hi
        rw [hc i (by omega)]
        obtain ⟨k, e1, _⟩ := hwf' i (by omega)
        have e2 : gd ((zs.take len).map Int.toNat) i = k := by
          unfold gd
          have e3 : zs[i]? = some (k : Int) := by
            rw [List.getElem?_eq_getElem (by omega)]
            rw [getD_in zs i (by omega)] at e1
            rw [e1]
          simp [List.getD, List.getElem?_map, hi, e3]
        rw [e2, e1]
    · intro d hd
      obtain ⟨z, hz, rfl⟩ := List.mem_map.1 hd
      obtain ⟨i, hi, rfl⟩ := List.mem_iff_getElem.1 (List.mem_of_mem_take hz)
      obtain ⟨k, e1, e2⟩ := hwf' i hi
      rw [getD_in zs i hi] at e1
      rw [e1]; simpa using e2

end Go.Proofs.YteiadigkbhbolaaDoor
