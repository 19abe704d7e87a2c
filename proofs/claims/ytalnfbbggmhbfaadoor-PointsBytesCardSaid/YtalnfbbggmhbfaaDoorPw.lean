/- What the two listed tables give the walks; a list of ints that came in. -/
import Derived.Test.YtalnfbbggmhbfaaDoorPk
import Derived.Test.YtalnfbbggmhbfaaDoorPs
import Derived.Test.YtalnfbbggmhbfaaDoorPu0
namespace Go.Proofs.YtalnfbbggmhbfaaDoor
open Go.ChangeShapes Go.WideShapes Go.ChangeAt Go.RowKit Tnd

theorem gSizes : Tryd.prog.globalNamed "tinder/points.sizes" = some 1 := by kernel_rfl
theorem tSizes : (Tryd.prog.globals[1]?).map (·.type) = some 78 := by kernel_rfl
theorem dSizes : (Rows.laid_tinder_points_sizes : DataW Unit) = .agg (sizeRows.map fun r => .agg (r.map numD)) := by kernel_rfl
theorem cSizes : ((sizeRows.map fun r => r.map numV).flatten).toArray = sizesC := by kernel_rfl

theorem both_of_laid {W : World} (h : laidMetH Tryd.prog [("tinder/points.leads", Rows.laid_tinder_points_leads), ("tinder/points.sizes", Rows.laid_tinder_points_sizes)] W) : LeadsIn W ∧ SizesIn W := by
  rw [MakeChecks.laidMetH_plain _ _ _ (by kernel_rfl)] at h
  obtain ⟨ps, ⟨g, t, cs, f, p, q, h1, h2, h3, h4, ⟨g', t', cs', f', p', q', k1, k2, k3, k4, _⟩, _⟩, _⟩ := h
  obtain ⟨T, fr, hh⟩ := heap_of_rows gLeads tLeads Tryd.underlying64 Tryd.underlying63 (by kernel_rfl) (by kernel_rfl) rfl (by kernel_rfl) rfl dLeads h1 h2 h3 h4
  obtain ⟨T2, fr2, hh2⟩ := heap_of_rows gSizes tSizes Tryd.underlying78 Tryd.underlying77 (by kernel_rfl) (by kernel_rfl) rfl (by kernel_rfl) rfl dSizes k1 k2 k3 k4
  rw [cLeads] at hh
  rw [cSizes] at hh2
  exact ⟨⟨T, fr, hh⟩, ⟨T2, fr2, hh2⟩⟩

theorem gi_take {zs : List Int} {len i : Nat} (hi : i < len) : gi (zs.take len) i = zs.getD i 0 := by
  unfold gi
  rw [List.getD_eq_getElem?_getD, List.getD_eq_getElem?_getD, List.getElem?_take, if_pos hi]
set_option maxRecDepth 100000 in
/-- a list of ints that came in, of its cells; its reading's size bounds its length. -/
theorem ints_opened {H : Type} {enc : TypeId × Value → H} {W : World} {v : Value} {d : DataW H} {p : List MemPlace} {b0 : Nat}
    (hv : Value.okWide Tryd.prog W .any b0 24 v) (h : DataW.Trod enc Tryd.prog W 0 (fun _ => true) true 24 v d p) :
    ∃ q c l, v = .slice q l.length c ∧ SlI W q l ∧ l.length ≤ c ∧ c ≤ maxLen ∧ (q = none → c = 0) ∧ ((d.weights Tryd.prog 24).all (· ≤ reachBytes) = true → l.length ≤ 1000000000000000) := by
  obtain ⟨q, n, c, rfl⟩ : ∃ q n c, v = .slice q n c := okWide_slice Tryd.underlying24 hv
  obtain ⟨fuel, hf⟩ := h
  have hcells : (Value.slice q n c).cells.toList = [.slice q n c] := rfl
  rw [hcells] at hf
  rcases open_ints Tryd.underlying24 Tryd.underlying3 (by kernel_rfl) hf with ⟨hcs, _⟩ | ⟨a, len, cap, zs, hcs, _, hlc, hcm, hzl, hyy, hcell, hwf⟩
  · simp only [List.cons.injEq, Value.slice.injEq, and_true] at hcs
    obtain ⟨rfl, rfl, rfl⟩ := hcs
    exact ⟨none, 0, [], rfl, .inl rfl, Nat.zero_le _, Nat.zero_le _, fun _ => rfl, fun _ => Nat.zero_le _⟩
  · simp only [List.cons.injEq, Value.slice.injEq, and_true] at hcs
    obtain ⟨rfl, rfl, rfl⟩ := hcs
    simp only [if_true] at hzl
    have hl : (zs.take n).length = n := by simp; omega
    refine ⟨some a, c, zs.take n, by rw [hl], ?_, by rw [hl]; exact hlc, hcm, fun e => (nomatch e), ?_⟩
    · by_cases h0 : n = 0
      · left; rw [h0]; rfl
      · right
        obtain ⟨b, off, rfl, hc⟩ := ints_at hcell (by omega)
        refine ⟨b, off, rfl, fun i hi => ?_⟩
        rw [hl] at hi
        rw [hc i (by omega), gi_take hi]
    · intro hw
      have hdd : d = .slice (lits .i64 (zs.take n)) (lits .i64 (zs.drop n)) := (congrArg Prod.fst hyy)
      rw [hdd] at hw
      have hlits : ∀ (k : IntKind) (z : List Int), (lits (H := H) k z).length = z.length := by intro k z; simp [lits]
      simp only [DataW.weights, Tryd.underlying24, List.all_cons, Bool.and_eq_true, decide_eq_true_eq, hlits] at hw
      have hb8 : Tryd.prog.bytesOf 3 = 8 := by kernel_rfl
      rw [hb8] at hw
      have h1 := hw.1
      rw [hl]
      simp only [List.length_take, List.length_drop, reachBytes] at h1
      omega
theorem readInts : Tryd.prog.readableRec 24 = true := by kernel_rfl
theorem rowInts : 24 < Tryd.prog.types.size := of_decide_eq_true (by kernel_rfl)
end Go.Proofs.YtalnfbbggmhbfaaDoor
