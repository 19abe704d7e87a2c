/- The walks of KeptNode and KeptNodes. -/
import Derived.Test.YtjpccmiaimkmbaaGreatJl
import Derived.Test.YtjpccmiaimkmbaaGreatMi

namespace Go.Proofs.YtjpccmiaimkmbaaGreat
open Go.RowKit Tnr Tnt

theorem cellsN_lit {w : World} {b o : Nat} {x : NV} {u0 u1 u2 u3 u4 u5 u6 u7 u8 : Value} (h : CellsN w b o x) (hl : (encN x).toArray = #[u0, u1, u2, u3, u4, u5, u6, u7, u8]) :
    w.cell? ⟨b, o, none⟩ = some u0 ∧ w.cell? ⟨b, o + 1, none⟩ = some u1 ∧ w.cell? ⟨b, o + 2, none⟩ = some u2 ∧ w.cell? ⟨b, o + 3, none⟩ = some u3 ∧ w.cell? ⟨b, o + 4, none⟩ = some u4 ∧ w.cell? ⟨b, o + 5, none⟩ = some u5 ∧ w.cell? ⟨b, o + 6, none⟩ = some u6 ∧ w.cell? ⟨b, o + 7, none⟩ = some u7 ∧ w.cell? ⟨b, o + 8, none⟩ = some u8 := by
  unfold encN at hl
  simp only [Array.mk.injEq, List.cons.injEq, and_true] at hl
  obtain ⟨rfl, rfl, rfl, rfl, rfl, rfl, rfl, rfl, rfl⟩ := hl
  exact h
end Go.Proofs.YtjpccmiaimkmbaaGreat
