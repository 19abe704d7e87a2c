/- markText; the walks of LentTexts, KeptTexts. -/
/- markNode; the walks of LentNode, LentNodes: nodes handed in, each with marks behind its rows, and marks behind the row's end. -/
import Derived.Test.YtjpccmiaimkmbaaGreatLd
import Derived.Test.YtjpccmiaimkmbaaGreatLn
import Derived.Test.YtjpccmiaimkmbaaGreatFi
import Derived.OneCell
import Derived.Laws.IdiomStrings
import Derived.Laws.MakeOwn
import Derived.Test.YtjpccmiaimkmbaaGreatLr

namespace Go.Proofs.YtjpccmiaimkmbaaGreat
open Go.RowKit Tnr Tnt

structure Bxd (p : Prop) : Prop where
  out : p
theorem q_want {P : Program} {ops : Array Oper} {C : World → Prop} {Q : Act → Prop} {a : Act} {o : Oper} {rest : List Oper} (hw : Region.wanted o (yielded ops a.tmps) = true) (h : ∀ K : Act → Prop, (∀ a, Bxd (wpQuiet P ops C Q rest a) → K a) → o.quiet P a C K) : Bxd (wpQuiet P ops C Q (o :: rest) a) :=
  ⟨BigFrame.wpQuiet_want hw fun K hK => h K fun a x => hK a x.out⟩
theorem cell_keepX {w w' : World} {b i : Nat} {v : Value} (h : w.cell? ⟨b, i, none⟩ = some v) (hb : Below w.heap.size w w') : w'.cell? ⟨b, i, none⟩ = some v := by
  rw [hb.cell (World.block_lt_of_cell? _ _ h)]; exact h
end Go.Proofs.YtjpccmiaimkmbaaGreat


namespace Go.Proofs.YtjpccmiaimkmbaaGreat
open Go.RowKit Tnr Tnt

def putN9 (w : World) (b : Nat) (v0 v1 v2 v3 v4 v5 v6 v7 v8 : Value) : World := ((((((((w.setCell ⟨b, 0, none⟩ v0).setCell ⟨b, 1, none⟩ v1).setCell ⟨b, 2, none⟩ v2).setCell ⟨b, 3, none⟩ v3).setCell ⟨b, 4, none⟩ v4).setCell ⟨b, 5, none⟩ v5).setCell ⟨b, 6, none⟩ v6).setCell ⟨b, 7, none⟩ v7).setCell ⟨b, 8, none⟩ v8
theorem bx_putN9 {w : World} {b : Nat} {T : TypeId} {z0 z1 z2 z3 z4 z5 z6 z7 z8 : Value} (h : Bx w b T #[z0, z1, z2, z3, z4, z5, z6, z7, z8]) (v0 v1 v2 v3 v4 v5 v6 v7 v8 : Value) : Bx (putN9 w b v0 v1 v2 v3 v4 v5 v6 v7 v8) b T #[v0, v1, v2, v3, v4, v5, v6, v7, v8] := by
  have h0 : Bx (w.setCell ⟨b, 0, none⟩ v0) b T #[v0, z1, z2, z3, z4, z5, z6, z7, z8] := h.set 0 v0
  have h1 : Bx ((w.setCell ⟨b, 0, none⟩ v0).setCell ⟨b, 1, none⟩ v1) b T #[v0, v1, z2, z3, z4, z5, z6, z7, z8] := h0.set 1 v1
  have h2 : Bx (((w.setCell ⟨b, 0, none⟩ v0).setCell ⟨b, 1, none⟩ v1).setCell ⟨b, 2, none⟩ v2) b T #[v0, v1, v2, z3, z4, z5, z6, z7, z8] := h1.set 2 v2
  have h3 : Bx ((((w.setCell ⟨b, 0, none⟩ v0).setCell ⟨b, 1, none⟩ v1).setCell ⟨b, 2, none⟩ v2).setCell ⟨b, 3, none⟩ v3) b T #[v0, v1, v2, v3, z4, z5, z6, z7, z8] := h2.set 3 v3
  have h4 : Bx (((((w.setCell ⟨b, 0, none⟩ v0).setCell ⟨b, 1, none⟩ v1).setCell ⟨b, 2, none⟩ v2).setCell ⟨b, 3, none⟩ v3).setCell ⟨b, 4, none⟩ v4) b T #[v0, v1, v2, v3, v4, z5, z6, z7, z8] := h3.set 4 v4
  have h5 : Bx ((((((w.setCell ⟨b, 0, none⟩ v0).setCell ⟨b, 1, none⟩ v1).setCell ⟨b, 2, none⟩ v2).setCell ⟨b, 3, none⟩ v3).setCell ⟨b, 4, none⟩ v4).setCell ⟨b, 5, none⟩ v5) b T #[v0, v1, v2, v3, v4, v5, z6, z7, z8] := h4.set 5 v5
  have h6 : Bx (((((((w.setCell ⟨b, 0, none⟩ v0).setCell ⟨b, 1, none⟩ v1).setCell ⟨b, 2, none⟩ v2).setCell ⟨b, 3, none⟩ v3).setCell ⟨b, 4, none⟩ v4).setCell ⟨b, 5, none⟩ v5).setCell ⟨b, 6, none⟩ v6) b T #[v0, v1, v2, v3, v4, v5, v6, z7, z8] := h5.set 6 v6
  have h7 : Bx ((((((((w.setCell ⟨b, 0, none⟩ v0).setCell ⟨b, 1, none⟩ v1).setCell ⟨b, 2, none⟩ v2).setCell ⟨b, 3, none⟩ v3).setCell ⟨b, 4, none⟩ v4).setCell ⟨b, 5, none⟩ v5).setCell ⟨b, 6, none⟩ v6).setCell ⟨b, 7, none⟩ v7) b T #[v0, v1, v2, v3, v4, v5, v6, v7, z8] := h6.set 7 v7
  have h8 : Bx (((((((((w.setCell ⟨b, 0, none⟩ v0).setCell ⟨b, 1, none⟩ v1).setCell ⟨b, 2, none⟩ v2).setCell ⟨b, 3, none⟩ v3).setCell ⟨b, 4, none⟩ v4).setCell ⟨b, 5, none⟩ v5).setCell ⟨b, 6, none⟩ v6).setCell ⟨b, 7, none⟩ v7).setCell ⟨b, 8, none⟩ v8) b T #[v0, v1, v2, v3, v4, v5, v6, v7, v8] := h7.set 8 v8
  exact h8
theorem below_putN9 {B : Nat} {a w : World} {b : Nat} (h : Below B a w) (hb : B ≤ b) (v0 v1 v2 v3 v4 v5 v6 v7 v8 : Value) : Below B a (putN9 w b v0 v1 v2 v3 v4 v5 v6 v7 v8) :=
  ((((((((h.setCell (p := ⟨b, 0, none⟩) hb v0).setCell (p := ⟨b, 1, none⟩) hb v1).setCell (p := ⟨b, 2, none⟩) hb v2).setCell (p := ⟨b, 3, none⟩) hb v3).setCell (p := ⟨b, 4, none⟩) hb v4).setCell (p := ⟨b, 5, none⟩) hb v5).setCell (p := ⟨b, 6, none⟩) hb v6).setCell (p := ⟨b, 7, none⟩) hb v7).setCell (p := ⟨b, 8, none⟩) hb v8
theorem own_putN9 {w : World} {BB n z b : Nat} {T : TypeId} {v : Value} {xs : List Value} (h : w.ownsRow BB T z v n xs) (hne : v.ownBlock ≠ some b) (v0 v1 v2 v3 v4 v5 v6 v7 v8 : Value) : (putN9 w b v0 v1 v2 v3 v4 v5 v6 v7 v8).ownsRow BB T z v n xs :=
  ownsRow_setCell_other (a := ⟨b, 8, none⟩) (ownsRow_setCell_other (a := ⟨b, 7, none⟩) (ownsRow_setCell_other (a := ⟨b, 6, none⟩) (ownsRow_setCell_other (a := ⟨b, 5, none⟩) (ownsRow_setCell_other (a := ⟨b, 4, none⟩) (ownsRow_setCell_other (a := ⟨b, 3, none⟩) (ownsRow_setCell_other (a := ⟨b, 2, none⟩) (ownsRow_setCell_other (a := ⟨b, 1, none⟩) (ownsRow_setCell_other (a := ⟨b, 0, none⟩) h hne v0) hne v1) hne v2) hne v3) hne v4) hne v5) hne v6) hne v7) hne v8
end Go.Proofs.YtjpccmiaimkmbaaGreat

