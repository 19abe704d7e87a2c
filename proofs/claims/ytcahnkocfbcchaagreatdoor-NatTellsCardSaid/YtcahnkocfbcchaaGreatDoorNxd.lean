/- Marks of numbers: each has a digit's block of its own; A tells which. -/
import Derived.Test.YtcahnkocfbcchaaGreatDoorNxb

namespace Go.Proofs.YtcahnkocfbcchaaGreatDoor
open Go.RowKit Tnd

/-- the cells of a mark: one digit, in block A k i. -/
def mcT (A : Nat → Nat → Nat) (k i : Nat) : List Value := [.slice (some ⟨A k i, 0, none⟩) 1 1]
theorem mcT_length (A : Nat → Nat → Nat) (k i : Nat) : (mcT A k i).length = 1 := rfl
def upA (A : Nat → Nat → Nat) (k i g : Nat) : Nat → Nat → Nat := fun j t => if j = k ∧ t = i then g else A j t
theorem upA_same (A : Nat → Nat → Nat) (k i g : Nat) : upA A k i g k i = g := if_pos ⟨rfl, rfl⟩
theorem upA_ne (A : Nat → Nat → Nat) {k i g j t : Nat} (h : ¬ (j = k ∧ t = i)) : upA A k i g j t = A j t := if_neg h
theorem mrow_congr {A A' : Nat → Nat → Nat} {k : Nat} : ∀ {n : Nat}, (∀ i, i < n → A k i = A' k i) → mrow (mcT A) k n = mrow (mcT A') k n
  | 0, _ => rfl
  | n + 1, h => by
    rw [mrow_succ, mrow_succ, mrow_congr fun i hi => h i (by omega)]
    unfold mcT
    rw [h n (by omega)]
theorem mrow_up {A : Nat → Nat → Nat} {k i g j n : Nat} (h : j ≠ k ∨ n ≤ i) : mrow (mcT (upA A k i g)) j n = mrow (mcT A) j n :=
  mrow_congr fun t ht => upA_ne A fun ⟨h1, h2⟩ => by rcases h with h | h <;> omega
theorem mrow_upS (A : Nat → Nat → Nat) (k i g : Nat) : mrow (mcT (upA A k i g)) k (i + 1) = mrow (mcT A) k i ++ [.slice (some ⟨g, 0, none⟩) 1 1] := by
  rw [mrow_succ, mrow_up (.inr (Nat.le_refl _))]
  unfold mcT
  rw [upA_same]
theorem L1.upA {A : Nat → Nat → Nat} {ds : List D} {m k i g k0 : Nat} {w wr : World} (h : L1 1 (mcT A) ds m w k0 wr) (hk : k0 ≤ k ∨ ∀ j, j < m → j = k → (dg ds j).n ≤ i) : L1 1 (mcT (Go.Proofs.YtcahnkocfbcchaaGreatDoor.upA A k i g)) ds m w k0 wr :=
  ⟨h.but, h.room, fun j hj hjm => by
    rw [mrow_up (by
      by_cases e : j = k
      · rcases hk with hk | hk
        · omega
        · exact .inr (hk j hjm e)
      · exact .inl e)]
    exact h.fill j hj hjm⟩
theorem L2.upA {A : Nat → Nat → Nat} {ds es : List D} {m x k i g G Z : Nat} {w wr : World} (h : L2 1 (mcT A) ds es m x G Z w wr) (hd : ∀ j, j < m → j = k → (dg ds j).n ≤ i) (he : ∀ j, j < es.length → j = k → (dg ds j).n + x ≤ i) : L2 1 (mcT (Go.Proofs.YtcahnkocfbcchaaGreatDoor.upA A k i g)) ds es m x G Z w wr :=
  ⟨h.but, h.room, fun j hj => by
    rw [mrow_up (by
      by_cases e : j = k
      · exact .inr (hd j hj e)
      · exact .inl e)]
    exact h.fill j hj, h.roomE, fun j hj => by
    rw [mrow_up (by
      by_cases e : j = k
      · exact .inr (he j hj e)
      · exact .inl e)]
    exact h.fillE j hj, h.nE, h.place, h.gn, h.gz, h.zs, h.wz, h.free, h.cell, h.em, h.dw, h.wg⟩
/-- the digits' blocks of the marks that were written (S): new ones, none of them a block of these (N). -/
def TX (A : Nat → Nat → Nat) (S : Nat → Nat → Prop) (N : Nat → Prop) (w wr : World) : Prop :=
  ∀ j t, S j t → Bx wr (A j t) 46 #[.int .u32 (mk j t)] ∧ w.heap.size ≤ A j t ∧ ¬ N (A j t)
section
variable {A : Nat → Nat → Nat} {S S' : Nat → Nat → Prop} {N N' : Nat → Prop} {w wr W : World}
theorem TX.below (h : TX A S N w wr) (hb : Below wr.heap.size wr W) : TX A S N w W := fun j t hs => ⟨(h j t hs).1.below hb, (h j t hs).2⟩
theorem TX.but {T : Nat → Prop} (h : TX A S N w wr) (hb : But T wr W) (hT : ∀ b, T b → b < w.heap.size ∨ N b) : TX A S N w W := fun j t hs => by
  obtain ⟨h1, h2, h3⟩ := h j t hs
  refine ⟨(hb.block _ h1.lt fun s => ?_).trans h1, h2, h3⟩
  rcases hT _ s with h4 | h4
  · omega
  · exact h3 h4
theorem TX.few (h : TX A S N w wr) (hS : ∀ j t, S' j t → S j t) : TX A S' N w wr := fun j t hs => h j t (hS j t hs)
/-- a block that is new now is none of them. -/
theorem TX.more (h : TX A S N w wr) (hN : ∀ b, N' b → N b ∨ wr.heap.size ≤ b ∨ b < w.heap.size) : TX A S N' w wr := fun j t hs => by
  obtain ⟨h1, h2, h3⟩ := h j t hs
  refine ⟨h1, h2, fun s => ?_⟩
  rcases hN _ s with h4 | h4 | h4
  · exact h3 h4
  · have := h1.lt; omega
  · omega
theorem TX.skip {k i g : Nat} (h : TX A S N w wr) (hn : ¬ S k i) : TX (Go.Proofs.YtcahnkocfbcchaaGreatDoor.upA A k i g) S N w wr := fun j t hs => by
  rw [upA_ne A (fun ⟨e1, e2⟩ => hn (by rw [← e1, ← e2]; exact hs))]
  exact h j t hs
/-- one mark more, its block new. -/
theorem TX.mark {k i g : Nat} (h : TX A S N w wr) (hb : Below wr.heap.size wr W) (hg : Bx W g 46 #[.int .u32 (mk k i)]) (hgw : wr.heap.size ≤ g) (hw : w.heap.size ≤ wr.heap.size) (hN : ∀ b, N b → b < wr.heap.size) (hn : ¬ S k i) (hS : ∀ j t, S' j t → S j t ∨ (j = k ∧ t = i)) : TX (Go.Proofs.YtcahnkocfbcchaaGreatDoor.upA A k i g) S' N w W := fun j t hs => by
  by_cases e : j = k ∧ t = i
  · obtain ⟨rfl, rfl⟩ := e
    rw [upA_same]
    exact ⟨hg, by omega, fun s => by have := hN _ s; omega⟩
  · rw [upA_ne A e]
    rcases hS j t hs with h1 | h1
    · exact ⟨(h j t h1).1.below hb, (h j t h1).2⟩
    · exact absurd h1 e
end
end Go.Proofs.YtcahnkocfbcchaaGreatDoor
