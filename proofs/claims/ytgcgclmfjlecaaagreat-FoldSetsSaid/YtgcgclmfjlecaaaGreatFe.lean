/- Rows handed out one after the other lie apart; a list of them, new. -/
import Derived.Test.YtgcgclmfjlecaaaGreatFb

namespace Go.Proofs.YtgcgclmfjlecaaaGreat
open Go.RowKit

/-- each in blocks of its own, those of the later ones behind. -/
def Up : Nat → List D → Prop
  | _, [] => True
  | B, d :: ds => ∃ B', B ≤ B' ∧ (∀ b, d.p = some b → B ≤ b ∧ b < B') ∧ Up B' ds
theorem dg_zero (d : D) (ds : List D) : dg (d :: ds) 0 = d := rfl
theorem dg_succ (d : D) (ds : List D) (k : Nat) : dg (d :: ds) (k + 1) = dg ds k := by unfold dg; rw [List.getD_cons_succ]
theorem up_in : ∀ {ds : List D} {B b : Nat}, Up B ds → InD ds b → B ≤ b
  | [], _, _, _, ⟨k, hk, _⟩ => by simp at hk
  | d :: ds, B, b, ⟨B', h1, h2, h3⟩, ⟨k, hk, e⟩ => by
    cases k with
    | zero => exact (h2 b e).1
    | succ k =>
      rw [dg_succ] at e
      exact Nat.le_trans h1 (up_in h3 ⟨k, by simpa using hk, e⟩)
theorem up_far : ∀ {ds : List D} {B : Nat}, Up B ds → Far ds
  | [], _, _ => fun i j b hi => by simp at hi
  | d :: ds, B, ⟨B', h1, h2, h3⟩ => fun i j b hi hj ei ej => by
    cases i with
    | zero =>
      cases j with
      | zero => rfl
      | succ j =>
        rw [dg_succ] at ej
        have := up_in h3 ⟨j, by simpa using hj, ej⟩
        have := (h2 b ei).2
        omega
    | succ i =>
      rw [dg_succ] at ei
      cases j with
      | zero =>
        have := up_in h3 ⟨i, by simpa using hi, ei⟩
        have := (h2 b ej).2
        omega
      | succ j =>
        rw [dg_succ] at ej
        have := up_far h3 i j b (by simpa using hi) (by simpa using hj) ei ej
        omega
theorem slD_new {W : World} {ds : List D} {cs : Array Value} {T : TypeId} (hd : ∀ b, InD ds b → b < W.heap.size) (hcs : cs = (ds.map D.val).toArray) : SlD (W.alloc (.cells cs T)) (some ⟨W.heap.size, 0, none⟩) ds := by
  subst hcs
  refine .inr ⟨W.heap.size, 0, rfl, fun s => by have := hd _ s; omega, by simp, fun k hk => ?_⟩
  rw [World.cell?_alloc_at _ _ _ _ rfl, Nat.zero_add]
  simp only [List.getElem?_toArray, List.getElem?_map, List.getElem?_eq_getElem hk, Option.map_some]
  unfold dg
  rw [List.getD_eq_getElem?_getD, List.getElem?_eq_getElem hk]; rfl
/-- a row of the call's own, as a row handed out. -/
theorem own_room {w : World} {B sz n : Nat} {T : TypeId} {q : Option Addr} {m c : Nat} {xs : List Value} (h : w.ownsRow B T sz (.slice q m c) n xs) : ∃ d : D, Value.slice q m c = d.val ∧ d.n = n ∧ Room w sz d ∧ ∀ b, d.p = some b → B ≤ b ∧ b < w.heap.size := by
  obtain ⟨d, h1, h2, h3, _, h5⟩ := room_of_own h
  exact ⟨d, h1, h2, h3, fun b e => ⟨h5 b e, h3.lt b e⟩⟩
end Go.Proofs.YtgcgclmfjlecaaaGreat
