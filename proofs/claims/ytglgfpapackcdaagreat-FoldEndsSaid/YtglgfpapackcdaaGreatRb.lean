/- Rows of ranges: what a slice of them holds; rows of ranges of a call's own. -/
import Derived.Test.YtglgfpapackcdaaGreatProg
import Derived.Test.YtglgfpapackcdaaGreatRa
import Derived.WalkKit
import Derived.WalkSpells
import Derived.WalkLawsBesides
import Derived.LoopTactic
import Derived.RegionTactic
import Derived.Deep.QuietTactic
import Derived.BigQuiet
import Derived.Deep.RegionWith
import Derived.Outline
import Derived.Lib.Hide
import Derived.OneCell
import Derived.Laws.OwnMore
import Derived.Deep.AppendLies
import Derived.Lib.SmallJoins
import Derived.Maps.AppendAt
import Derived.Deep.Onto
import Derived.Deep.LoopGhost
import Derived.Shelf.Abstract

namespace Go.Proofs.YtglgfpapackcdaaGreat
open Go.RowKit Tnr

theorem ret_bool {a b : Bool} (h : a = b) : Ending.returned (.bool a) = .returned (.bool b) := by rw [h]
theorem bl_trans {a b c : World} (h1 : Below a.heap.size a b) (h2 : Below b.heap.size b c) : Below a.heap.size a c := h1.trans (h2.mono h1.size)
theorem bl_alloc (a : World) (o : Obj) : Below a.heap.size a (a.alloc o) := (Below.refl _ _).alloc (Nat.le_refl _) _
theorem bl_drew (a : World) : Below a.heap.size a a.drew := (Below.refl _ _).drew
theorem bl_refl (a : World) : Below a.heap.size a a := Below.refl _ _

def encR (r : R) : List Value := [.int .i64 r.1, .int .i64 r.2]
def gr (l : List R) (i : Nat) : R := l.getD i (0, 0)
theorem gr_get {l : List R} {i : Nat} (h : i < l.length) : gr l i = l[i] := by
  unfold gr
  rw [List.getD_eq_getElem?_getD, List.getElem?_eq_getElem h]; rfl
theorem encs_length (l : List R) : (l.flatMap encR).length = l.length * 2 := by
  induction l with
  | nil => rfl
  | cons r l ih => rw [List.flatMap_cons, List.length_append, ih, List.length_cons]; simp only [encR, List.length_cons, List.length_nil]; omega
theorem encs_at : ∀ (l : List R) (i : Nat), i < l.length → (l.flatMap encR)[i * 2]? = some (.int .i64 (gr l i).1) ∧ (l.flatMap encR)[i * 2 + 1]? = some (.int .i64 (gr l i).2)
  | [], i, h => by simp at h
  | r :: l, 0, _ => ⟨rfl, rfl⟩
  | r :: l, i + 1, h => by
    have ih := encs_at l i (by simpa using h)
    have e : ∀ j, ((r :: l).flatMap encR)[j + 2]? = (l.flatMap encR)[j]? := fun j => rfl
    have g : gr (r :: l) (i + 1) = gr l i := by unfold gr; rw [List.getD_cons_succ]
    rw [show (i + 1) * 2 = i * 2 + 2 by omega, show i * 2 + 2 + 1 = i * 2 + 1 + 2 by omega, e, e, g]
    exact ih

def SlR (w : World) (p : Option Addr) (l : List R) : Prop :=
  l = [] ∨ ∃ b off, p = some ⟨b, off, none⟩ ∧ ∀ i, i < l.length → w.cell? ⟨b, off + i * 2, none⟩ = some (.int .i64 (gr l i).1) ∧ w.cell? ⟨b, off + i * 2 + 1, none⟩ = some (.int .i64 (gr l i).2)
theorem SlR.below {w w' : World} {p : Option Addr} {l : List R} (h : SlR w p l) (hb : Below w.heap.size w w') : SlR w' p l := by
  rcases h with h | ⟨b, off, h1, h2⟩
  · exact .inl h
  · refine .inr ⟨b, off, h1, fun i hi => ?_⟩
    obtain ⟨c1, c2⟩ := h2 i hi
    exact ⟨by rw [hb.cell (World.block_lt_of_cell? w _ c1)]; exact c1, by rw [hb.cell (World.block_lt_of_cell? w _ c2)]; exact c2⟩
def OwnR (w : World) (B : Nat) (v : Value) (l : List R) : Prop := w.ownsRow B 24 2 v l.length (l.flatMap encR)
theorem ownR_nil (w : World) (B : Nat) : OwnR w B (.slice none 0 0) [] := World.ownsRow_nil w B 24 2
theorem ownR_below {w w' : World} {B : Nat} {v : Value} {l : List R} (h : OwnR w B v l) (hb : Below w.heap.size w w') : OwnR w' B v l := by
  obtain ⟨h1, h2⟩ := h
  refine ⟨h1, ?_⟩
  rcases h2 with h2 | ⟨g, cap, cur, rfl, hg, hh, r⟩
  · exact .inl h2
  · exact .inr ⟨g, cap, cur, rfl, hg, by rw [hb.block g (lt_of_block hh)]; exact hh, r⟩
theorem ownR_down {w : World} {B B' : Nat} {v : Value} {l : List R} (h : OwnR w B v l) (hB : B' ≤ B) : OwnR w B' v l := World.ownsRow.mono h hB
theorem ownR_form {w : World} {B : Nat} {v : Value} {l : List R} (h : OwnR w B v l) :
    ∃ p c, v = .slice p l.length c ∧ l.length ≤ c ∧ c ≤ 9223372036854775807 ∧ (p = none → c = 0) ∧ SlR w p l ∧ (∀ g, v.ownBlock = some g → p = some ⟨g, 0, none⟩ ∧ B ≤ g) := by
  have h' := h
  rcases h.2 with ⟨rfl, hn⟩ | ⟨g, cap, cur, rfl, hb, hg, hnc, hcm, hcs, htake⟩
  · have hl : l = [] := List.eq_nil_of_length_eq_zero hn
    subst hl
    exact ⟨none, 0, rfl, by simp, by omega, fun _ => rfl, .inl rfl, fun g hg => by simp [Value.ownBlock] at hg⟩
  · refine ⟨some ⟨g, 0, none⟩, cap, rfl, hnc, by simpa [maxLen] using hcm, by simp, .inr ⟨g, 0, rfl, fun i hi => ?_⟩, fun g' hg' => ?_⟩
    · obtain ⟨e1, e2⟩ := encs_at l i hi
      unfold OwnR at h'
      have k1 := h'.cellAt (i * 2) (by omega)
      have k2 := h'.cellAt (i * 2 + 1) (by omega)
      rw [Nat.zero_add, k1, k2]
      exact ⟨e1, e2⟩
    · simp only [Value.ownBlock, Option.some.injEq] at hg'
      subst hg'
      exact ⟨rfl, hb⟩
theorem ownR_ne {w : World} {B : Nat} {v : Value} {l : List R} (h : OwnR w B v l) {nb : Nat} {c : Array Value} {T : TypeId} {fz : Nat × Nat} (hv : w.heap[nb]? = some (.cells c T fz)) (hT : T ≠ 24) : v.ownBlock ≠ some nb := by
  intro hg
  rcases h.2 with ⟨rfl, _⟩ | ⟨g, cap, cur, rfl, _, hh, _⟩
  · simp [Value.ownBlock] at hg
  · simp only [Value.ownBlock, Option.some.injEq] at hg
    subst hg
    rw [hh] at hv
    simp only [Option.some.injEq, Obj.cells.injEq] at hv
    exact hT hv.2.1.symm
theorem ownR_appended {w' : World} {B : Nat} {v' : Value} {l : List R} {n : Nat} {r : R} (hn : l.length = n) (h : w'.ownsRow B 24 2 v' (n + 1) (l.flatMap encR ++ [.int .i64 r.1, .int .i64 r.2])) : OwnR w' B v' (l ++ [r]) := by
  unfold OwnR
  rw [List.length_append, hn, List.flatMap_append]
  exact h
theorem info_range : (Tryz.prog.info? 24).map (fun i => (i.zero, i.size, i.bytes)) = some (some (.agg #[.int .i64 0, .int .i64 0]), 2, 16) := by kernel_rfl
theorem cells_two_new (w : World) (u v : Value) (T : TypeId) : ∀ j x, [u, v][j]? = some x → (w.alloc (.cells #[u, v] T)).cell? ((⟨w.heap.size, 0, none⟩ : Addr).add j) = some x := by
  intro j x hx
  match j, hx with
  | 0, hx => show (w.alloc (.cells #[u, v] T)).cell? ⟨w.heap.size, 0, none⟩ = _; rw [World.cell?_alloc_at _ _ _ _ rfl]; exact hx
  | 1, hx => show (w.alloc (.cells #[u, v] T)).cell? ⟨w.heap.size, 1, none⟩ = _; rw [World.cell?_alloc_at _ _ _ _ rfl]; exact hx
  | n + 2, hx => simp at hx
end Go.Proofs.YtglgfpapackcdaaGreat
