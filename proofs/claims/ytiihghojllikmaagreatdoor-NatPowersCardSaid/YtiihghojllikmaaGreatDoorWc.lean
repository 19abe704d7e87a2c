/- The walks of nat's numbers at work: widen, plus, minus, nat, row. What each call does to the number's own memory, and that nothing older changes. -/
import Derived.Test.YtiihghojllikmaaGreatDoorApz
import Derived.Test.YtiihghojllikmaaGreatDoorWb
import Derived.Shelf.Abstract
import Derived.Laws.AppendOwn
import Derived.OwnWalk
namespace Go.Proofs.YtiihghojllikmaaGreatDoor
open Go.RowKit Tnd

theorem info_u32 : (Tryz.prog.info? 46).map (fun i => (i.zero, i.size, i.bytes)) = some (some (.int .u32 0), 1, 4) := by kernel_rfl

theorem own_form {w : World} {B : Nat} {e : TypeId} {k : IntKind} {s : Value} {l : List Nat} (h : Own w B e k s l) :
    ∃ p c, s = .slice p l.length c ∧ l.length ≤ c ∧ c ≤ 9223372036854775807 ∧ (p = none → c = 0) ∧ Sl w k p l ∧ (∀ g, s.ownBlock = some g → p = some ⟨g, 0, none⟩ ∧ B ≤ g) := by
  rcases h.2 with ⟨rfl, hn⟩ | ⟨g, cap, cur, rfl, hb, hg, hnc, hcm, hcs, htake⟩
  · have hl : l = [] := List.eq_nil_of_length_eq_zero hn
    subst hl
    exact ⟨none, 0, rfl, by simp, by omega, fun _ => rfl, .inl rfl, fun g hg => by simp [Value.ownBlock] at hg⟩
  · refine ⟨some ⟨g, 0, none⟩, cap, rfl, hnc, by simpa [maxLen] using hcm, by simp, .inr ⟨g, 0, rfl, fun i hi => ?_⟩, fun g' hg' => ?_⟩
    · rw [Nat.zero_add]; exact own_cell h rfl i hi
    · simp only [Value.ownBlock, Option.some.injEq] at hg'
      subst hg'
      exact ⟨rfl, hb⟩
theorem own_ne {w : World} {B : Nat} {e : TypeId} {k : IntKind} {s : Value} {l : List Nat} (h : Own w B e k s l) {nb : Nat} {c : Array Value} {T : TypeId} {fz : Nat × Nat} (hv : w.heap[nb]? = some (.cells c T fz)) (hT : T ≠ e) : s.ownBlock ≠ some nb := by
  intro hg
  rcases h.2 with ⟨rfl, _⟩ | ⟨g, cap, cur, rfl, _, hh, _⟩
  · simp [Value.ownBlock] at hg
  · simp only [Value.ownBlock, Option.some.injEq] at hg
    subst hg
    rw [hh] at hv
    simp only [Option.some.injEq, Obj.cells.injEq] at hv
    exact hT hv.2.1.symm

theorem own_appended {w' : World} {B : Nat} {e : TypeId} {k : IntKind} {v' : Value} {l : List Nat} {n x : Nat} (hn : l.length = n) (h : w'.ownsRow B e 1 v' (n + 1) (l.map (fun d => Value.int k (d : Nat)) ++ [.int k (x : Nat)])) : Own w' B e k v' (l ++ [x]) := by
  unfold Own
  rw [List.length_append, hn, List.map_append]
  exact h

/-- a number at work: its variable's cell, its digits in memory of the call's own. -/
def Num (w : World) (nb B : Nat) (l : List Nat) : Prop :=
  ∃ s, w.heap[nb]? = some (.cells #[s] 54 (0, 0)) ∧ Own w B 46 .u32 s l ∧ Digs 4294967296 l

/-- a row of digits that is only read, outside the call's own memory. -/
def Old (w : World) (B : Nat) (p : Option Addr) (l : List Nat) : Prop :=
  l = [] ∨ ∃ b off, p = some ⟨b, off, none⟩ ∧ b < B ∧ ∀ i, i < l.length → w.cell? ⟨b, off + i, none⟩ = some (.int .u32 (gd l i : Nat))
theorem Old.below {w w' : World} {B : Nat} {p : Option Addr} {l : List Nat} (h : Old w B p l) (hb : Below B w w') : Old w' B p l := by
  rcases h with h | ⟨b, off, h1, h2, h3⟩
  · exact .inl h
  · exact .inr ⟨b, off, h1, h2, fun i hi => by rw [hb.cell (by simpa using h2)]; exact h3 i hi⟩

theorem own_at {w : World} {B : Nat} {e : TypeId} {k : IntKind} {g n cap : Nat} {N : List Nat} (h : Own w B e k (.slice (some ⟨g, 0, none⟩) n cap) N) : B ≤ g ∧ Own w g e k (.slice (some ⟨g, 0, none⟩) n cap) N := by
  rcases h.2 with ⟨h', _⟩ | ⟨g', cap', cur, h', hb, rest⟩
  · simp at h'
  · simp only [Value.slice.injEq, Option.some.injEq, Addr.mk.injEq, and_true] at h'
    obtain ⟨rfl, rfl, rfl⟩ := h'
    exact ⟨hb, h.1, .inr ⟨g, cap, cur, rfl, Nat.le_refl _, rest⟩⟩
theorem own_down {w : World} {B B' : Nat} {e : TypeId} {k : IntKind} {v : Value} {N : List Nat} (h : Own w B e k v N) (hB : B' ≤ B) : Own w B' e k v N := World.ownsRow.mono h hB

end Go.Proofs.YtiihghojllikmaaGreatDoor
