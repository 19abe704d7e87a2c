/- Rows of numbers of a call's own, and a text's reader: what its block holds. -/
import Derived.Test.YtalnfbbggmhbfaaDoorPd
import Derived.Deep.AppendLies
import Derived.Lib.SmallJoins
import Derived.Maps.AppendAt
import Derived.Deep.Onto
import Derived.Deep.LoopGhost
import Derived.Shelf.Abstract
namespace Go.Proofs.YtalnfbbggmhbfaaDoor
open Go.RowKit Tnd

def gd (l : List Nat) (i : Nat) : Nat := l.getD i 0
/-- a slice of numbers of one kind: its cells. -/
def Sl (w : World) (k : IntKind) (p : Option Addr) (l : List Nat) : Prop :=
  l = [] ∨ ∃ b off, p = some ⟨b, off, none⟩ ∧ ∀ i, i < l.length → w.cell? ⟨b, off + i, none⟩ = some (.int k (gd l i : Nat))
/-- a row of numbers in a block of the call's own. -/
def Own (w : World) (B : Nat) (e : TypeId) (k : IntKind) (v : Value) (N : List Nat) : Prop :=
  w.ownsRow B e 1 v N.length (N.map fun d => Value.int k (d : Nat))
theorem own_nil (w : World) (B : Nat) (e : TypeId) (k : IntKind) : Own w B e k (.slice none 0 0) [] := World.ownsRow_nil w B e 1
theorem own_cell {w : World} {B : Nat} {e : TypeId} {k : IntKind} {g n cap : Nat} {N : List Nat} (h : Own w B e k (.slice (some ⟨g, 0, none⟩) n cap) N) (hn : N.length = n) (i : Nat) (hi : i < n) :
    w.cell? ⟨g, i, none⟩ = some (.int k (gd N i : Nat)) := by
  unfold Own at h
  rw [hn] at h
  rw [h.cellAt i (by omega)]
  simp [gd, List.getD_eq_getElem?_getD, List.getElem?_eq_getElem (show i < N.length by omega)]
theorem own_kept {w w' : World} {B : Nat} {e : TypeId} {k : IntKind} {v : Value} {N : List Nat} {r : Option Nat} (h : Own w B e k v N) (hg : w.grownBy w' r) (hne : v.ownBlock = none ∨ v.ownBlock ≠ r) : Own w' B e k v N :=
  World.ownsRow.kept h hg hne
theorem own_form {w : World} {B : Nat} {e : TypeId} {k : IntKind} {s : Value} {l : List Nat} (h : Own w B e k s l) :
    ∃ p c, s = .slice p l.length c ∧ l.length ≤ c ∧ c ≤ 9223372036854775807 ∧ (p = none → c = 0) ∧ Sl w k p l ∧ (∀ g, s.ownBlock = some g → p = some ⟨g, 0, none⟩ ∧ B ≤ g) := by
  rcases h.2 with ⟨rfl, hn⟩ | ⟨g, cap, cur, rfl, hb, hg, hnc, hcm, hcs, htake⟩
  · have hl : l = [] := List.eq_nil_of_length_eq_zero hn
    subst hl
    exact ⟨none, 0, rfl, by simp, by omega, fun _ => rfl, .inl rfl, fun g hg => by simp [Value.ownBlock] at hg⟩
  · refine ⟨some ⟨g, 0, none⟩, cap, rfl, hnc, by simpa [maxLen] using hcm, by simp, .inr ⟨g, 0, rfl, fun i hi => ?_⟩, fun g' hg' => ?_⟩
    · rw [Nat.zero_add]; exact own_cell h rfl i hi
    · simp only [Value.ownBlock, Option.some.injEq] at hg'
      subst hg'
      exact ⟨rfl, hb⟩
theorem own_ne {w : World} {B : Nat} {e : TypeId} {k : IntKind} {s : Value} {l : List Nat} (h : Own w B e k s l) {nb : Nat} {c : Array Value} {T : TypeId} {fz : Nat × Nat} (hv : w.heap[nb]? = some (.cells c T fz)) (hT : T ≠ e) : s.ownBlock ≠ some nb := by
  intro hg
  rcases h.2 with ⟨rfl, _⟩ | ⟨g, cap, cur, rfl, _, hh, _⟩
  · simp [Value.ownBlock] at hg
  · simp only [Value.ownBlock, Option.some.injEq] at hg
    subst hg
    rw [hh] at hv
    simp only [Option.some.injEq, Obj.cells.injEq] at hv
    exact hT hv.2.1.symm
theorem own_appended {w' : World} {B : Nat} {e : TypeId} {k : IntKind} {v' : Value} {l : List Nat} {n x : Nat} (hn : l.length = n) (h : w'.ownsRow B e 1 v' (n + 1) (l.map (fun d => Value.int k (d : Nat)) ++ [.int k (x : Nat)])) : Own w' B e k v' (l ++ [x]) := by
  unfold Own
  rw [List.length_append, hn, List.map_append]
  exact h
theorem own_below {w w' : World} {B : Nat} {e : TypeId} {k : IntKind} {v : Value} {N : List Nat} (h : Own w B e k v N) (hb : Below w.heap.size w w') : Own w' B e k v N := by
  obtain ⟨h1, h2⟩ := h
  refine ⟨h1, ?_⟩
  rcases h2 with h2 | ⟨g, cap, cur, rfl, hg, hh, r⟩
  · exact .inl h2
  · exact .inr ⟨g, cap, cur, rfl, hg, by rw [hb.block g (lt_of_block hh)]; exact hh, r⟩
theorem own_down {w : World} {B B' : Nat} {e : TypeId} {k : IntKind} {v : Value} {N : List Nat} (h : Own w B e k v N) (hB : B' ≤ B) : Own w B' e k v N := World.ownsRow.mono h hB

theorem bl_trans {a b c : World} (h1 : Below a.heap.size a b) (h2 : Below b.heap.size b c) : Below a.heap.size a c := h1.trans (h2.mono h1.size)
theorem bl_alloc (a : World) (o : Obj) : Below a.heap.size a (a.alloc o) := (Below.refl _ _).alloc (Nat.le_refl _) _
theorem bl_drew (a : World) : Below a.heap.size a a.drew := (Below.refl _ _).drew

/-- A block of two cells. -/
theorem two_cell0 {w : World} {b : Nat} {u v : Value} {t : TypeId} (h : w.heap[b]? = some (.cells #[u, v] t (0, 0))) : w.cell? ⟨b, 0, none⟩ = some u := by simp [World.cell?, h]
theorem two_cell1 {w : World} {b : Nat} {u v : Value} {t : TypeId} (h : w.heap[b]? = some (.cells #[u, v] t (0, 0))) : w.cell? ⟨b, 1, none⟩ = some v := by simp [World.cell?, h]
theorem two_free {w : World} {b : Nat} {u v : Value} {t : TypeId} (h : w.heap[b]? = some (.cells #[u, v] t (0, 0))) (i : Nat) : w.frozen? ⟨b, i, none⟩ = false := by simp [World.frozen?, h]
theorem two_set0 {w : World} {b : Nat} {u v x : Value} {t : TypeId} (h : w.heap[b]? = some (.cells #[u, v] t (0, 0))) : (w.setCell ⟨b, 0, none⟩ x).heap[b]? = some (.cells #[x, v] t (0, 0)) := by
  have hlt := lt_of_block h
  have h' : w.heap[b] = .cells #[u, v] t (0, 0) := by simpa [Array.getElem?_eq_getElem hlt] using h
  show (w.heap.modify b _)[b]? = _
  rw [Array.getElem?_eq_getElem (by simpa using hlt), Array.getElem_modify_self, h']
  rfl
theorem two_set1 {w : World} {b : Nat} {u v x : Value} {t : TypeId} (h : w.heap[b]? = some (.cells #[u, v] t (0, 0))) : (w.setCell ⟨b, 1, none⟩ x).heap[b]? = some (.cells #[u, x] t (0, 0)) := by
  have hlt := lt_of_block h
  have h' : w.heap[b] = .cells #[u, v] t (0, 0) := by simpa [Array.getElem?_eq_getElem hlt] using h
  show (w.heap.modify b _)[b]? = _
  rw [Array.getElem?_eq_getElem (by simpa using hlt), Array.getElem_modify_self, h']
  rfl

/-- a reader: what is left of its text, its code points in memory of the call's own. -/
def Rd (w : World) (b B : Nat) (t : List UInt8) (l : List Nat) : Prop :=
  ∃ (s : ByteArray) (v : Value), w.heap[b]? = some (.cells #[.string s, v] 37 (0, 0)) ∧ Own w B 3 .i64 v l ∧ s.data.toList = t
theorem Rd.below {w w' : World} {b B : Nat} {t : List UInt8} {l : List Nat} (h : Rd w b B t l) (hb : Below w.heap.size w w') : Rd w' b B t l := by
  obtain ⟨s, v, h1, h2, h3⟩ := h
  exact ⟨s, v, by rw [hb.block b (lt_of_block h1)]; exact h1, own_below h2 hb, h3⟩
theorem Rd.take {w : World} {b B : Nat} {s : ByteArray} {v : Value} {l : List Nat} (h1 : w.heap[b]? = some (.cells #[.string s, v] 37 (0, 0))) (h2 : Own w B 3 .i64 v l) {x : UInt8} {t : List UInt8} (h3 : s.data.toList = x :: t) :
    Rd (w.setCell ⟨b, 0, none⟩ (.string (s.extract 1 s.size))) b B t l := by
  obtain ⟨_, _, _, _, h5, _⟩ := str_cons h3
  exact ⟨_, v, two_set0 h1, ownsRow_setCell_other h2 (own_ne h2 h1 (by decide)) _, h5⟩
theorem info_int : (Tryd.prog.info? 3).map (fun i => (i.zero, i.size, i.bytes)) = some (some (.int .i64 0), 1, 8) := by kernel_rfl
end Go.Proofs.YtalnfbbggmhbfaaDoor
