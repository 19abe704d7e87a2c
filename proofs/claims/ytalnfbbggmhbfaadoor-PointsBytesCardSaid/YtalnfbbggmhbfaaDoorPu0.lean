/- Points: small laws over lists of ints and texts, for several walks. -/
import Derived.Test.YtalnfbbggmhbfaaDoorPt
namespace Go.Proofs.YtalnfbbggmhbfaaDoor
open Go.RowKit Tnd

theorem SlI.below {w w' : World} {p : Option Addr} {l : List Int} (h : SlI w p l) (hb : Below w.heap.size w w') : SlI w' p l := by
  rcases h with h | ⟨b, off, h1, h2⟩
  · exact .inl h
  · exact .inr ⟨b, off, h1, fun i hi => by rw [hb.cell (World.block_lt_of_cell? w _ (h2 i hi))]; exact h2 i hi⟩
theorem bl_drewN (a : World) (n : Nat) : Below a.heap.size a (a.drewN n) := Joins.below_draws _ _ _
theorem own_apart {w w2 : World} {B B2 : Nat} {e e2 : TypeId} {k k2 : IntKind} {v v2 : Value} {N M : List Nat} (h1 : Own w B e k v N) (h2 : Own w2 B2 e2 k2 v2 M) (hB : w.heap.size ≤ B2) : v.ownBlock = none ∨ v.ownBlock ≠ v2.ownBlock := by
  rcases hv : v.ownBlock with _ | g
  · exact .inl rfl
  · right
    intro h
    have hg := (h1.lt g hv).2
    obtain ⟨_, _, _, _, _, _, _, h6⟩ := own_form h2
    have := (h6 g h.symm).2
    omega
theorem str_back (s : ByteArray) : (⟨s.data.toList.toArray⟩ : ByteArray) = s := by cases s; simp
theorem both_data (s t : ByteArray) : (s ++ t).data.toList = s.data.toList ++ t.data.toList := by rw [ByteArray.data_append, Array.toList_append]
theorem text_at (p : Option Addr) (cp : Nat) (l : List Int) (w : World) (hp : SlI w p l) (hl : l.length ≤ 4611686018427387904) (hS : SizesIn w) (x : List UInt8) (b : Bool) (h : textR l = (x, b)) :
    Calls Tryd.prog 10 #[.slice p l.length cp] w fun e w' => e = .returned (.tuple #[.string ⟨x.toArray⟩, .bool b]) ∧ Below w.heap.size w w' := by
  have h1 := text_any p cp l w hp hl hS
  rw [h] at h1
  exact h1
theorem text_own (p : Option Addr) (cp : Nat) (a : List Nat) (w : World) (B : Nat) (ho : Own w B 3 .i64 (.slice p a.length cp) a) (hl : a.length ≤ 1000000) (hS : SizesIn w) (s : ByteArray) (h : ofR s.data.toList = (a, 0, 0)) :
    Calls Tryd.prog 10 #[.slice p a.length cp] w fun e w' => e = .returned (.tuple #[.string s, .bool true]) ∧ Below w.heap.size w w' := by
  have h1 := text_at p cp (ints a) w (own_sli ho) (by rw [ints_length]; omega) hS _ _ (text_back h)
  rw [ints_length, str_back] at h1
  exact h1
theorem same_own (p q : Option Addr) (c d : Nat) (a : List Nat) (l : List Int) (w : World) (B : Nat) (ho : Own w B 3 .i64 (.slice p a.length c) a) (hq : SlI w q l) (hl : l.length ≤ 1000000) (h : ints a = l) :
    Calls Tryd.prog 6 #[.slice p a.length c, .slice q l.length d] w fun e w' => e = .returned (.bool true) ∧ Below w.heap.size w w' := by
  have hal : a.length ≤ 1000000 := by rw [← ints_length, h]; exact hl
  have h1 := same_ints p q c d (ints a) l w (own_sli ho) hq (by rw [ints_length]; omega) (by omega)
  rw [ints_length, decide_eq_true h] at h1
  exact h1.mono fun e w' ⟨h2, n, h3⟩ => ⟨h2, by rw [← h3]; exact bl_drewN _ _⟩
theorem same_two (p q : Option Addr) (c d : Nat) (a : List Nat) (w : World) (B B2 : Nat) (ho : Own w B 3 .i64 (.slice p a.length c) a) (hq : Own w B2 3 .i64 (.slice q a.length d) a) (hl : a.length ≤ 1000000) :
    Calls Tryd.prog 6 #[.slice p a.length c, .slice q a.length d] w fun e w' => e = .returned (.bool true) ∧ Below w.heap.size w w' := by
  have h1 := same_own p q c d a (ints a) w B ho (own_sli hq) (by rw [ints_length]; omega) rfl
  rw [ints_length] at h1
  exact h1

end Go.Proofs.YtalnfbbggmhbfaaDoor
