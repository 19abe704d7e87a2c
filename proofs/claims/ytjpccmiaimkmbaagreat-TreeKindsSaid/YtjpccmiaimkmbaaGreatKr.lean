/- Drawn regions: a condition on what a slot holds, which every later world keeps. -/
import Derived.Test.YtjpccmiaimkmbaaGreatFi
import Derived.Test.YtjpccmiaimkmbaaGreatLw

namespace Go.Proofs.YtjpccmiaimkmbaaGreat
open Go.RowKit Tnr Tnt

structure Kc where
  P : Value → World → Prop
  keep : ∀ {v : Value} {w w' : World}, P v w → Below w.heap.size w w' → P v w'
def Kc.val (u : Value) : Kc := ⟨fun v _ => v = u, fun h _ => h⟩
def Kc.num : Kc := ⟨fun v _ => ∃ z : Int, v = .int .i64 z, fun h _ => h⟩
def Kc.cnt (lo hi : Nat) : Kc := ⟨fun v _ => ∃ k : Nat, v = .int .i64 (k : Nat) ∧ lo ≤ k ∧ k ≤ hi, fun h _ => h⟩
def FwN (d : Nd) : Prop := d.kids.length ≤ 5000 ∧ d.set.length ≤ 5000 ∧ 0 ≤ d.kind ∧ d.kind < 256
def Kc.node : Kc := ⟨fun v w => ∃ x : NV, v = .agg (encN x).toArray ∧ NodeIn w x ∧ FwN x.nd, fun ⟨x, h1, h2, h3⟩ hb => ⟨x, h1, h2.below hb, h3⟩⟩
def Kc.ints (n c : Nat) : Kc := ⟨fun v w => ∃ (g : Nat) (l : List Int), v = .slice (some ⟨g, 0, none⟩) n c ∧ l.length = n ∧ SlZ w (some ⟨g, 0, none⟩) l, fun ⟨g, l, h1, h2, h3⟩ hb => ⟨g, l, h1, h2, h3.below hb⟩⟩
def Kc.intsTo (c : Nat) : Kc := ⟨fun v w => ∃ (g n : Nat) (l : List Int), v = .slice (some ⟨g, 0, none⟩) n c ∧ l.length = n ∧ n ≤ c ∧ SlZ w (some ⟨g, 0, none⟩) l, fun ⟨g, n, l, h1, h2, h4, h3⟩ hb => ⟨g, n, l, h1, h2, h4, h3.below hb⟩⟩
def Kc.nodes (n : Nat) : Kc := ⟨fun v w => ∃ (g : Nat) (ys : List NV), v = .slice (some ⟨g, 0, none⟩) n n ∧ ys.length = n ∧ SlN w (some ⟨g, 0, none⟩) ys ∧ ∀ y ∈ ys, FwN y.nd, fun ⟨g, ys, h1, h2, h3, h4⟩ hb => ⟨g, ys, h1, h2, h3.below hb, h4⟩⟩
def Kc.tree5 (n : Nat) : Kc := ⟨fun v w => ∃ (g : Nat) (ys : List NV), v = .agg #[.slice (some ⟨g, 0, none⟩) n n, .slice none 0 0] ∧ ys.length = n ∧ SlN w (some ⟨g, 0, none⟩) ys ∧ ∀ y ∈ ys, FwN y.nd, fun ⟨g, ys, h1, h2, h3, h4⟩ hb => ⟨g, ys, h1, h2, h3.below hb, h4⟩⟩
def Kc.box (z : Nat) (T : TypeId) (cs : Array Value) : Kc := ⟨fun v w => ∃ b : Nat, v = .pointer (some ⟨b, 0, none⟩) ∧ z ≤ b ∧ Bx w b T cs, fun ⟨b, h1, h2, h3⟩ hb => ⟨b, h1, h2, h3.below hb⟩⟩
theorem keep_cellK {w w' : World} {b i : Nat} {v : Value} (hb : Below w.heap.size w w') (h : w.cell? ⟨b, i, none⟩ = some v) : w'.cell? ⟨b, i, none⟩ = some v := by rw [hb.cell (World.block_lt_of_cell? w _ h)]; exact h
theorem slz_new (w : World) (l : List Int) (T : TypeId) : SlZ (w.alloc (.cells (l.map (Value.int .i64)).toArray T)) (some ⟨w.heap.size, 0, none⟩) l := by
  right
  refine ⟨w.heap.size, 0, rfl, fun i hi => ?_⟩
  rw [Nat.zero_add, World.cell?_alloc_at _ _ _ _ rfl, gz_get hi]
  simp [hi]
theorem slz_take {w : World} {g : Nat} {l : List Int} (h : SlZ w (some ⟨g, 0, none⟩) l) (k : Nat) : SlZ w (some ⟨g, 0, none⟩) (l.take k) := by
  rcases h with h | ⟨b, off, h1, h2⟩
  · left; rw [h]; simp
  · right
    refine ⟨b, off, h1, fun i hi => ?_⟩
    rw [List.length_take] at hi
    have e : gz (l.take k) i = gz l i := by
      rw [gz_get (by rw [List.length_take]; omega), gz_get (by omega), List.getElem_take]
    rw [e]; exact h2 i (by omega)
theorem sln_new {w : World} (xs : List NV) (h : ∀ x ∈ xs, NodeIn w x) (T : TypeId) : SlN (w.alloc (.cells (xs.flatMap encN).toArray T)) (some ⟨w.heap.size, 0, none⟩) xs := by
  refine ⟨fun x hx => (h x hx).below (bl_alloc _ _), .inr ⟨w.heap.size, 0, rfl, fun i hi => ?_⟩⟩
  have k : ∀ j, j < 9 → ∀ u, (encN (gn xs i))[j]? = some u → (w.alloc (.cells (xs.flatMap encN).toArray T)).cell? ⟨w.heap.size, 0 + i * 9 + j, none⟩ = some u := fun j hj u hu => by
    rw [Nat.zero_add, World.cell?_alloc_at _ _ _ _ rfl, ← hu, ← encN_at xs i j hi hj]
    simp
  exact ⟨k 0 (by omega) _ rfl, k 1 (by omega) _ rfl, k 2 (by omega) _ rfl, k 3 (by omega) _ rfl, k 4 (by omega) _ rfl, k 5 (by omega) _ rfl, k 6 (by omega) _ rfl, k 7 (by omega) _ rfl, k 8 (by omega) _ rfl⟩
structure TS (w : World) (q : Option Addr) (m cq : Nat) (ys : List NV) : Prop where
  len : m = ys.length
  le : m ≤ 5000
  sl : SlN w q ys
  few : ∀ x ∈ ys, FwN x.nd
  nil : q = none → cq = 0
  cap : m ≤ cq
  max : cq ≤ 9223372036854775807
theorem TS.below {w w' : World} {q : Option Addr} {m cq : Nat} {ys : List NV} (h : TS w q m cq ys) (hb : Below w.heap.size w w') : TS w' q m cq ys := ⟨h.len, h.le, h.sl.below hb, h.few, h.nil, h.cap, h.max⟩
theorem TS.few' {w : World} {q : Option Addr} {m cq : Nat} {ys : List NV} (h : TS w q m cq ys) : Few ys := fun x hx => by
  have := h.few x hx
  exact ⟨by have := this.1; omega, by have := this.2.1; omega⟩
theorem TS.kinds {w : World} {q : Option Addr} {m cq : Nat} {ys : List NV} (h : TS w q m cq ys) : KindsIn ys := fun x hx => (h.few x hx).2.2
structure TW (w : World) (B : Nat) (q : Option Addr) (m cq : Nat) (ys : List NV) : Prop where
  len : m = ys.length
  le : m ≤ 5000
  own : OwnN w B (.slice q m cq) ys
  few : ∀ x ∈ ys, FwN x.nd
theorem TW.below {w w' : World} {B : Nat} {q : Option Addr} {m cq : Nat} {ys : List NV} (h : TW w B q m cq ys) (hb : Below w.heap.size w w') : TW w' B q m cq ys := ⟨h.len, h.le, h.own.below hb, h.few⟩
theorem TW.ts {w : World} {B : Nat} {q : Option Addr} {m cq : Nat} {ys : List NV} (h : TW w B q m cq ys) : TS w q m cq ys := by
  obtain ⟨p, c, e, h1, h2, h3, h4⟩ := h.own.form
  simp only [Value.slice.injEq] at e
  obtain ⟨rfl, _, rfl⟩ := e
  exact ⟨h.len, h.le, h4, h.few, h3, by have := h.len; omega, h2⟩
theorem ne_boxK {w : World} {b0 b i : Nat} {T : TypeId} {cs : Array Value} {k : IntKind} {z : Int} (hb : Bx w b0 T cs) (hcs : ∀ v ∈ cs.toList, ∀ k z, v ≠ Value.int k z) (h : w.cell? ⟨b, i, none⟩ = some (.int k z)) : b ≠ b0 := by
  rintro rfl
  have h2 : w.cell? ⟨b, i, none⟩ = cs[i]? := by simp [World.cell?, show w.heap[b]? = _ from hb]
  rw [h2] at h
  obtain ⟨hi, e⟩ := Array.getElem?_eq_some_iff.1 h
  exact hcs _ (by rw [← e]; simp) k z rfl
theorem slN_offK {w : World} {b0 i : Nat} {T : TypeId} {cs : Array Value} {q : Option Addr} {ys : List NV} {u : Value} (h : SlN w q ys) (hb : Bx w b0 T cs) (hcs : ∀ v ∈ cs.toList, ∀ k z, v ≠ Value.int k z) : SlN (w.setCell ⟨b0, i, none⟩ u) q ys := by
  have kp : ∀ {b j : Nat} {v : Value}, b ≠ b0 → w.cell? ⟨b, j, none⟩ = some v → (w.setCell ⟨b0, i, none⟩ u).cell? ⟨b, j, none⟩ = some v := fun {b j v} hne h => (World.cell?_of_block (Below.heap_setCell w ⟨b0, i, none⟩ u b hne)).trans h
  refine ⟨fun x hx => ?_, ?_⟩
  · have hi := h.all x hx
    refine ⟨?_, ?_, hi.sn, hi.kn, hi.sl, hi.kl⟩
    · rcases hi.set with h0 | ⟨b, off, h1, h2⟩
      · exact .inl h0
      · exact .inr ⟨b, off, h1, fun j hj => ⟨kp (ne_boxK hb hcs (h2 j hj).1) (h2 j hj).1, kp (ne_boxK hb hcs (h2 j hj).1) (h2 j hj).2⟩⟩
    · rcases hi.kids with h0 | ⟨b, off, h1, h2⟩
      · exact .inl h0
      · exact .inr ⟨b, off, h1, fun j hj => kp (ne_boxK hb hcs (h2 j hj)) (h2 j hj)⟩
  · rcases h.cells with h0 | ⟨b, off, h1, h2⟩
    · exact .inl h0
    · refine .inr ⟨b, off, h1, fun j hj => ?_⟩
      obtain ⟨g0, g1, g2, g3, g4, g5, g6, g7, g8⟩ := h2 j hj
      have hne := ne_boxK hb hcs g0
      exact ⟨kp hne g0, kp hne g1, kp hne g2, kp hne g3, kp hne g4, kp hne g5, kp hne g6, kp hne g7, kp hne g8⟩
theorem two_slicesK (a c : Option Addr) (n m k l : Nat) : ∀ v ∈ (#[Value.slice a n m, Value.slice c k l] : Array Value).toList, ∀ k z, v ≠ Value.int k z := by
  intro v hv k z e
  simp only [List.mem_cons, List.not_mem_nil, or_false] at hv
  rcases hv with rfl | rfl <;> cases e
theorem TS.off1 {w : World} {q : Option Addr} {m cq : Nat} {ys : List NV} (h : TS w q m cq ys) {b : Nat} {T : TypeId} {a c : Option Addr} {n1 n2 k1 k2 : Nat} (hb : Bx w b T #[.slice a n1 k1, .slice c n2 k2]) (i : Nat) (u : Value) :
    TS (w.setCell ⟨b, i, none⟩ u) q m cq ys := ⟨h.len, h.le, slN_offK h.sl hb (two_slicesK _ _ _ _ _ _), h.few, h.nil, h.cap, h.max⟩
theorem TS.off2 {w : World} {q : Option Addr} {m cq : Nat} {ys : List NV} (h : TS w q m cq ys) {b : Nat} {T : TypeId} {a c : Option Addr} {n1 n2 k1 k2 : Nat} (hb : Bx w b T #[.slice a n1 k1, .slice c n2 k2]) (a' c' : Option Addr) (n1' n2' k1' k2' : Nat) :
    TS ((w.setCell ⟨b, 0, none⟩ (.slice a' n1' k1')).setCell ⟨b, 1, none⟩ (.slice c' n2' k2')) q m cq ys :=
  ⟨h.len, h.le, slN_offK (slN_offK h.sl hb (two_slicesK _ _ _ _ _ _)) (hb.set 0 (.slice a' n1' k1')) (two_slicesK _ _ _ _ _ _), h.few, h.nil, h.cap, h.max⟩
theorem own_offK {w : World} {B n z : Nat} {T T' : TypeId} {v : Value} {xs : List Value} {b i : Nat} {u : Value} {cs : Array Value} (h : w.ownsRow B T z v n xs) (hb : Bx w b T' cs) (hT : T' ≠ T) : (w.setCell ⟨b, i, none⟩ u).ownsRow B T z v n xs :=
  World.ownsRow.kept h (show w.grownBy (w.setCell ⟨b, i, none⟩ u) (some b) from ⟨rfl, rfl, rfl, by simp, fun k _ hne => Below.heap_setCell _ _ _ k (fun e => hne (by rw [e]))⟩) (.inr (row_ne h hb hT))
theorem OwnN.offK {w : World} {B : Nat} {v : Value} {xs : List NV} (h : OwnN w B v xs) {b i : Nat} {u : Value} {T : TypeId} {cs : Array Value} (hb : Bx w b T cs) (h1 : T ≠ 28) (h2 : T ≠ 51) (h3 : T ≠ 3) : OwnN (w.setCell ⟨b, i, none⟩ u) B v xs :=
  ⟨own_offK h.row hb h1, fun x hx => own_offK (h.set x hx) hb h2, fun x hx => own_offK (h.kids x hx) hb h3⟩
theorem TW.off2 {w : World} {B : Nat} {q : Option Addr} {m cq : Nat} {ys : List NV} (h : TW w B q m cq ys) {b : Nat} {cs : Array Value} (hb : Bx w b 34 cs) (u v : Value) : TW ((w.setCell ⟨b, 0, none⟩ u).setCell ⟨b, 1, none⟩ v) B q m cq ys :=
  ⟨h.len, h.le, OwnN.offK (OwnN.offK h.own hb (by decide) (by decide) (by decide)) (hb.set 0 u) (by decide) (by decide) (by decide), h.few⟩
def Kc.treeL (L : List Nd) : Kc := ⟨fun v w => ∃ (q : Option Addr) (m cq : Nat) (zs : List NV), v = .agg #[.slice q m cq, .slice none 0 0] ∧ m = zs.length ∧ SlN w q zs ∧ nds zs = L, fun ⟨q, m, cq, zs, h1, h2, h3, h4⟩ hb => ⟨q, m, cq, zs, h1, h2, h3.below hb, h4⟩⟩
def Kc.treeW (B n : Nat) : Kc := ⟨fun v w => ∃ (q : Option Addr) (cq : Nat) (ys : List NV), v = .agg #[.slice q n cq, .slice none 0 0] ∧ TW w B q n cq ys, fun ⟨q, cq, ys, h1, h2⟩ hb => ⟨q, cq, ys, h1, h2.below hb⟩⟩
def Kc.row1 (T : TypeId) (cs : Array Value) : Kc := ⟨fun v w => ∃ b : Nat, v = .slice (some ⟨b, 0, none⟩) 1 1 ∧ Bx w b T cs, fun ⟨b, h1, h2⟩ hb => ⟨b, h1, h2.below hb⟩⟩
end Go.Proofs.YtjpccmiaimkmbaaGreat
