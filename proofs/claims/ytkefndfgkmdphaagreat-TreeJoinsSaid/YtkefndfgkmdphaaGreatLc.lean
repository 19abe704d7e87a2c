import Derived.Test.YtkefndfgkmdphaaGreatRa
import Derived.Test.YtkefndfgkmdphaaGreatRd
import Derived.RangeFuncNested
import Derived.RangeFuncBound
import Derived.RangeFuncCalls
import Derived.RangeFuncLeaves
import Derived.RangeFuncBox
import Derived.Deep.RegionLaw
import Derived.Deep.RegionHeld3
import Derived.Deep.CutBlock
import Derived.BigRegion
import Derived.Test.YtkefndfgkmdphaaGreatFi

namespace Tnt
open Tnr

structure Nd where
 kind : Int
 set : List R
 kids : List Int
 group : Int
 mn : Int
 mx : Int
 mode : Int
 spot : Int
 neg : Bool
def w64 (x : Int) : Int := (x + 9223372036854775808) % 18446744073709551616 - 9223372036854775808
def mv (d : Int) (n : Nd) : Nd := { n with kids := n.kids.map fun k => w64 (k + d) }

def rk (F : Nat → Nat × Nat) : List Int → Nat → Nat → Option (Nat × Nat)
 | [], f, d => some (f, d)
 | k :: ks, f, d => if f = 0 ∨ k ≠ (f : Int) - 1 then none else rk F ks (F (f - 1)).1 (max d (F (f - 1)).2)
def gf (l : List (Nat × Nat)) (i : Nat) : Nat × Nat := l.getD i (0, 0)
def ordG : List Nd → List (Nat × Nat) → Option (List (Nat × Nat))
 | [], acc => some acc
 | n :: ns, acc => match rk (gf acc) n.kids.reverse acc.length 0 with
  | none => none
  | some (f, d) => ordG ns (acc ++ [(f, d + 1)])
def ordT (ns : List Nd) : Option (List (Nat × Nat)) :=
 if ns.length = 0 ∨ 4000 < ns.length then none else
 match ordG ns [] with
 | none => none
 | some l => if (gf l (ns.length - 1)).1 = 0 then some l else none
end Tnt


namespace Go.Proofs.YtkefndfgkmdphaaGreat
open Go.RowKit Tnr Tnt

theorem w64_wrap (x : Int) : w64 x = wrap64 x := by unfold w64 wrap64; omega
def gz (l : List Int) (i : Nat) : Int := l.getD i 0
theorem gz_get {l : List Int} {i : Nat} (h : i < l.length) : gz l i = l[i] := by
 unfold gz
 rw [List.getD_eq_getElem?_getD, List.getElem?_eq_getElem h]; rfl
def SlZ (w : World) (p : Option Addr) (l : List Int) : Prop :=
 l = [] ∨ ∃ b off, p = some ⟨b, off, none⟩ ∧ ∀ i, i < l.length → w.cell? ⟨b, off + i, none⟩ = some (.int .i64 (gz l i))
theorem SlZ.below {w w' : World} {p : Option Addr} {l : List Int} (h : SlZ w p l) (hb : Below w.heap.size w w') : SlZ w' p l := by
 rcases h with h | ⟨b, off, h1, h2⟩
 ·exact .inl h
 ·exact .inr ⟨b, off, h1, fun i hi => by rw [hb.cell (World.block_lt_of_cell? w _ (h2 i hi))]; exact h2 i hi⟩
theorem slz_at {w : World} {p : Option Addr} {l : List Int} (h : SlZ w p l) {k : Nat} (hk : k < l.length) : ∃ b off, p = some ⟨b, off, none⟩ ∧ w.cell? ⟨b, off + k, none⟩ = some (.int .i64 (gz l k)) := by
 rcases h with h | ⟨b, off, h1, h2⟩
 ·rw [h] at hk; simp at hk
 ·exact ⟨b, off, h1, h2 k hk⟩
def OwnZ (w : World) (B : Nat) (v : Value) (l : List Int) : Prop := w.ownsRow B 3 1 v l.length (l.map (Value.int .i64))
theorem ownZ_nil (w : World) (B : Nat) : OwnZ w B (.slice none 0 0) [] := World.ownsRow_nil w B 3 1
theorem row_below {w w' : World} {B n z : Nat} {T : TypeId} {v : Value} {xs : List Value} (h : w.ownsRow B T z v n xs) (hb : Below w.heap.size w w') : w'.ownsRow B T z v n xs := by
 obtain ⟨h1, h2⟩ := h
 refine ⟨h1, ?_⟩
 rcases h2 with h2 | ⟨g, cap, cur, rfl, hg, hh, r⟩
 ·exact .inl h2
 ·exact .inr ⟨g, cap, cur, rfl, hg, by rw [hb.block g (lt_of_block hh)]; exact hh, r⟩
theorem ownZ_below {w w' : World} {B : Nat} {v : Value} {l : List Int} (h : OwnZ w B v l) (hb : Below w.heap.size w w') : OwnZ w' B v l := row_below h hb
theorem ownZ_down {w : World} {B B' : Nat} {v : Value} {l : List Int} (h : OwnZ w B v l) (hB : B' ≤ B) : OwnZ w B' v l := World.ownsRow.mono h hB
theorem ownZ_form {w : World} {B : Nat} {v : Value} {l : List Int} (h : OwnZ w B v l) :
  ∃ p c, v = .slice p l.length c ∧ l.length ≤ c ∧ c ≤ 9223372036854775807 ∧ (p = none → c = 0) ∧ SlZ w p l := by
 have h' := h
 rcases h.2 with ⟨rfl, hn⟩ | ⟨g, cap, cur, rfl, hb, hg, hnc, hcm, hcs, htake⟩
 ·have hl : l = [] := List.eq_nil_of_length_eq_zero hn
  subst hl
  exact ⟨none, 0, rfl, by simp, by omega, fun _ => rfl, .inl rfl⟩
 ·refine ⟨some ⟨g, 0, none⟩, cap, rfl, hnc, by simpa [maxLen] using hcm, by simp, .inr ⟨g, 0, rfl, fun i hi => ?_⟩⟩
  unfold OwnZ at h'
  rw [Nat.zero_add, h'.cellAt i (by omega), List.getElem?_map, List.getElem?_eq_getElem hi, gz_get hi]; rfl
theorem row_ne {w : World} {B n z : Nat} {T T' : TypeId} {v : Value} {xs : List Value} (h : w.ownsRow B T z v n xs) {nb : Nat} {c : Array Value} {fz : Nat × Nat} (hv : w.heap[nb]? = some (.cells c T' fz)) (hT : T' ≠ T) : v.ownBlock ≠ some nb := by
 intro hg
 rcases h.2 with ⟨rfl, _⟩ | ⟨g, cap, cur, rfl, _, hh, _⟩
 ·simp [Value.ownBlock] at hg
 ·simp only [Value.ownBlock, Option.some.injEq] at hg
  subst hg
  rw [hh] at hv
  simp only [Option.some.injEq, Obj.cells.injEq] at hv
  exact hT hv.2.1.symm
theorem ownZ_appended {w' : World} {B : Nat} {v' : Value} {l : List Int} {n : Nat} {x : Int} (hn : n = l.length) (h : w'.ownsRow B 3 1 v' (n + 1) (l.map (Value.int .i64) ++ [.int .i64 x])) : OwnZ w' B v' (l ++ [x]) := by
 unfold OwnZ
 rw [List.length_append, ← hn, List.map_append]
 exact h
theorem ownZ_row {w : World} {B no d : Nat} {q : Option Addr} {l : List Int} (h : OwnZ w B (.slice q no d) l) (hn : no = l.length) : w.ownsRow B 3 1 (.slice q no d) no (l.map (Value.int .i64)) := by
 unfold OwnZ at h; rw [← hn] at h; exact h
theorem info_intz : (Tryz.prog.info? 3).map (fun i => (i.zero, i.size, i.bytes)) = some (some (.int .i64 0), 1, 8) := by kernel_rfl
theorem cells_one_z (w : World) (u : Value) (T : TypeId) : ∀ j x, [u][j]? = some x → (w.alloc (.cells #[u] T)).cell? ((⟨w.heap.size, 0, none⟩ : Addr).add j) = some x := by
 intro j x hx
 match j, hx with
 | 0, hx => show (w.alloc (.cells #[u] T)).cell? ⟨w.heap.size, 0, none⟩ = _; rw [World.cell?_alloc_at _ _ _ _ rfl]; exact hx
 | n + 1, hx => simp at hx

def Bx (w : World) (b : Nat) (T : TypeId) (cs : Array Value) : Prop := w.heap[b]? = some (.cells cs T (0, 0))
theorem Bx.lt {w : World} {b : Nat} {T : TypeId} {cs : Array Value} (h : Bx w b T cs) : b < w.heap.size := lt_of_block h
theorem Bx.new (w : World) (T : TypeId) (cs : Array Value) : Bx (w.alloc (.cells cs T)) w.heap.size T cs := heap_alloc_new w _
theorem Bx.cell {w : World} {b : Nat} {T : TypeId} {cs : Array Value} (h : Bx w b T cs) {i : Nat} {v : Value} (hi : cs[i]? = some v) : w.cell? ⟨b, i, none⟩ = some v := by
 simp only [World.cell?, show w.heap[b]? = _ from h]; exact hi
theorem Bx.free {w : World} {b : Nat} {T : TypeId} {cs : Array Value} (h : Bx w b T cs) (i : Nat) : w.frozen? ⟨b, i, none⟩ = false := by simp [World.frozen?, show w.heap[b]? = _ from h]
theorem Bx.below {w w' : World} {b : Nat} {T : TypeId} {cs : Array Value} (h : Bx w b T cs) (hb : Below w.heap.size w w') : Bx w' b T cs := (hb.block b h.lt).trans h
theorem Bx.kept {w w' : World} {b : Nat} {T : TypeId} {cs : Array Value} {row : Option Nat} (h : Bx w b T cs) (hg : w.grownBy w' row) (hne : some b ≠ row) : Bx w' b T cs := (hg.block b h.lt hne).trans h
theorem Bx.set {w : World} {b : Nat} {T : TypeId} {cs : Array Value} (h : Bx w b T cs) (i : Nat) (v : Value) : Bx (w.setCell ⟨b, i, none⟩ v) b T (cs.modify i fun _ => v) := by
 simp only [Bx, World.setCell, Array.getElem?_modify, if_true, show w.heap[b]? = _ from h]; rfl
theorem Bx.other {w : World} {b : Nat} {T : TypeId} {cs : Array Value} (h : Bx w b T cs) {a : Addr} (ha : b ≠ a.block) (x : Value) : Bx (w.setCell a x) b T cs := (Below.heap_setCell _ _ _ b ha).trans h

structure NV where
 nd : Nd
 ps : Option Addr
 cs : Nat
 pk : Option Addr
 ck : Nat
def nd0 : Nd := ⟨0, [], [], 0, 0, 0, 0, 0, false⟩
def nv0 : NV := ⟨nd0, none, 0, none, 0⟩
def encN (x : NV) : List Value := [.int .u8 x.nd.kind, .slice x.ps x.nd.set.length x.cs, .slice x.pk x.nd.kids.length x.ck, .int .i64 x.nd.group, .int .i64 x.nd.mn, .int .i64 x.nd.mx, .int .u8 x.nd.mode, .int .u8 x.nd.spot, .bool x.nd.neg]
def gn (l : List NV) (i : Nat) : NV := l.getD i nv0
theorem gn_get {l : List NV} {i : Nat} (h : i < l.length) : gn l i = l[i] := by
 unfold gn
 rw [List.getD_eq_getElem?_getD, List.getElem?_eq_getElem h]; rfl
theorem gn_mem {l : List NV} {k : Nat} (h : k < l.length) : gn l k ∈ l := by rw [gn_get h]; exact List.getElem_mem h
theorem drop_gn {l : List NV} {k : Nat} (h : k < l.length) : l.drop k = gn l k :: l.drop (k + 1) := by
 rw [gn_get h]; exact List.drop_eq_getElem_cons h
theorem take_gn {l : List NV} {k : Nat} (h : k < l.length) : l.take (k + 1) = l.take k ++ [gn l k] := by
 rw [List.take_add_one, List.getElem?_eq_getElem h, gn_get h]; rfl
structure NodeIn (w : World) (x : NV) : Prop where
 set : SlR w x.ps x.nd.set
 kids : SlZ w x.pk x.nd.kids
 sn : x.ps = none → x.cs = 0
 kn : x.pk = none → x.ck = 0
 sl : x.nd.set.length ≤ x.cs
 kl : x.nd.kids.length ≤ x.ck
theorem NodeIn.below {w w' : World} {x : NV} (h : NodeIn w x) (hb : Below w.heap.size w w') : NodeIn w' x := ⟨h.set.below hb, h.kids.below hb, h.sn, h.kn, h.sl, h.kl⟩
def CellsN (w : World) (b o : Nat) (x : NV) : Prop :=
 w.cell? ⟨b, o, none⟩ = some (.int .u8 x.nd.kind) ∧ w.cell? ⟨b, o + 1, none⟩ = some (.slice x.ps x.nd.set.length x.cs) ∧ w.cell? ⟨b, o + 2, none⟩ = some (.slice x.pk x.nd.kids.length x.ck) ∧ w.cell? ⟨b, o + 3, none⟩ = some (.int .i64 x.nd.group) ∧ w.cell? ⟨b, o + 4, none⟩ = some (.int .i64 x.nd.mn) ∧ w.cell? ⟨b, o + 5, none⟩ = some (.int .i64 x.nd.mx) ∧ w.cell? ⟨b, o + 6, none⟩ = some (.int .u8 x.nd.mode) ∧ w.cell? ⟨b, o + 7, none⟩ = some (.int .u8 x.nd.spot) ∧ w.cell? ⟨b, o + 8, none⟩ = some (.bool x.nd.neg)
theorem CellsN.below {w w' : World} {b o : Nat} {x : NV} (h : CellsN w b o x) (hb : Below w.heap.size w w') : CellsN w' b o x := by
 obtain ⟨h0, h1, h2, h3, h4, h5, h6, h7, h8⟩ := h
 have k : ∀ {i v}, w.cell? ⟨b, i, none⟩ = some v → w'.cell? ⟨b, i, none⟩ = some v := fun {i v} h => by rw [hb.cell (World.block_lt_of_cell? w _ h)]; exact h
 exact ⟨k h0, k h1, k h2, k h3, k h4, k h5, k h6, k h7, k h8⟩
structure SlN (w : World) (p : Option Addr) (xs : List NV) : Prop where
 all : ∀ x ∈ xs, NodeIn w x
 cells : xs = [] ∨ ∃ b off, p = some ⟨b, off, none⟩ ∧ ∀ i, i < xs.length → CellsN w b (off + i * 9) (gn xs i)
theorem SlN.below {w w' : World} {p : Option Addr} {xs : List NV} (h : SlN w p xs) (hb : Below w.heap.size w w') : SlN w' p xs := by
 refine ⟨fun x hx => (h.all x hx).below hb, ?_⟩
 rcases h.cells with h0 | ⟨b, off, h1, h2⟩
 ·exact .inl h0
 ·exact .inr ⟨b, off, h1, fun i hi => (h2 i hi).below hb⟩
theorem SlN.at {w : World} {p : Option Addr} {xs : List NV} (h : SlN w p xs) {k : Nat} (hk : k < xs.length) : ∃ b off, p = some ⟨b, off, none⟩ ∧ CellsN w b (off + k * 9) (gn xs k) ∧ NodeIn w (gn xs k) := by
 rcases h.cells with h0 | ⟨b, off, h1, h2⟩
 ·rw [h0] at hk; simp at hk
 ·exact ⟨b, off, h1, h2 k hk, h.all _ (gn_mem hk)⟩
theorem SlN.slice {w : World} {b off : Nat} {xs : List NV} (h : SlN w (some ⟨b, off, none⟩) xs) (i n : Nat) (hn : i + n ≤ xs.length) : SlN w (some ⟨b, off + i * 9, none⟩) ((xs.drop i).take n) := by
 refine ⟨fun x hx => h.all x (List.mem_of_mem_drop (List.mem_of_mem_take hx)), ?_⟩
 rcases h.cells with h0 | ⟨b', off', h1, h2⟩
 ·left; subst h0; simp
 ·right
  simp only [Option.some.injEq, Addr.mk.injEq, and_true] at h1
  obtain ⟨rfl, rfl⟩ := h1
  refine ⟨b, off + i * 9, rfl, fun j hj => ?_⟩
  have hj' : j < n := by rw [List.length_take, List.length_drop] at hj; omega
  have e : gn ((xs.drop i).take n) j = gn xs (i + j) := by
   rw [gn_get hj, gn_get (by omega), List.getElem_take, List.getElem_drop]
  rw [e, show off + i * 9 + j * 9 = off + (i + j) * 9 by omega]
  exact h2 (i + j) (by omega)
structure OwnN (w : World) (B : Nat) (v : Value) (xs : List NV) : Prop where
 row : w.ownsRow B 28 9 v xs.length (xs.flatMap encN)
 set : ∀ x ∈ xs, OwnR w B (.slice x.ps x.nd.set.length x.cs) x.nd.set
 kids : ∀ x ∈ xs, OwnZ w B (.slice x.pk x.nd.kids.length x.ck) x.nd.kids
theorem OwnN.below {w w' : World} {B : Nat} {v : Value} {xs : List NV} (h : OwnN w B v xs) (hb : Below w.heap.size w w') : OwnN w' B v xs :=
 ⟨row_below h.row hb, fun x hx => ownR_below (h.set x hx) hb, fun x hx => ownZ_below (h.kids x hx) hb⟩
theorem OwnN.down {w : World} {B B' : Nat} {v : Value} {xs : List NV} (h : OwnN w B v xs) (hB : B' ≤ B) : OwnN w B' v xs :=
 ⟨World.ownsRow.mono h.row hB, fun x hx => ownR_down (h.set x hx) hB, fun x hx => ownZ_down (h.kids x hx) hB⟩
theorem ownN_nil (w : World) (B : Nat) : OwnN w B (.slice none 0 0) [] := ⟨World.ownsRow_nil w B _ 9, fun _ h => by simp at h, fun _ h => by simp at h⟩
theorem encN_length (xs : List NV) : (xs.flatMap encN).length = xs.length * 9 := by
 induction xs with
 | nil => rfl
 | cons a l ih => rw [List.flatMap_cons, List.length_append, ih, List.length_cons]; simp [encN]; omega
theorem encN_at : ∀ (l : List NV) (i j : Nat), i < l.length → j < 9 → (l.flatMap encN)[i * 9 + j]? = (encN (gn l i))[j]?
 | [], i, _, h, _ => by simp at h
 | a :: l, 0, j, _, hj => by
  rw [List.flatMap_cons, List.getElem?_append_left (by simp [encN]; omega), Nat.zero_mul, Nat.zero_add]; rfl
 | a :: l, i + 1, j, h, hj => by
  have := encN_at l i j (by simpa using h) hj
  rw [List.flatMap_cons, List.getElem?_append_right (by simp [encN]; omega), show (i + 1) * 9 + j - (encN a).length = i * 9 + j by simp [encN]; omega, this]
  rfl
theorem nodeIn_own {w : World} {B : Nat} {x : NV} (hs : OwnR w B (.slice x.ps x.nd.set.length x.cs) x.nd.set) (hk : OwnZ w B (.slice x.pk x.nd.kids.length x.ck) x.nd.kids) : NodeIn w x := by
 obtain ⟨p1, c1, e1, l1, _, n1, s1, _⟩ := ownR_form hs
 obtain ⟨p2, c2, e2, l2, _, n2, s2⟩ := ownZ_form hk
 simp only [Value.slice.injEq, true_and] at e1 e2
 obtain ⟨rfl, rfl⟩ := e1
 obtain ⟨rfl, rfl⟩ := e2
 exact ⟨s1, s2, n1, n2, l1, l2⟩
theorem OwnN.form {w : World} {B : Nat} {v : Value} {xs : List NV} (h : OwnN w B v xs) : ∃ p c, v = .slice p xs.length c ∧ xs.length ≤ c ∧ c ≤ 9223372036854775807 ∧ (p = none → c = 0) ∧ SlN w p xs := by
 have hall : ∀ x ∈ xs, NodeIn w x := fun x hx => nodeIn_own (h.set x hx) (h.kids x hx)
 have h' := h.row
 rcases h.row.2 with ⟨rfl, hn⟩ | ⟨g, cap, cur, rfl, hb, hg, hnc, hcm, hcs, htake⟩
 ·have hl : xs = [] := List.eq_nil_of_length_eq_zero hn
  subst hl
  exact ⟨none, 0, rfl, by simp, by omega, fun _ => rfl, hall, .inl rfl⟩
 ·refine ⟨some ⟨g, 0, none⟩, cap, rfl, hnc, by simpa [maxLen] using hcm, by simp, hall, .inr ⟨g, 0, rfl, fun i hi => ?_⟩⟩
  have k : ∀ j, j < 9 → ∀ u, (encN (gn xs i))[j]? = some u → w.cell? ⟨g, 0 + i * 9 + j, none⟩ = some u := fun j hj u hu => by
   rw [Nat.zero_add, h'.cellAt (i * 9 + j) (by omega), encN_at xs i j hi hj, hu]
  exact ⟨k 0 (by omega) _ rfl, k 1 (by omega) _ rfl, k 2 (by omega) _ rfl, k 3 (by omega) _ rfl, k 4 (by omega) _ rfl, k 5 (by omega) _ rfl, k 6 (by omega) _ rfl, k 7 (by omega) _ rfl, k 8 (by omega) _ rfl⟩
theorem info_node : (Tryz.prog.info? 28).map (fun i => (i.zero, i.size, i.bytes)) = some (some (.agg #[.int .u8 0, .slice none 0 0, .slice none 0 0, .int .i64 0, .int .i64 0, .int .i64 0, .int .u8 0, .int .u8 0, .bool false]), 9, 88) := by kernel_rfl
theorem ownN_row {w : World} {B no d : Nat} {q : Option Addr} {l : List NV} (h : OwnN w B (.slice q no d) l) (hn : no = l.length) : w.ownsRow B 28 9 (.slice q no d) no (l.flatMap encN) := by
 have := h.row; rw [← hn] at this; exact this
theorem OwnN.more {w w' : World} {B n : Nat} {v v' : Value} {xs : List NV} {x : NV} (h : OwnN w B v xs) (hn : n = xs.length) (hs : OwnR w B (.slice x.ps x.nd.set.length x.cs) x.nd.set) (hk : OwnZ w B (.slice x.pk x.nd.kids.length x.ck) x.nd.kids)
  (hown : w'.ownsRow B 28 9 v' (n + 1) (xs.flatMap encN ++ encN x)) (hg : w.grownBy w' v.ownBlock) : OwnN w' B v' (xs ++ [x]) := by
 have ne : ∀ g, v.ownBlock = some g → ∃ c fz, w.heap[g]? = some (.cells c 28 fz) := fun g e => by
  rcases h.row.2 with ⟨rfl, _⟩ | ⟨g', cap, cur, rfl, _, hh, _⟩
  ·simp [Value.ownBlock] at e
  ·simp only [Value.ownBlock, Option.some.injEq] at e
   subst e; exact ⟨_, _, hh⟩
 have kr : ∀ {u l}, OwnR w B u l → OwnR w' B u l := fun {u l} ho => by
  refine World.ownsRow.kept ho hg ?_
  rcases hv : v.ownBlock with _ | g
  ·rcases hu : u.ownBlock with _ | g2
   ·exact .inl rfl
   ·exact .inr (by simp)
  ·obtain ⟨c, fz, hh⟩ := ne g hv
   exact .inr (ownR_ne ho hh (by decide))
 have kz : ∀ {u l}, OwnZ w B u l → OwnZ w' B u l := fun {u l} ho => by
  refine World.ownsRow.kept ho hg ?_
  rcases hv : v.ownBlock with _ | g
  ·rcases hu : u.ownBlock with _ | g2
   ·exact .inl rfl
   ·exact .inr (by simp)
  ·obtain ⟨c, fz, hh⟩ := ne g hv
   exact .inr (row_ne ho hh (by decide))
 refine ⟨?_, fun y hy => ?_, fun y hy => ?_⟩
 ·rw [List.length_append, ← hn, List.flatMap_append, show [x].flatMap encN = encN x by simp]; exact hown
 ·rcases List.mem_append.1 hy with hy | hy
  ·exact kr (h.set y hy)
  ·simp only [List.mem_singleton] at hy; subst hy; exact kr hs
 ·rcases List.mem_append.1 hy with hy | hy
  ·exact kz (h.kids y hy)
  ·simp only [List.mem_singleton] at hy; subst hy; exact kz hk
theorem cells_nine (w : World) (l : List Value) (T : TypeId) : ∀ j x, l[j]? = some x → (w.alloc (.cells l.toArray T)).cell? ((⟨w.heap.size, 0, none⟩ : Addr).add j) = some x := by
 intro j x hx
 have e : ((⟨w.heap.size, 0, none⟩ : Addr).add j) = ⟨w.heap.size, j, none⟩ := by simp [Addr.add]; exact Eq.symm
 rw [e, World.cell?_alloc_at _ _ _ _ rfl]
 simpa using hx
end Go.Proofs.YtkefndfgkmdphaaGreat


namespace Go.Proofs.YtkefndfgkmdphaaGreat
set_option maxHeartbeats 800000
set_option maxRecDepth 100000
open Go.RowKit Tnr Tnt

theorem enc_one2 {a : List R} : ∀ u ∈ a.flatMap encR, Value.oneCell' u = true := by
 intro u hu
 rw [List.mem_flatMap] at hu
 obtain ⟨d, _, hd⟩ := hu
 unfold encR at hd
 simp only [List.mem_cons, List.not_mem_nil, or_false] at hd
 rcases hd with rfl | rfl <;> rfl
theorem encN_one {a : List NV} : ∀ u ∈ a.flatMap encN, Value.oneCell' u = true := by
 intro u hu
 rw [List.mem_flatMap] at hu
 obtain ⟨d, _, hd⟩ := hu
 unfold encN at hd
 simp only [List.mem_cons, List.not_mem_nil, or_false] at hd
 rcases hd with rfl | rfl | rfl | rfl | rfl | rfl | rfl | rfl | rfl <;> rfl
theorem run_joinX {Ts T ty : TypeId} {i0 : TypeInfo} {z : Value} {size bytes : Nat} (ht : Tryz.prog.underlying Ts = some (.slice T)) (hi : Tryz.prog.info? T = some i0) (hz : i0.zero = some z) (hsz : i0.size = size) (hby : i0.bytes = bytes) (hzs : z.cells.size = size) (h0 : 0 < size) (hb88 : bytes ≤ 88)
  {w : World} {B n m cq : Nat} {v : Value} {xs news : List Value} {q : Option Addr} (ho : w.ownsRow B T size v n xs) (hl : news.length = m * size) (hs : m = 0 ∨ ∃ b off, q = some ⟨b, off, none⟩ ∧ ∀ j u, news[j]? = some u → w.cell? ⟨b, off + j, none⟩ = some u) (hq : q = none → cq = 0)
  (h1 : ∀ u ∈ news, u.oneCell' = true) (hlim : n + m ≤ 1000000000000) (hB : B ≤ w.heap.size) :
  ∃ v' w', (Builtin.append_ #[Ts, Ts] ty #[v, .slice q m cq]).run Tryz.prog w = .ok v' w' ∧ w'.ownsRow B T size v' (n + m) (xs ++ news) ∧ w.grownBy w' v.ownBlock := by
 cases q with
 | none =>
  have := hq rfl
  subst this
  have hm : m = 0 := by
   rcases hs with h | ⟨b, off, h, _⟩
   ·exact h
   ·cases h
  subst hm
  have hn : news = [] := List.eq_nil_of_length_eq_zero (by omega)
  subst hn
  have hrun := run_append_owned_none (P := Tryz.prog) (w := w) B Ts ty T i0 size ht hi v n xs ho
  exact ⟨v, w, hrun, by rw [List.append_nil]; exact ho, World.grownBy.refl _ _⟩
 | some ad =>
  have hn : ∀ j u, news[j]? = some u → w.cell? (ad.add j) = some u := by
   rcases hs with h | ⟨b, off, h, hc⟩
   ·subst h
    have hn : news = [] := List.eq_nil_of_length_eq_zero (by omega)
    subst hn; intro j u hu; simp at hu
   ·simp only [Option.some.injEq] at h
    subst h
    intro j u hu
    have e : (⟨b, off, none⟩ : Addr).add j = ⟨b, off + j, none⟩ := by simp [Addr.add]
    rw [e]; exact hc j u hu
  have hbb : (n + m) * bytes ≤ 140737488355328 := by
   have : (n + m) * bytes ≤ (n + m) * 88 := Nat.mul_le_mul_left _ hb88
   omega
  obtain ⟨v', w', h1, h2, h3, _⟩ := run_append_own (P := Tryz.prog) (w := w) B Ts ty T i0 z size bytes ht hi hz hsz hby hzs h0 v n xs ho ad m cq news hl hn h1 (by simp only [maxLen]; omega) hbb hB
  exact ⟨v', w', h1, h2, h3⟩
theorem slr_news {w : World} {p : Option Addr} {l : List R} (h : SlR w p l) : l.length = 0 ∨ ∃ b off, p = some ⟨b, off, none⟩ ∧ ∀ j u, (l.flatMap encR)[j]? = some u → w.cell? ⟨b, off + j, none⟩ = some u := by
 rcases h with h | ⟨b, off, h1, h2⟩
 ·left; rw [h]; rfl
 ·refine .inr ⟨b, off, h1, fun j u hu => ?_⟩
  have hj : j < l.length * 2 := by rw [← encs_length]; exact (List.getElem?_eq_some_iff.1 hu).1
  obtain ⟨e1, e2⟩ := encs_at l (j / 2) (by omega)
  obtain ⟨c1, c2⟩ := h2 (j / 2) (by omega)
  rcases Nat.mod_two_eq_zero_or_one j with hm | hm
  ·have e : j = j / 2 * 2 := by omega
   rw [e] at hu ⊢
   rw [hu] at e1; rw [Option.some.inj e1]; exact c1
  ·have e : j = j / 2 * 2 + 1 := by omega
   rw [e] at hu ⊢
   rw [hu] at e2; rw [Option.some.inj e2]; exact c2
theorem slz_news {w : World} {p : Option Addr} {l : List Int} (h : SlZ w p l) : l.length = 0 ∨ ∃ b off, p = some ⟨b, off, none⟩ ∧ ∀ j u, (l.map (Value.int .i64))[j]? = some u → w.cell? ⟨b, off + j, none⟩ = some u := by
 rcases h with h | ⟨b, off, h1, h2⟩
 ·left; rw [h]; rfl
 ·refine .inr ⟨b, off, h1, fun j u hu => ?_⟩
  rw [List.getElem?_map] at hu
  obtain ⟨x, hx, rfl⟩ := Option.map_eq_some_iff.1 hu
  have hj := (List.getElem?_eq_some_iff.1 hx).1
  rw [h2 j hj, gz_get hj, (List.getElem?_eq_some_iff.1 hx).2]
theorem sln_news {w : World} {p : Option Addr} {l : List NV} (h : SlN w p l) : l.length = 0 ∨ ∃ b off, p = some ⟨b, off, none⟩ ∧ ∀ j u, (l.flatMap encN)[j]? = some u → w.cell? ⟨b, off + j, none⟩ = some u := by
 rcases h.cells with h | ⟨b, off, h1, h2⟩
 ·left; rw [h]; rfl
 ·refine .inr ⟨b, off, h1, fun j u hu => ?_⟩
  have hj : j < l.length * 9 := by rw [← encN_length]; exact (List.getElem?_eq_some_iff.1 hu).1
  have hi : j / 9 < l.length := by omega
  have e : j = j / 9 * 9 + j % 9 := by omega
  have hr : j % 9 < 9 := Nat.mod_lt _ (by decide)
  obtain ⟨c0, c1, c2, c3, c4, c5, c6, c7, c8⟩ := h2 (j / 9) hi
  rw [e] at hu ⊢
  rw [encN_at l _ _ hi hr] at hu
  generalize hrr : j % 9 = r at hu hr ⊢
  rw [← Nat.add_assoc]
  match r, hr with
  | 0, _ => rw [← Option.some.inj hu]; exact c0
  | 1, _ => rw [← Option.some.inj hu]; exact c1
  | 2, _ => rw [← Option.some.inj hu]; exact c2
  | 3, _ => rw [← Option.some.inj hu]; exact c3
  | 4, _ => rw [← Option.some.inj hu]; exact c4
  | 5, _ => rw [← Option.some.inj hu]; exact c5
  | 6, _ => rw [← Option.some.inj hu]; exact c6
  | 7, _ => rw [← Option.some.inj hu]; exact c7
  | 8, _ => rw [← Option.some.inj hu]; exact c8
theorem int_one {a : List Int} : ∀ u ∈ a.map (Value.int .i64), Value.oneCell' u = true := by
 intro u hu
 obtain ⟨x, _, rfl⟩ := List.mem_map.1 hu
 rfl

theorem wpList_append_run {P : Program} {w w' : World} {ops : Array Oper} {rest : List Oper} {o : Oper} {a : Act} {Q : Exit → Act → World → Prop} (hw : Region.wanted o (yielded ops a.tmps) = true) (s x : Operand) (t : TypeId)
  (ho : o.op = .call { callee := .builtin .append, args := #[s, x], argTypes := #[t, t] }) (v u v' : Value) (hs : a.eval s = v) (hx : a.eval x = u)
  (hrun : (Builtin.append_ #[t, t] o.type #[v, u]).run P w = .ok v' w') (h : wpList P ops Q rest (a.put o.dst v') w') : wpList P ops Q (o :: rest) a w := by
 refine wpList_step fun K hK => ?_
 simp only [hw, if_true]
 unfold Oper.wp
 simp [execOp, ho, resolve, invoke, builtin, hs, hx, hrun, Result.andThen]
 exact hK _ _ h


theorem copyR_any (p : Option Addr) (c n : Nat) (l : List R) (w : World) (hn : n = l.length) (hp : SlR w p l) (hpn : p = none → c = 0) (hl : l.length ≤ 1000000000) :
  Calls Tryz.prog 38 #[.slice p n c] w fun e w' => ∃ q d, e = .returned (.slice q n d) ∧ OwnR w' w.heap.size (.slice q n d) l ∧ Below w.heap.size w w' := by
 obtain ⟨i0, hinf, hz0, hz1, hz2⟩ := info_parts info_range
 obtain ⟨v', w', hrun, hown, hg⟩ := run_joinX (Ts := 23) (ty := 23) Tryz.underlying23 hinf hz0 hz1 hz2 rfl (by decide) (by decide) (ownR_nil w w.heap.size) (encs_length l) (slr_news hp) hpn enc_one2 (by simp; omega) (Nat.le_refl _)
 have ho : OwnR w' w.heap.size v' l := by unfold OwnR; simpa using hown
 obtain ⟨q, d, rfl, _⟩ := ownR_form ho
 rw [← hn] at hrun ho
 have HO := lh ho
 have HB := lh ((Below.refl w.heap.size w).grown hg (Nat.le_refl _) (by simp [Value.ownBlock]))
 have HRUN := lh hrun
 clear hrun hown hg hp hpn hn hl ho
 go_enter Tryz.func38, Tryz.ntmps38
 go_wp2_with (at_builtin; refine wpList_append_run (by rfl) _ _ 23 rfl _ _ _ rfl rfl HRUN.out ?_)
 go_ret
 exact ⟨q, d, rfl, HO.out, HB.out⟩
theorem copyZ_any (p : Option Addr) (c n : Nat) (l : List Int) (w : World) (hn : n = l.length) (hp : SlZ w p l) (hpn : p = none → c = 0) (hl : l.length ≤ 1000000000) :
  Calls Tryz.prog 77 #[.slice p n c] w fun e w' => ∃ q d, e = .returned (.slice q n d) ∧ OwnZ w' w.heap.size (.slice q n d) l ∧ Below w.heap.size w w' := by
 obtain ⟨i0, hinf, hz0, hz1, hz2⟩ := info_parts info_intz
 obtain ⟨v', w', hrun, hown, hg⟩ := run_joinX (Ts := 24) (ty := 24) Tryz.underlying24 hinf hz0 hz1 hz2 rfl (by decide) (by decide) (ownZ_nil w w.heap.size) (by simp) (slz_news hp) hpn int_one (by simp; omega) (Nat.le_refl _)
 have ho : OwnZ w' w.heap.size v' l := by unfold OwnZ; simpa using hown
 obtain ⟨q, d, rfl, _⟩ := ownZ_form ho
 rw [← hn] at hrun ho
 have HO := lh ho
 have HB := lh ((Below.refl w.heap.size w).grown hg (Nat.le_refl _) (by simp [Value.ownBlock]))
 have HRUN := lh hrun
 clear hrun hown hg hp hpn hn hl ho
 go_enter Tryz.func77, Tryz.ntmps77
 go_wp2_with (at_builtin; refine wpList_append_run (by rfl) _ _ 24 rfl _ _ _ rfl rfl HRUN.out ?_)
 go_ret
 exact ⟨q, d, rfl, HO.out, HB.out⟩
end Go.Proofs.YtkefndfgkmdphaaGreat

