/- The walks of the law's nodes: set, group; Pick. -/
/- The walk of example. -/
import Derived.Test.YtjpccmiaimkmbaaGreatMk
import Derived.Test.YtjpccmiaimkmbaaGreatLj

namespace Go.Proofs.YtjpccmiaimkmbaaGreat
open Go.RowKit Tnr Tnt

def setNd (c : Int) : Nd := ⟨2, [(c, c)], [], 0, 0, 0, 0, 0, false⟩
def groupNd (n : Int) : Nd := ⟨5, [], [], n, 0, 0, 0, 0, false⟩
def NodePost (d : Nd) (w : World) (e : Ending) (w' : World) : Prop := ∃ x : NV, e = .returned (.agg (encN x).toArray) ∧ x.nd = d ∧ NodeIn w' x ∧ Below w.heap.size w w'
set_option maxHeartbeats 1600000 in
set_option maxRecDepth 100000 in
theorem group6_any (n : Int) (w : World) : Calls Tryz.prog 31 #[.int .i64 n] w (NodePost (groupNd n) w) := by
  obtain ⟨z0, z1, z2, z3, z4, z5, z6, z7, z8⟩ := nine (Bx.new w 28 #[.int .u8 5, .slice none 0 0, .slice none 0 0, .int .i64 n, .int .i64 0, .int .i64 0, .int .u8 0, .int .u8 0, .bool false])
  have HZ := Lib.hid (And.intro z0 (And.intro z1 (And.intro z2 (And.intro z3 (And.intro z4 (And.intro z5 (And.intro z6 (And.intro z7 z8))))))))
  clear z0 z1 z2 z3 z4 z5 z6 z7 z8
  go_enter Tryz.func31, Tryz.ntmps31
  go_wp2
  obtain ⟨z0, z1, z2, z3, z4, z5, z6, z7, z8⟩ := HZ.out
  refine bodyPost_ret (v := .agg (encN ⟨groupNd n, none, 0, none, 0⟩).toArray) (by simp [results, Tryz.results31, go_sem, z0, z1, z2, z3, z4, z5, z6, z7, z8, encN, groupNd]) rfl ?_
  exact ⟨⟨groupNd n, none, 0, none, 0⟩, rfl, rfl, ⟨.inl rfl, .inl rfl, fun _ => rfl, fun _ => rfl, Nat.le_refl _, Nat.le_refl _⟩, bl_alloc _ _⟩
set_option maxHeartbeats 1600000 in
set_option maxRecDepth 100000 in
theorem set6_any (n : Int) (w : World) : Calls Tryz.prog 20 #[.int .i64 n] w (NodePost (setNd n) w) := by
  obtain ⟨W2, hW2⟩ : ∃ W, W = (w.alloc (.cells #[.int .u8 2, .slice (some ⟨w.heap.size + 1, 0, none⟩) 1 1, .slice none 0 0, .int .i64 0, .int .i64 0, .int .i64 0, .int .u8 0, .int .u8 0, .bool false] 28)).alloc (.cells #[.int .i64 n, .int .i64 n] 51) := ⟨_, rfl⟩
  have hX : Bx W2 w.heap.size 28 #[.int .u8 2, .slice (some ⟨w.heap.size + 1, 0, none⟩) 1 1, .slice none 0 0, .int .i64 0, .int .i64 0, .int .i64 0, .int .u8 0, .int .u8 0, .bool false] := by rw [hW2]; exact (Bx.new w _ _).below (bl_alloc _ _)
  have hR : Bx W2 (w.heap.size + 1) 51 #[.int .i64 n, .int .i64 n] := by
    have h := Bx.new (w.alloc (.cells #[.int .u8 2, .slice (some ⟨w.heap.size + 1, 0, none⟩) 1 1, .slice none 0 0, .int .i64 0, .int .i64 0, .int .i64 0, .int .u8 0, .int .u8 0, .bool false] 28)) 51 #[.int .i64 n, .int .i64 n]
    rw [World.size_alloc] at h; rw [hW2]; exact h
  have hb2 : Below w.heap.size w W2 := by rw [hW2]; exact bl_trans (bl_alloc _ _) (bl_alloc _ _)
  have HZ := Lib.hid (nine hX)
  have HR := Lib.hid hR
  have HB := Lib.hid hb2
  have HW := Lib.hid hW2
  clear hX hR hb2 hW2
  go_enter Tryz.func20, Tryz.ntmps20
  go_wp2
  rw [← HW.out]
  obtain ⟨z0, z1, z2, z3, z4, z5, z6, z7, z8⟩ := HZ.out
  refine bodyPost_ret (v := .agg (encN ⟨setNd n, some ⟨w.heap.size + 1, 0, none⟩, 1, none, 0⟩).toArray) (by simp [results, Tryz.results20, go_sem, z0, z1, z2, z3, z4, z5, z6, z7, z8, encN, setNd]) rfl ?_
  refine ⟨⟨setNd n, some ⟨w.heap.size + 1, 0, none⟩, 1, none, 0⟩, rfl, rfl, ⟨.inr ⟨w.heap.size + 1, 0, rfl, fun i hi => ?_⟩, .inl rfl, fun h => by simp at h, fun _ => rfl, Nat.le_refl _, Nat.le_refl _⟩, HB.out⟩
  have hi0 : i = 0 := by have : i < 1 := hi; omega
  subst hi0
  exact ⟨HR.out.cell rfl, HR.out.cell rfl⟩
end Go.Proofs.YtjpccmiaimkmbaaGreat


namespace Go.Proofs.YtjpccmiaimkmbaaGreat
open Go.RowKit Tnr Tnt

structure TH (w : World) (q : Option Addr) (m cq : Nat) (ys : List NV) (L : List Nd) : Prop where
  len : m = ys.length
  nodes : SlN w q ys
  nil : q = none → cq = 0
  le : m ≤ cq
  max : cq ≤ 9223372036854775807
  nds : nds ys = L
theorem TH.below {w w' : World} {q : Option Addr} {m cq : Nat} {ys : List NV} {L : List Nd} (h : TH w q m cq ys L) (hb : Below w.heap.size w w') : TH w' q m cq ys L := ⟨h.len, h.nodes.below hb, h.nil, h.le, h.max, h.nds⟩
theorem th_own {w : World} {B m cq : Nat} {q : Option Addr} {ys : List NV} {L : List Nd} (hm : m = ys.length) (h : OwnN w B (.slice q m cq) ys) (hL : nds ys = L) : TH w q m cq ys L := by
  obtain ⟨p, c, e, h1, h2, h3, h4⟩ := h.form
  simp only [Value.slice.injEq] at e
  obtain ⟨rfl, _, rfl⟩ := e
  exact ⟨hm, h4, h3, by omega, h2, hL⟩
theorem few_nds {ys : List NV} {L : List Nd} (h : nds ys = L) (hL : ∀ d ∈ L, d.kids.length ≤ 1000000 ∧ d.set.length ≤ 1000000) : Few ys := fun x hx => hL x.nd (h ▸ List.mem_map.2 ⟨x, hx, rfl⟩)
def tv (q : Option Addr) (cq : Nat) (ys : List NV) : TV := ⟨q, cq, none, 0, 0, ys⟩
theorem TH.treeIn {w : World} {q : Option Addr} {m cq : Nat} {ys : List NV} {L : List Nd} (h : TH w q m cq ys L) : TreeIn w (tv q cq ys) := ⟨h.nodes, h.nil, by have := h.len; have := h.le; show ys.length ≤ cq; omega, h.max⟩
theorem slT_nil (w : World) : SlT w none [] := ⟨fun _ h => by simp at h, .inl rfl⟩
theorem slT_one {w : World} {b : Nat} {q : Option Addr} {m cq : Nat} {ys : List NV} {L : List Nd} {T : TypeId} (h : TH w q m cq ys L) (hb : Bx w b T #[.slice q m cq, .slice none 0 0]) : SlT w (some ⟨b, 0, none⟩) [tv q cq ys] := by
  refine ⟨fun t ht => by rw [List.mem_singleton.1 ht]; exact h.treeIn, .inr ⟨b, 0, rfl, fun i hi => ?_⟩⟩
  have : i = 0 := by simpa using hi
  subst this
  refine ⟨?_, hb.cell rfl⟩
  show _ = some (Value.slice q ys.length cq)
  rw [← h.len]
  exact hb.cell rfl
theorem slT_two {w : World} {b : Nat} {q q' : Option Addr} {m cq m' cq' : Nat} {ys ys' : List NV} {L L' : List Nd} {T : TypeId} (h : TH w q m cq ys L) (h' : TH w q' m' cq' ys' L') (hb : Bx w b T #[.slice q m cq, .slice none 0 0, .slice q' m' cq', .slice none 0 0]) : SlT w (some ⟨b, 0, none⟩) [tv q cq ys, tv q' cq' ys'] := by
  refine ⟨fun t ht => by rcases List.mem_cons.1 ht with rfl | ht; exact h.treeIn; rw [List.mem_singleton.1 ht]; exact h'.treeIn, .inr ⟨b, 0, rfl, fun i hi => ?_⟩⟩
  have hi2 : i = 0 ∨ i = 1 := by have : i < 2 := hi; omega
  rcases hi2 with rfl | rfl
  · refine ⟨?_, hb.cell rfl⟩
    show _ = some (Value.slice q ys.length cq)
    rw [← h.len]
    exact hb.cell rfl
  · refine ⟨?_, hb.cell rfl⟩
    show _ = some (Value.slice q' ys'.length cq')
    rw [← h'.len]
    exact hb.cell rfl
def JPost (L : List Nd) (w : World) (e : Ending) (w' : World) : Prop := ∃ q m cq ys, e = .returned (.agg #[.slice q m cq, .slice none 0 0]) ∧ TH w' q m cq ys L ∧ Below w.heap.size w w'
theorem join0 (x : NV) (d : Nd) (w : World) (hx : NodeIn w x) (hd : x.nd = d) (hs : d.set.length ≤ 1000000) : Calls Tryz.prog 9 #[.agg (encN x).toArray, .slice none 0 0] w (JPost (joinT d []) w) := by
  refine (join_any x none 0 0 [] w hx (by rw [hd]; exact hs) rfl (slT_nil w) (fun _ h => by simp at h) (by omega) (by simp [sizeT])).mono ?_
  rintro e w' ⟨q, m, cq, ys, hm, rfl, ho, hy, hb⟩
  rw [hd] at hy
  exact ⟨q, m, cq, ys, rfl, th_own hm ho hy, hb⟩
theorem join1 (x : NV) (d : Nd) (b c : Nat) (q : Option Addr) (m cq : Nat) (ys : List NV) (L : List Nd) (w : World) {T : TypeId} (hx : NodeIn w x) (hd : x.nd = d) (hs : d.set.length ≤ 1000000) (h : TH w q m cq ys L) (hb : Bx w b T #[.slice q m cq, .slice none 0 0]) (hf : Few ys) (hl : m ≤ 1000000) :
    Calls Tryz.prog 9 #[.agg (encN x).toArray, .slice (some ⟨b, 0, none⟩) 1 c] w (JPost (joinT d [L]) w) := by
  refine (join_any x (some ⟨b, 0, none⟩) 1 c [tv q cq ys] w hx (by rw [hd]; exact hs) rfl (slT_one h hb) (fun t ht => by rw [List.mem_singleton.1 ht]; exact hf) (by omega) (by have := h.len; simp [sizeT, tv]; omega)).mono ?_
  rintro e w' ⟨q', m', cq', ys', hm, rfl, ho, hy, hb'⟩
  rw [hd] at hy
  refine ⟨q', m', cq', ys', rfl, th_own hm ho (hy.trans ?_), hb'⟩
  show joinT d [nds ys] = _
  rw [h.nds]
theorem join2 (x : NV) (d : Nd) (b c : Nat) (q q2 : Option Addr) (m cq m2 cq2 : Nat) (ys ys2 : List NV) (L L2 : List Nd) (w : World) {T : TypeId} (hx : NodeIn w x) (hd : x.nd = d) (hs : d.set.length ≤ 1000000) (h : TH w q m cq ys L) (h2 : TH w q2 m2 cq2 ys2 L2) (hb : Bx w b T #[.slice q m cq, .slice none 0 0, .slice q2 m2 cq2, .slice none 0 0]) (hf : Few ys) (hf2 : Few ys2) (hl : m + m2 ≤ 1000000) :
    Calls Tryz.prog 9 #[.agg (encN x).toArray, .slice (some ⟨b, 0, none⟩) 2 c] w (JPost (joinT d [L, L2]) w) := by
  refine (join_any x (some ⟨b, 0, none⟩) 2 c [tv q cq ys, tv q2 cq2 ys2] w hx (by rw [hd]; exact hs) rfl (slT_two h h2 hb) (fun t ht => by rcases List.mem_cons.1 ht with rfl | ht; exact hf; rw [List.mem_singleton.1 ht]; exact hf2) (by omega) (by have := h.len; have := h2.len; simp [sizeT, tv]; omega)).mono ?_
  rintro e w' ⟨q', m', cq', ys', hm, rfl, ho, hy, hb'⟩
  rw [hd] at hy
  refine ⟨q', m', cq', ys', rfl, th_own hm ho (hy.trans ?_), hb'⟩
  show joinT d [nds ys, nds ys2] = _
  rw [h.nds, h2.nds]
end Go.Proofs.YtjpccmiaimkmbaaGreat

