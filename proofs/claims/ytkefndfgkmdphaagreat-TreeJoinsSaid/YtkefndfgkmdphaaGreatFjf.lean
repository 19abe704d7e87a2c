/- TreeJoins, for every node, every row of trees and every place, no condition: what a node and trees are joined to, which tree a node of one covers, and the kids' trees, are told by the program as by the document; what is handed in with memory behind its rows stays, what is told lies apart. The frame. -/
import Derived.Test.YtkefndfgkmdphaaGreatFjw
import Derived.Test.YtkefndfgkmdphaaGreatRows
import Derived.ProofKit
import Derived.OpenShut
import Derived.SizedLaws
import Derived.Deep.SlicePairs
import Derived.Carry
import Derived.Lib.SmallJoins

namespace Go.Proofs.YtkefndfgkmdphaaGreat
set_option maxHeartbeats 1600000
set_option maxRecDepth 100000
open Go.ChangeShapes Go.WideShapes Go.ChangeAt Go.RowKit Go.Deep Go.Lib Tnr Tnt

theorem own : ownKnob Tryz.prog.godebug = none := by kernel_rfl
theorem laidOut : laidOutB Tryz.prog = true := by kernel_rfl
theorem readTrees : Tryz.prog.readableRec 29 = true := by kernel_rfl
theorem rowTrees : 29 < Tryz.prog.types.size := of_decide_eq_true (by kernel_rfl)
theorem readNode : Tryz.prog.readableRec 28 = true := by kernel_rfl
theorem rowNode : 28 < Tryz.prog.types.size := of_decide_eq_true (by kernel_rfl)
theorem readTree : Tryz.prog.readableRec 34 = true := by kernel_rfl
theorem rowTree : 34 < Tryz.prog.types.size := of_decide_eq_true (by kernel_rfl)
def iv : Value → Int
 | .int _ z => z
 | _ => 0
theorem gr_map (len : Nat) (f : Nat → R) (i : Nat) (hi : i < len) : gr ((List.range len).map f) i = f i := by
 rw [gr_get (by simpa using hi)]; simp
theorem gn_map (len : Nat) (f : Nat → NV) (i : Nat) (hi : i < len) : gn ((List.range len).map f) i = f i := by
 rw [gn_get (by simpa using hi)]; simp
theorem gb_map (len : Nat) (f : Nat → ByteArray) (i : Nat) (hi : i < len) : gb ((List.range len).map f) i = f i := by
 rw [gb_get (by simpa using hi)]; simp
theorem set_read {H : Type} {enc : TypeId × Value → H} {W : World} {v : Value} {d : DataW H} {pl : List MemPlace} {fuel : Nat}
  (hf : DataW.trod enc Tryz.prog W 0 (fun _ => true) true fuel 23 [v] = some (d, pl)) :
  ∃ q c l, v = .slice q l.length c ∧ SlR W q l ∧ (q = none → c = 0) ∧ l.length ≤ c ∧ c ≤ 9223372036854775807 := by
 have ce : Tryz.prog.cellsOf 63 = 2 := by kernel_rfl
 have ci : Tryz.prog.cellsOf 3 = 1 := by kernel_rfl
 rcases open_slice_pairs Tryz.underlying23 Tryz.underlying63 ce rfl rfl ci ci hf with ⟨hcs, _⟩ | ⟨a, n, c, m, k, V0, V1, D0, D1, P0, P1, hcs, _, hlc, hcm, hmm, hx, hcell⟩
 ·simp only [List.cons.injEq, and_true] at hcs
  subst hcs
  exact ⟨none, 0, [], rfl, .inl rfl, fun _ => rfl, Nat.zero_le _, Nat.zero_le _⟩
 ·simp only [List.cons.injEq, and_true] at hcs
  subst hcs
  simp only [if_true] at hmm
  have hl : ((List.range n).map fun i => ((iv (V0 i), iv (V1 i)) : R)).length = n := by simp
  refine ⟨some a, c, (List.range n).map fun i => (iv (V0 i), iv (V1 i)), by rw [hl], ?_, fun h => (by cases h), by rw [hl]; exact hlc, Nat.le_trans hcm (by decide)⟩
  by_cases h0 : n = 0
  ·left; rw [h0]; rfl
  ·right
   obtain ⟨b, off, spot⟩ := a
   have hspot : spot = none := by simpa [Addr.add] using World.cell?_spot (hcell 0 (by omega)).1
   subst hspot
   refine ⟨b, off, rfl, fun i hi => ?_⟩
   rw [hl] at hi
   rw [gr_map n _ i hi]
   obtain ⟨g1, g2, g3, g4⟩ := hcell i (by omega)
   obtain ⟨z0, e0, _, _⟩ := DataW.trod_int Tryz.underlying3 g3
   obtain ⟨z1, e1, _, _⟩ := DataW.trod_int Tryz.underlying3 g4
   simp only [List.cons.injEq, and_true] at e0 e1
   rw [e0] at g1
   rw [e1] at g2
   rw [e0, e1]
   rw [Go.WideShapes.add_plain] at g1 g2
   exact ⟨g1, by rw [Nat.add_assoc]; exact g2⟩
theorem kids_read {H : Type} {enc : TypeId × Value → H} {W : World} {v : Value} {d : DataW H} {pl : List MemPlace} {fuel : Nat}
  (hf : DataW.trod enc Tryz.prog W 0 (fun _ => true) true fuel 24 [v] = some (d, pl)) :
  ∃ q c l, v = .slice q l.length c ∧ SlZ W q l ∧ (q = none → c = 0) ∧ l.length ≤ c ∧ c ≤ 9223372036854775807 := by
 have ci : Tryz.prog.cellsOf 3 = 1 := by kernel_rfl
 rcases open_slice1 Tryz.underlying24 ci hf with ⟨hcs, _⟩ | ⟨a, n, c, m, k, V, D, P, hcs, _, hlc, hcm, hmm, _, hcell⟩
 ·simp only [List.cons.injEq, and_true] at hcs
  subst hcs
  exact ⟨none, 0, [], rfl, .inl rfl, fun _ => rfl, Nat.zero_le _, Nat.zero_le _⟩
 ·simp only [List.cons.injEq, and_true] at hcs
  subst hcs
  simp only [if_true] at hmm
  have hl : ((List.range n).map fun i => iv (V i)).length = n := by simp
  refine ⟨some a, c, (List.range n).map fun i => iv (V i), by rw [hl], ?_, fun h => (by cases h), by rw [hl]; exact hlc, Nat.le_trans hcm (by decide)⟩
  by_cases h0 : n = 0
  ·left; rw [h0]; rfl
  ·right
   obtain ⟨b, off, spot⟩ := a
   have hspot : spot = none := by simpa [Addr.add] using World.cell?_spot (hcell 0 (by omega)).1
   subst hspot
   refine ⟨b, off, rfl, fun i hi => ?_⟩
   rw [hl] at hi
   obtain ⟨g1, g3⟩ := hcell i (by omega)
   obtain ⟨z0, e0, _, _⟩ := DataW.trod_int Tryz.underlying3 g3
   simp only [List.cons.injEq, and_true] at e0
   rw [e0] at g1
   rw [Go.WideShapes.add_plain] at g1
   rw [gz_get (by simpa using hi)]
   simp only [List.getElem_map, List.getElem_range]
   rw [e0]
   exact g1
theorem names_read {H : Type} {enc : TypeId × Value → H} {W : World} {v : Value} {d : DataW H} {pl : List MemPlace} {fuel : Nat}
  (hf : DataW.trod enc Tryz.prog W 0 (fun _ => true) true fuel 32 [v] = some (d, pl)) :
  ∃ q c l, v = .slice q l.length c ∧ SlX W q l ∧ (q = none → c = 0) ∧ l.length ≤ c ∧ c ≤ 9223372036854775807 ∧ ∀ x ∈ l, x.size ≤ 9223372036854775807 := by
 have cs : Tryz.prog.cellsOf 9 = 1 := by kernel_rfl
 rcases open_slice1 Tryz.underlying32 cs hf with ⟨hcs, _⟩ | ⟨a, n, c, m, k, V, D, P, hcs, _, hlc, hcm, hmm, _, hcell⟩
 ·simp only [List.cons.injEq, and_true] at hcs
  subst hcs
  exact ⟨none, 0, [], rfl, .inl rfl, fun _ => rfl, Nat.zero_le _, Nat.zero_le _, fun x hx => by simp at hx⟩
 ·simp only [List.cons.injEq, and_true] at hcs
  subst hcs
  simp only [if_true] at hmm
  obtain ⟨G, hG⟩ := choose_lt (α := ByteArray) (n := n) (p := fun i x => V i = .string x ∧ x.size ≤ 9223372036854775807) (fun i hi => by
   obtain ⟨_, g3⟩ := hcell i (by omega)
   obtain ⟨z1, e1, _, e3⟩ := DataW.trod_string Tryz.underlying9 g3
   simp only [List.cons.injEq, and_true] at e1
   exact ⟨z1, e1, Nat.le_trans e3 (by decide)⟩)
  have hl : ((List.range n).map G).length = n := by simp
  refine ⟨some a, c, (List.range n).map G, by rw [hl], ?_, (fun e => by cases e), by rw [hl]; exact hlc, Nat.le_trans hcm (by decide), ?_⟩
  ·by_cases h0 : n = 0
   ·left; rw [h0]; rfl
   ·right
    obtain ⟨b, off, spot⟩ := a
    have hspot : spot = none := by simpa [Addr.add] using World.cell?_spot (hcell 0 (by omega)).1
    subst hspot
    refine ⟨b, off, rfl, fun i hi => ?_⟩
    rw [hl] at hi
    rw [gb_map n _ i hi]
    obtain ⟨g1, _⟩ := hcell i (by omega)
    rw [Go.WideShapes.add_plain] at g1
    rw [(hG i hi).1] at g1
    exact g1
  ·intro x hx
   rw [List.mem_map] at hx
   obtain ⟨i, hi, rfl⟩ := hx
   exact (hG i (List.mem_range.1 hi)).2
instance : Inhabited NV := ⟨nv0⟩
theorem u8_range {z : Int} (h : (Lit.int .u8 z).wf = true) : 0 ≤ z ∧ z < 256 := by
 simp [Lit.wf, IntKind.min, IntKind.max, IntKind.bits, IntKind.signed] at h
 omega
def NodeR (W : World) (b o : Nat) (x : NV) : Prop := CellsN W b o x ∧ NodeIn W x ∧ 0 ≤ x.nd.kind ∧ x.nd.kind < 256 ∧ x.nd.kids.length ≤ 9223372036854775807 ∧ x.nd.set.length ≤ 9223372036854775807
theorem nodes_read {H : Type} {enc : TypeId × Value → H} {W : World} {v : Value} {d : DataW H} {pl : List MemPlace} {fuel : Nat}
  (hf : DataW.trod enc Tryz.prog W 0 (fun _ => true) true fuel 31 [v] = some (d, pl)) :
  ∃ q c xs, v = .slice q xs.length c ∧ SlN W q xs ∧ (q = none → c = 0) ∧ xs.length ≤ c ∧ c ≤ 9223372036854775807 ∧ KindsIn xs ∧ ∀ x ∈ xs, x.nd.kids.length ≤ 9223372036854775807 ∧ x.nd.set.length ≤ 9223372036854775807 := by
 have ce : Tryz.prog.cellsOf 28 = 9 := by kernel_rfl
 rcases open_slice Tryz.underlying31 hf with ⟨hcs, _⟩ | ⟨a, n, c, m, k, D, P, hcs, _, hlc, hcm, hmm, _, hx⟩
 ·simp only [List.cons.injEq, and_true] at hcs
  subst hcs
  exact ⟨none, 0, [], rfl, ⟨fun x hx => by simp at hx, .inl rfl⟩, fun _ => rfl, Nat.zero_le _, Nat.zero_le _, fun x hx => by simp at hx, fun x hx => by simp at hx⟩
 ·simp only [List.cons.injEq, and_true] at hcs
  subst hcs
  simp only [if_true] at hmm
  rw [ce] at hx
  by_cases h0 : n = 0
  ·subst h0
   exact ⟨some a, c, [], rfl, ⟨fun x hx => by simp at hx, .inl rfl⟩, fun h => (by cases h), Nat.zero_le _, Nat.le_trans hcm (by decide), fun x hx => by simp at hx, fun x hx => by simp at hx⟩
  obtain ⟨b, off, spot⟩ := a
  have hspot : spot = none := by
   obtain ⟨cs', h1, _⟩ := hx 0 (by omega)
   obtain ⟨_, hlen, hcell⟩ := World.cells?_some h1
   have h3 := hcell 0 (by omega)
   rw [List.getElem?_eq_getElem (by omega)] at h3
   simpa [Addr.add] using World.cell?_spot h3
  subst hspot
  have c1 : Tryz.prog.cellsOf 22 = 1 := by kernel_rfl
  have c2 : Tryz.prog.cellsOf 23 = 1 := by kernel_rfl
  have c3 : Tryz.prog.cellsOf 24 = 1 := by kernel_rfl
  have c4 : Tryz.prog.cellsOf 3 = 1 := by kernel_rfl
  have c5 : Tryz.prog.cellsOf 25 = 1 := by kernel_rfl
  have c6 : Tryz.prog.cellsOf 26 = 1 := by kernel_rfl
  have c7 : Tryz.prog.cellsOf 4 = 1 := by kernel_rfl
  obtain ⟨G, hG⟩ := choose_lt (α := NV) (n := n) (p := fun i x => NodeR W b (off + i * 9) x) (fun i hi => by
   obtain ⟨cs', h1, h2⟩ := hx i (by omega)
   obtain ⟨_, hlen, hcell⟩ := World.cells?_some h1
   obtain ⟨ys, k2, _, _, _, hxl, hf2⟩ := DataW.trod_struct Tryz.underlying28 h2
   match cs', hlen, ys, hxl with
   | [v0, v1, v2, v3, v4, v5, v6, v7, v8], _, [y0, y1, y2, y3, y4, y5, y6, y7, y8], _ =>
    have g0 := hf2 0 _ rfl
    have g1 := hf2 1 _ rfl
    have g2 := hf2 2 _ rfl
    have g3 := hf2 3 _ rfl
    have g4 := hf2 4 _ rfl
    have g5 := hf2 5 _ rfl
    have g6 := hf2 6 _ rfl
    have g7 := hf2 7 _ rfl
    have g8 := hf2 8 _ rfl
    simp [c1, c2, c3, c4, c5, c6, c7] at g0 g1 g2 g3 g4 g5 g6 g7 g8
    obtain ⟨z0, e0, _, w0⟩ := DataW.trod_int Tryz.underlying22 g0
    obtain ⟨q1, k1, l1, r1, s1, n1, b1, b1'⟩ := set_read (show DataW.trod enc Tryz.prog W 0 (fun _ => true) true k2 23 [v1] = some (y1.1, y1.2) from g1)
    obtain ⟨q2, k3, l2, r2, s2, n2, b2, b2'⟩ := kids_read (show DataW.trod enc Tryz.prog W 0 (fun _ => true) true k2 24 [v2] = some (y2.1, y2.2) from g2)
    obtain ⟨z3, e3, _, _⟩ := DataW.trod_int Tryz.underlying3 g3
    obtain ⟨z4, e4, _, _⟩ := DataW.trod_int Tryz.underlying3 g4
    obtain ⟨z5, e5, _, _⟩ := DataW.trod_int Tryz.underlying3 g5
    obtain ⟨z6, e6, _, _⟩ := DataW.trod_int Tryz.underlying25 g6
    obtain ⟨z7, e7, _, _⟩ := DataW.trod_int Tryz.underlying26 g7
    obtain ⟨z8, e8, _⟩ := DataW.trod_bool Tryz.underlying4 g8
    simp only [List.cons.injEq, and_true] at e0 e3 e4 e5 e6 e7 e8
    subst e0 r1 r2 e3 e4 e5 e6 e7 e8
    have kc : ∀ (j : Nat) (v : Value), j < 9 → ([.int .u8 z0, .slice q1 l1.length k1, .slice q2 l2.length k3, .int .i64 z3, .int .i64 z4, .int .i64 z5, .int .u8 z6, .int .u8 z7, .bool z8] : List Value)[j]? = some v → W.cell? ⟨b, off + i * 9 + j, none⟩ = some v := fun j v hj hv => by
     have h3 := hcell j hj
     rw [hv, Go.WideShapes.add_plain, Go.WideShapes.add_plain] at h3
     exact h3
    exact ⟨⟨⟨z0, l1, l2, z3, z4, z5, z6, z7, z8⟩, q1, k1, q2, k3⟩, ⟨kc 0 _ (by omega) rfl, kc 1 _ (by omega) rfl, kc 2 _ (by omega) rfl, kc 3 _ (by omega) rfl, kc 4 _ (by omega) rfl, kc 5 _ (by omega) rfl, kc 6 _ (by omega) rfl, kc 7 _ (by omega) rfl, kc 8 _ (by omega) rfl⟩, ⟨s1, s2, n1, n2, b1, b2⟩, (u8_range w0).1, (u8_range w0).2, Nat.le_trans b2 b2', Nat.le_trans b1 b1'⟩)
  have hl : ((List.range n).map G).length = n := by simp
  refine ⟨some ⟨b, off, none⟩, c, (List.range n).map G, by rw [hl], ⟨fun x hx => ?_, .inr ⟨b, off, rfl, fun i hi => ?_⟩⟩, fun h => (by cases h), by rw [hl]; exact hlc, Nat.le_trans hcm (by decide), fun x hx => ?_, fun x hx => ?_⟩
  ·rw [List.mem_map] at hx
   obtain ⟨i, hi, rfl⟩ := hx
   exact (hG i (List.mem_range.1 hi)).2.1
  ·rw [hl] at hi
   rw [gn_map n _ i hi]
   exact (hG i hi).1
  ·rw [List.mem_map] at hx
   obtain ⟨i, hi, rfl⟩ := hx
   exact ⟨(hG i (List.mem_range.1 hi)).2.2.1, (hG i (List.mem_range.1 hi)).2.2.2.1⟩
  ·rw [List.mem_map] at hx
   obtain ⟨i, hi, rfl⟩ := hx
   exact ⟨(hG i (List.mem_range.1 hi)).2.2.2.2.1, (hG i (List.mem_range.1 hi)).2.2.2.2.2⟩
theorem array9 {cs : Array Value} (h : cs.size = 9) : ∃ v0 v1 v2 v3 v4 v5 v6 v7 v8, cs = #[v0, v1, v2, v3, v4, v5, v6, v7, v8] := by
 obtain ⟨l⟩ := cs
 match l, h with
 | [v0, v1, v2, v3, v4, v5, v6, v7, v8], _ => exact ⟨v0, v1, v2, v3, v4, v5, v6, v7, v8, rfl⟩
theorem node_opened {H : Type} {enc : TypeId × Value → H} {W : World} {v : Value} {d : DataW H} {p : List MemPlace} {b0 : Nat}
  (hv : Value.okWide Tryz.prog W .any b0 28 v) (h : DataW.Trod enc Tryz.prog W 0 (fun _ => true) true 28 v d p) :
  ∃ x : NV, v = .agg (encN x).toArray ∧ NodeIn W x ∧ x.nd.kids.length ≤ 9223372036854775807 ∧ x.nd.set.length ≤ 9223372036854775807 := by
 have ce : Tryz.prog.cellsOf 28 = 9 := by kernel_rfl
 obtain ⟨cs, rfl, hsz⟩ := okWide_struct Tryz.underlying28 hv
 obtain ⟨v0, v1, v2, v3, v4, v5, v6, v7, v8, rfl⟩ := array9 (hsz.trans ce)
 obtain ⟨fuel, hf⟩ := h
 have c1 : Tryz.prog.cellsOf 22 = 1 := by kernel_rfl
 have c2 : Tryz.prog.cellsOf 23 = 1 := by kernel_rfl
 have c3 : Tryz.prog.cellsOf 24 = 1 := by kernel_rfl
 have c4 : Tryz.prog.cellsOf 3 = 1 := by kernel_rfl
 have c5 : Tryz.prog.cellsOf 25 = 1 := by kernel_rfl
 have c6 : Tryz.prog.cellsOf 26 = 1 := by kernel_rfl
 have c7 : Tryz.prog.cellsOf 4 = 1 := by kernel_rfl
 have hcells : (Value.agg #[v0, v1, v2, v3, v4, v5, v6, v7, v8]).cells.toList = [v0, v1, v2, v3, v4, v5, v6, v7, v8] := rfl
 rw [hcells] at hf
 obtain ⟨ys, k2, _, _, _, hxl, hf2⟩ := DataW.trod_struct Tryz.underlying28 hf
 match ys, hxl with
 | [y0, y1, y2, y3, y4, y5, y6, y7, y8], _ =>
  have g0 := hf2 0 _ rfl
  have g1 := hf2 1 _ rfl
  have g2 := hf2 2 _ rfl
  have g3 := hf2 3 _ rfl
  have g4 := hf2 4 _ rfl
  have g5 := hf2 5 _ rfl
  have g6 := hf2 6 _ rfl
  have g7 := hf2 7 _ rfl
  have g8 := hf2 8 _ rfl
  simp [c1, c2, c3, c4, c5, c6, c7] at g0 g1 g2 g3 g4 g5 g6 g7 g8
  obtain ⟨z0, e0, _, w0⟩ := DataW.trod_int Tryz.underlying22 g0
  obtain ⟨q1, k1, l1, r1, s1, n1, b1, b1'⟩ := set_read (show DataW.trod enc Tryz.prog W 0 (fun _ => true) true k2 23 [v1] = some (y1.1, y1.2) from g1)
  obtain ⟨q2, k3, l2, r2, s2, n2, b2, b2'⟩ := kids_read (show DataW.trod enc Tryz.prog W 0 (fun _ => true) true k2 24 [v2] = some (y2.1, y2.2) from g2)
  obtain ⟨z3, e3, _, _⟩ := DataW.trod_int Tryz.underlying3 g3
  obtain ⟨z4, e4, _, _⟩ := DataW.trod_int Tryz.underlying3 g4
  obtain ⟨z5, e5, _, _⟩ := DataW.trod_int Tryz.underlying3 g5
  obtain ⟨z6, e6, _, _⟩ := DataW.trod_int Tryz.underlying25 g6
  obtain ⟨z7, e7, _, _⟩ := DataW.trod_int Tryz.underlying26 g7
  obtain ⟨z8, e8, _⟩ := DataW.trod_bool Tryz.underlying4 g8
  simp only [List.cons.injEq, and_true] at e0 e3 e4 e5 e6 e7 e8
  subst e0 r1 r2 e3 e4 e5 e6 e7 e8
  exact ⟨⟨⟨z0, l1, l2, z3, z4, z5, z6, z7, z8⟩, q1, k1, q2, k3⟩, rfl, ⟨s1, s2, n1, n2, b1, b2⟩, Nat.le_trans b2 b2', Nat.le_trans b1 b1'⟩
instance : Inhabited TV := ⟨tv0⟩
theorem gt_map (len : Nat) (f : Nat → TV) (i : Nat) (hi : i < len) : gt ((List.range len).map f) i = f i := by
 rw [gt_get (by simpa using hi)]; simp
def TreeR (W : World) (b o : Nat) (x : TV × List ByteArray) : Prop := (W.cell? ⟨b, o, none⟩ = some (.slice x.1.q x.1.ys.length x.1.cq) ∧ W.cell? ⟨b, o + 1, none⟩ = some (.slice x.1.na x.1.nn x.1.nc)) ∧ TNm W x.1 x.2 ∧ (x.1.na = none → x.1.nc = 0)
theorem trees_read {H : Type} {enc : TypeId × Value → H} {W : World} {v : Value} {d : DataW H} {pl : List MemPlace} {fuel : Nat}
  (hf : DataW.trod enc Tryz.prog W 0 (fun _ => true) true fuel 29 [v] = some (d, pl)) :
  ∃ (q : Option Addr) (c : Nat) (ts : List TV) (nms : Nat → List ByteArray), v = .slice q ts.length c ∧ SlT W q ts ∧ ts.length ≤ c ∧ c ≤ 9223372036854775807 ∧ (∀ i, i < ts.length → TNm W (gt ts i) (nms i)) ∧ ∀ t ∈ ts, t.na = none → t.nc = 0 := by
 have ce : Tryz.prog.cellsOf 34 = 2 := by kernel_rfl
 rcases open_slice Tryz.underlying29 hf with ⟨hcs, _⟩ | ⟨a, n, c, m, k, D, P, hcs, _, hlc, hcm, hmm, _, hx⟩
 ·simp only [List.cons.injEq, and_true] at hcs
  subst hcs
  exact ⟨none, 0, [], fun _ => [], rfl, ⟨fun x hx => by simp at hx, .inl rfl⟩, Nat.zero_le _, Nat.zero_le _, fun i hi => by simp at hi, fun x hx => by simp at hx⟩
 ·simp only [List.cons.injEq, and_true] at hcs
  subst hcs
  simp only [if_true] at hmm
  rw [ce] at hx
  by_cases h0 : n = 0
  ·subst h0
   exact ⟨some a, c, [], fun _ => [], rfl, ⟨fun x hx => by simp at hx, .inl rfl⟩, Nat.zero_le _, Nat.le_trans hcm (by decide), fun i hi => by simp at hi, fun x hx => by simp at hx⟩
  obtain ⟨b, off, spot⟩ := a
  have hspot : spot = none := by
   obtain ⟨cs', h1, _⟩ := hx 0 (by omega)
   obtain ⟨_, hlen, hcell⟩ := World.cells?_some h1
   have h3 := hcell 0 (by omega)
   rw [List.getElem?_eq_getElem (by omega)] at h3
   simpa [Addr.add] using World.cell?_spot h3
  subst hspot
  have c1 : Tryz.prog.cellsOf 31 = 1 := by kernel_rfl
  have c2 : Tryz.prog.cellsOf 32 = 1 := by kernel_rfl
  obtain ⟨G, hG⟩ := choose_lt (α := TV × List ByteArray) (n := n) (p := fun i x => TreeR W b (off + i * 2) x) (fun i hi => by
   obtain ⟨cs', h1, h2⟩ := hx i (by omega)
   obtain ⟨_, hlen, hcell⟩ := World.cells?_some h1
   obtain ⟨ys, k2, _, _, _, hxl, hf2⟩ := DataW.trod_struct Tryz.underlying34 h2
   match cs', hlen, ys, hxl with
   | [v0, v1], _, [y0, y1], _ =>
    have g0 := hf2 0 _ rfl
    have g1 := hf2 1 _ rfl
    simp [c1, c2] at g0 g1
    obtain ⟨q1, d1, xs, r1, s1, n1, b1, b1', _, f1⟩ := nodes_read (show DataW.trod enc Tryz.prog W 0 (fun _ => true) true k2 31 [v0] = some (y0.1, y0.2) from g0)
    obtain ⟨q2, d2, nm, r2, s2, n2, b2, b2', f2⟩ := names_read (show DataW.trod enc Tryz.prog W 0 (fun _ => true) true k2 32 [v1] = some (y1.1, y1.2) from g1)
    subst r1 r2
    have kc : ∀ (j : Nat) (v : Value), j < 2 → ([.slice q1 xs.length d1, .slice q2 nm.length d2] : List Value)[j]? = some v → W.cell? ⟨b, off + i * 2 + j, none⟩ = some v := fun j v hj hv => by
     have h3 := hcell j hj
     rw [hv, Go.WideShapes.add_plain, Go.WideShapes.add_plain] at h3
     exact h3
    exact ⟨(⟨q1, d1, q2, nm.length, d2, xs⟩, nm), ⟨kc 0 _ (by omega) rfl, kc 1 _ (by omega) rfl⟩, ⟨⟨s1, n1, b1, b1'⟩, f1, rfl, by show (nm.length : Int) ≤ _; omega, s2, f2⟩, n2⟩)
  have hl : ((List.range n).map fun i => (G i).1).length = n := by simp
  refine ⟨some ⟨b, off, none⟩, c, (List.range n).map fun i => (G i).1, fun i => (G i).2, by rw [hl], ⟨fun x hx => ?_, .inr ⟨b, off, rfl, fun i hi => ?_⟩⟩, by rw [hl]; exact hlc, Nat.le_trans hcm (by decide), fun i hi => ?_, fun x hx => ?_⟩
  ·rw [List.mem_map] at hx
   obtain ⟨i, hi, rfl⟩ := hx
   exact (hG i (List.mem_range.1 hi)).2.1.tree
  ·rw [hl] at hi
   rw [gt_map n _ i hi]
   exact (hG i hi).1
  ·rw [hl] at hi
   rw [gt_map n _ i hi]
   exact (hG i hi).2.1
  ·rw [List.mem_map] at hx
   obtain ⟨i, hi, rfl⟩ := hx
   exact (hG i (List.mem_range.1 hi)).2.2
theorem treeJoins_lifted (os : Os) (started : os.Started) (H : Type) (enc : TypeId × Value → H) :
  ReturnsInHanded {} Tryz.checked os 3 .any (Rows.treeJoinsSpec.pre6 enc Tryz.prog Tryz.f3 Rows.treeJoinsRow.domain false) (Rows.treeJoinsSpec.post enc Tryz.prog Tryz.f3 false true false false) := by
 refine returnsInHanded_of_change_sized (C := Tryz.checked) own started (by kernel_rfl) Tryz.func3
  (ChangeSpec.witness6 (enc := enc) (C := Tryz.checked) false ⟨#[], #[.agg #[.int .u8 0, .slice none 0 0, .slice none 0 0, .int .i64 0, .int .i64 0, .int .i64 0, .int .u8 0, .int .u8 0, .bool false], .slice none 0 0, .int .i64 0], []⟩ 8 (by kernel_rfl) (by kernel_rfl) (by kernel_rfl) (by kernel_rfl)) ?_
 intro W base args ds gs before hval0 hW hcnd hsz _
 have hval : ∀ (j : Nat) t v, Tryz.f3.params[j]? = some t → args[j]? = some v → Value.okWide Tryz.prog W .any base t v := hval0
 have hW' := hW
 obtain ⟨p, q, hA0, hV, rfl, hfz, hnd⟩ := hW
 have hA : DataW.TrodAll enc Tryz.prog W 0 (fun _ => true) true Tryz.f3.params.toList args.toList ds p := hA0
 rw [Tryz.params3] at hA hval
 obtain ⟨v0, v1, v2, d0, d1, d2, p0, p1, p2, rfl, rfl, rfl, h0, h1, h2⟩ := trodAll_three hA
 obtain ⟨rfl, rfl⟩ := trodVars_none hV
 obtain ⟨x, rfl, hx, hxk, hxs⟩ := node_opened (hval 0 28 v0 rfl rfl) h0
 obtain ⟨q1, n1, c1, rfl⟩ : ∃ q n c, v1 = .slice q n c := okWide_slice Tryz.underlying29 (hval 1 29 v1 rfl rfl)
 obtain ⟨fuel, hf1⟩ := id h1
 have hcells : (Value.slice q1 n1 c1).cells.toList = [.slice q1 n1 c1] := rfl
 rw [hcells] at hf1
 obtain ⟨q2, c2, ts, nms, e1, hs, hlc, hcm, hnm, hnil⟩ := trees_read hf1
 simp only [Value.slice.injEq] at e1
 obtain ⟨rfl, rfl, rfl⟩ := e1
 obtain ⟨a, rfl, rfl, rfl, wa⟩ := open_int Tryz.underlying3 (hval 2 3 v2 rfl rfl) h2
 have key := treeJoins_any x q1 ts.length c1 ts nms a W hx ⟨hxk, hxs⟩ rfl (by omega) hs hnm hnil
 clear hA0 hval0
 simp only [List.append_nil] at hW'
 have hlt : ∀ y ∈ p0 ++ p1, y.block < W.heap.size := fun y hy => by simpa using hW'.lt y (by simpa using hy)
 refine key.mono fun e W' ⟨he, bel⟩ => ?_
 subst he
 refine ⟨_, rfl, _, _, _, [], p0 ++ (p1 ++ []), [], hW', ?_, ?_, rfl, bel.frame _, fun h => by cases h⟩
 ·exact trodAll_mk1 (shut_bool Tryz.underlying4 _)
 ·exact trodAll_mk3 (Below.trod laidOut readNode rowNode h0 bel (fun y hy => hlt y (by simp [hy]))) (Below.trod laidOut readTrees rowTrees h1 bel (fun y hy => hlt y (by simp [hy]))) (shut_int Tryz.underlying3 wa)

theorem treeJoins_holds : Rows.TreeJoinsSaid :=
 OpenClaim.holds_of_wide 3 Tryz.f3 rfl rfl rfl rfl rfl rfl rfl ⟨rfl, rfl, rfl, rfl, rfl⟩ rfl rfl rfl rfl rfl (by kernel_rfl) Tryz.func3 (by kernel_rfl)
  (of_decide_eq_true (by kernel_rfl)) (by unfold Func.isWrapper; first | (rw [if_pos (by decide +kernel)]; kernel_rfl) | (rw [if_neg (by decide +kernel)]; exact ⟨rfl, rfl⟩))
  (fun os started H enc _ => treeJoins_lifted os started H enc)
end Go.Proofs.YtkefndfgkmdphaaGreat
