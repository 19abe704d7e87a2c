/- The walks of the law's nodes: set, group; Pick. -/
import Derived.Test.YtpiknmnhcpjfaaaGreatMl
namespace Go.Proofs.YtpiknmnhcpjfaaaGreat
open Go.RowKit Tnr Tnt

def setNd (c : Int) : Nd := ⟨2, [(c, c)], [], 0, 0, 0, 0, 0, false⟩
def groupNd (n : Int) : Nd := ⟨5, [], [], n, 0, 0, 0, 0, false⟩
def NodePost (d : Nd) (w : World) (e : Ending) (w' : World) : Prop := ∃ x : NV, e = .returned (.agg (encN x).toArray) ∧ x.nd = d ∧ NodeIn w' x ∧ Below w.heap.size w w'
set_option maxHeartbeats 1600000 in
set_option maxRecDepth 100000 in
theorem group6_any (n : Int) (w : World) : Calls Tryz.prog 19 #[.int .i64 n] w (NodePost (groupNd n) w) := by
  obtain ⟨z0, z1, z2, z3, z4, z5, z6, z7, z8⟩ := nine (Bx.new w 38 #[.int .u8 5, .slice none 0 0, .slice none 0 0, .int .i64 n, .int .i64 0, .int .i64 0, .int .u8 0, .int .u8 0, .bool false])
  have HZ := Lib.hid (And.intro z0 (And.intro z1 (And.intro z2 (And.intro z3 (And.intro z4 (And.intro z5 (And.intro z6 (And.intro z7 z8))))))))
  clear z0 z1 z2 z3 z4 z5 z6 z7 z8
  go_enter Tryz.func19, Tryz.ntmps19
  go_wp2
  obtain ⟨z0, z1, z2, z3, z4, z5, z6, z7, z8⟩ := HZ.out
  refine bodyPost_ret (v := .agg (encN ⟨groupNd n, none, 0, none, 0⟩).toArray) (by simp [results, Tryz.results19, go_sem, z0, z1, z2, z3, z4, z5, z6, z7, z8, encN, groupNd]) rfl ?_
  exact ⟨⟨groupNd n, none, 0, none, 0⟩, rfl, rfl, ⟨.inl rfl, .inl rfl, fun _ => rfl, fun _ => rfl, Nat.le_refl _, Nat.le_refl _⟩, bl_alloc _ _⟩
set_option maxHeartbeats 1600000 in
set_option maxRecDepth 100000 in
theorem set6_any (n : Int) (w : World) : Calls Tryz.prog 20 #[.int .i64 n] w (NodePost (setNd n) w) := by
  obtain ⟨W2, hW2⟩ : ∃ W, W = (w.alloc (.cells #[.int .u8 2, .slice (some ⟨w.heap.size + 1, 0, none⟩) 1 1, .slice none 0 0, .int .i64 0, .int .i64 0, .int .i64 0, .int .u8 0, .int .u8 0, .bool false] 38)).alloc (.cells #[.int .i64 n, .int .i64 n] 63) := ⟨_, rfl⟩
  have hX : Bx W2 w.heap.size 38 #[.int .u8 2, .slice (some ⟨w.heap.size + 1, 0, none⟩) 1 1, .slice none 0 0, .int .i64 0, .int .i64 0, .int .i64 0, .int .u8 0, .int .u8 0, .bool false] := by rw [hW2]; exact (Bx.new w _ _).below (bl_alloc _ _)
  have hR : Bx W2 (w.heap.size + 1) 63 #[.int .i64 n, .int .i64 n] := by
    have h := Bx.new (w.alloc (.cells #[.int .u8 2, .slice (some ⟨w.heap.size + 1, 0, none⟩) 1 1, .slice none 0 0, .int .i64 0, .int .i64 0, .int .i64 0, .int .u8 0, .int .u8 0, .bool false] 38)) 63 #[.int .i64 n, .int .i64 n]
    rw [World.size_alloc] at h; rw [hW2]; exact h
  have hb2 : Below w.heap.size w W2 := by rw [hW2]; exact bl_trans (bl_alloc _ _) (bl_alloc _ _)
  have HZ := Lib.hid (nine hX)
  have HR := Lib.hid hR
  have HB := Lib.hid hb2
  have HW := Lib.hid hW2
  clear hX hR hb2 hW2
  go_enter Tryz.func20, Tryz.ntmps20
  go_wp2
  rw [← HW.out]
  obtain ⟨z0, z1, z2, z3, z4, z5, z6, z7, z8⟩ := HZ.out
  refine bodyPost_ret (v := .agg (encN ⟨setNd n, some ⟨w.heap.size + 1, 0, none⟩, 1, none, 0⟩).toArray) (by simp [results, Tryz.results20, go_sem, z0, z1, z2, z3, z4, z5, z6, z7, z8, encN, setNd]) rfl ?_
  refine ⟨⟨setNd n, some ⟨w.heap.size + 1, 0, none⟩, 1, none, 0⟩, rfl, rfl, ⟨.inr ⟨w.heap.size + 1, 0, rfl, fun i hi => ?_⟩, .inl rfl, fun h => by simp at h, fun _ => rfl, Nat.le_refl _, Nat.le_refl _⟩, HB.out⟩
  have hi0 : i = 0 := by have : i < 1 := hi; omega
  subst hi0
  exact ⟨HR.out.cell rfl, HR.out.cell rfl⟩
theorem tmod_range (x n : Int) (h : 0 < n) : -n < Int.tmod x n ∧ Int.tmod x n < n := by
  have h1 := Int.tmod_lt_of_pos x h
  refine ⟨?_, h1⟩
  have h2 := Int.tmod_lt_of_pos (-x) h
  rw [Int.neg_tmod] at h2
  omega
set_option maxHeartbeats 800000 in
set_option maxRecDepth 100000 in
theorem pick_any (x : Int) (n : Nat) (w : World) (hn : 0 < n) (hl : n ≤ 1000000000000000) :
    Calls Tryz.prog 12 #[.int .i64 x, .int .i64 (n : Nat)] w fun e w' => ∃ k : Nat, e = .returned (.int .i64 (k : Nat)) ∧ k < n ∧ w = w' := by
  obtain ⟨h1, h2⟩ := tmod_range x n (by omega)
  obtain ⟨y, hy⟩ : ∃ y, y = Int.tmod x n := ⟨_, rfl⟩
  rw [← hy] at h1 h2
  have hn1 : (1 : Int) ≤ n := by omega
  have hnI : (n : Int) ≤ 1000000000000000 := by omega
  have hw : Int.tmod x (n : Nat) = y := hy.symm
  clear hy
  by_cases h : y < 0
  · go_enter Tryz.func12, Tryz.ntmps12
    go_wp2
    go_ret
    refine ⟨(y + n).toNat, ?_, by omega, rfl⟩
    show Ending.returned (Value.int .i64 (y + n)) = _
    rw [show (((y + n).toNat : Nat) : Int) = y + n by omega]
  · have h' : 0 ≤ y := by omega
    go_enter Tryz.func12, Tryz.ntmps12
    go_wp2
    go_ret
    refine ⟨y.toNat, ?_, by omega, rfl⟩
    show Ending.returned (Value.int .i64 y) = _
    rw [show ((y.toNat : Nat) : Int) = y by omega]
end Go.Proofs.YtpiknmnhcpjfaaaGreat
