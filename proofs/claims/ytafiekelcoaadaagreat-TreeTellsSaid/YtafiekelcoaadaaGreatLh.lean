/- The walks of Deep, Of; rows of trees; the walk of Kids. -/
import Derived.Test.YtafiekelcoaadaaGreatLg

namespace Go.Proofs.YtafiekelcoaadaaGreat
open Go.RowKit Tnr Tnt

/-- how deep a tree is. -/
def deepT (ns : List Nd) : Nat := match ordT ns with
  | none => 0
  | some l => (gf l (ns.length - 1)).2
/-- the tree of what a node covers. -/
def ofT (ns : List Nd) (at_ : Int) : List Nd := match ordT ns with
  | none => []
  | some l => if 0 ≤ at_ ∧ at_ < ns.length then covN ns (gf l at_.toNat).1 at_.toNat else []
theorem ordT_len {ns : List Nd} {l : List (Nat × Nat)} (h : ordT ns = some l) : 1 ≤ ns.length ∧ ns.length ≤ 4000 := by
  unfold ordT at h
  by_cases hc : ns.length = 0 ∨ 4000 < ns.length
  · rw [if_pos hc] at h; cases h
  · omega

set_option maxHeartbeats 800000 in
set_option maxRecDepth 100000 in
theorem deepT_any (p : Option Addr) (n c : Nat) (xs : List NV) (names : Value) (w : World) (hn : n = xs.length) (hnm : n ≤ 1000000000) (hp : SlN w p xs) (hf : Few xs) :
    Calls Tryz.prog 15 #[.agg #[.slice p n c, names]] w fun e w' => e = .returned (.int .i64 (deepT (nds xs) : Nat)) ∧ Below w.heap.size w w' := by
  obtain ⟨W1, hW1⟩ : ∃ W, W = w.alloc (.cells #[.slice p n c, names] 25) := ⟨_, rfl⟩
  have hb1 : Below w.heap.size w W1 := by rw [hW1]; exact bl_alloc _ _
  have HO := Lib.hid (ordered_any p n c xs names W1 hn hnm (hp.below hb1) hf)
  have HB1 := Lib.hid hb1
  have HW1 := Lib.hid hW1
  have HN := Lib.hid hn
  clear hp hf hb1 hW1 hn hnm
  go_enter Tryz.func15, Tryz.ntmps15
  go_wp2_with fail
  rw [← HW1.out]
  refine HO.out.mono ?_
  rintro e w5 ⟨hb5, ⟨ho, a0, n0, c0, a1, n1, c1, a2, n2, c2, rfl⟩ | ⟨l, pf, cf, pd, cd, ho, hl, hF, rfl, hfs, hds⟩⟩
  · have HOR := Lib.hid ho
    have HB5 := Lib.hid (bl_trans HB1.out hb5)
    clear ho hb5
    go_wp2
    go_ret
    exact ⟨by unfold deepT; rw [HOR.out]; rfl, bl_trans HB5.out (bl_alloc _ _)⟩
  · obtain ⟨h1, h4⟩ := ordT_len ho
    rw [nds_length, ← HN.out] at h1 h4
    have hba := bl_alloc w5 (.cells #[.slice p n c, .slice pf n cf, .slice pd n cd] 68)
    have HD := Lib.hid (deep_any (.slice p n c) pf pd n cf cd l W1.heap.size (w5.alloc (.cells #[.slice p n c, .slice pf n cf, .slice pd n cd] 68)) hl h1 h4 (ownZ_below hds hba))
    have HB5 := Lib.hid (bl_trans (bl_trans HB1.out hb5) hba)
    have HE : Hid (deepT (nds xs) = (gf l (n - 1)).2) := by show _ = _; unfold deepT; rw [ho]; simp only [nds_length, ← HN.out]
    clear ho hl hF hfs hds hb5 hba h1 h4
    go_wp2_with fail
    refine HD.out.mono ?_
    rintro e w6 ⟨rfl, hb6⟩
    have HB6 := Lib.hid (bl_trans HB5.out hb6)
    clear hb6
    go_wp2
    go_ret
    exact ⟨by rw [HE.out]; rfl, HB6.out⟩

/-- what Of tells. -/
def TreePost (w : World) (L : List Nd) (e : Ending) (w' : World) : Prop :=
  ∃ q m cq ys, m = ys.length ∧ e = .returned (.agg #[.slice q m cq, .slice none 0 0]) ∧ OwnN w' w.heap.size (.slice q m cq) ys ∧ nds ys = L ∧ Below w.heap.size w w'

set_option maxHeartbeats 1600000 in
set_option maxRecDepth 100000 in
theorem of_any (p : Option Addr) (n c : Nat) (xs : List NV) (names : Value) (x : Int) (w : World) (hn : n = xs.length) (hnm : n ≤ 1000000000) (hc : n ≤ c) (hcm : c ≤ 9223372036854775807) (hp : SlN w p xs) (hf : Few xs) :
    Calls Tryz.prog 23 #[.agg #[.slice p n c, names], .int .i64 x] w (TreePost w (ofT (nds xs) x)) := by
  obtain ⟨W2, hW2⟩ : ∃ W, W = (w.alloc (.cells #[.slice p n c, names] 25)).alloc (.cells #[.slice none 0 0, .slice none 0 0] 25) := ⟨_, rfl⟩
  have hb2 : Below w.heap.size w W2 := by rw [hW2]; exact bl_trans (bl_alloc _ _) (bl_alloc _ _)
  have hR : Bx W2 (w.heap.size + 1) 25 #[.slice none 0 0, .slice none 0 0] := by
    have h := Bx.new (w.alloc (.cells #[.slice p n c, names] 25)) 25 #[.slice none 0 0, .slice none 0 0]
    rw [World.size_alloc] at h; rw [hW2]; exact h
  have HO := Lib.hid (ordered_any p n c xs names W2 hn hnm (hp.below hb2) hf)
  have hcc : (w.alloc (.cells #[.slice p n c, names] 25)).heap.size = w.heap.size + 1 := by simp
  have HB2 := Lib.hid hb2
  have HW2 := Lib.hid hW2
  have HR := Lib.hid hR
  have HN := Lib.hid hn
  have HP := Lib.hid hp
  have HF := Lib.hid hf
  have HC := Lib.hid (And.intro hc hcm)
  have hnI : (n : Int) ≤ 1000000000 := by omega
  clear hp hf hb2 hW2 hn hnm hcc hR hc hcm
  go_enter Tryz.func23, Tryz.ntmps23
  go_wp2_with fail
  rw [← HW2.out]
  refine HO.out.mono ?_
  rintro e w5 ⟨hb5, ⟨ho, a0, n0, c0, a1, n1, c1, a2, n2, c2, rfl⟩ | ⟨l, pf, cf, pd, cd, ho, hl, hF, rfl, hfs, hds⟩⟩
  · have hba := bl_alloc w5 (.cells #[.slice a0 n0 c0, .slice a1 n1 c1, .slice a2 n2 c2] 68)
    have hR5 := (HR.out.below hb5).below hba
    have k0 : (w5.alloc (.cells #[.slice a0 n0 c0, .slice a1 n1 c1, .slice a2 n2 c2] 68)).cell? ⟨w.heap.size + 1, 0, none⟩ = some (.slice none 0 0) := hR5.cell rfl
    have k1 : (w5.alloc (.cells #[.slice a0 n0 c0, .slice a1 n1 c1, .slice a2 n2 c2] 68)).cell? ⟨w.heap.size + 1, 1, none⟩ = some (.slice none 0 0) := hR5.cell rfl
    have f0 := hR5.free 0
    have f1 := hR5.free 1
    have HR5 := Lib.hid hR5
    have HE : Hid (ofT (nds xs) x = []) := by show _ = _; unfold ofT; rw [ho]
    have HB5 := Lib.hid (bl_trans (bl_trans HB2.out hb5) hba)
    clear ho hb5 hR5 hba
    go_wp2
    have hR6 := (HR5.out.set 0 (.slice none 0 0)).set 1 (.slice none 0 0)
    have z0 := hR6.cell (i := 0) (v := .slice none 0 0) rfl
    have z1 := hR6.cell (i := 1) (v := .slice none 0 0) rfl
    refine bodyPost_ret (v := .agg #[.slice none 0 0, .slice none 0 0]) (by simp [results, Tryz.results23, go_sem, z0, z1]) rfl ?_
    exact ⟨none, 0, 0, [], rfl, rfl, ownN_nil _ _, by rw [HE.out]; rfl, (HB5.out.setCell (p := ⟨w.heap.size + 1, 0, none⟩) (Nat.le_succ _) _).setCell (p := ⟨w.heap.size + 1, 1, none⟩) (Nat.le_succ _) _⟩
  · obtain ⟨h1, h4⟩ := ordT_len ho
    rw [nds_length, ← HN.out] at h1 h4
    have hba := bl_alloc w5 (.cells #[.slice p n c, .slice pf n cf, .slice pd n cd] 68)
    have hR5 := (HR.out.below hb5).below hba
    have k0 : (w5.alloc (.cells #[.slice p n c, .slice pf n cf, .slice pd n cd] 68)).cell? ⟨w.heap.size + 1, 0, none⟩ = some (.slice none 0 0) := hR5.cell rfl
    have k1 : (w5.alloc (.cells #[.slice p n c, .slice pf n cf, .slice pd n cd] 68)).cell? ⟨w.heap.size + 1, 1, none⟩ = some (.slice none 0 0) := hR5.cell rfl
    have f0 := hR5.free 0
    have f1 := hR5.free 1
    have HR5 := Lib.hid hR5
    have HB5 := Lib.hid (bl_trans (bl_trans HB2.out hb5) hba)
    by_cases hx : 0 ≤ x ∧ x < (n : Int)
    · obtain ⟨k, rfl⟩ : ∃ k : Nat, x = (k : Nat) := ⟨x.toNat, by omega⟩
      have hkn : k < n := by omega
      have hkI : (k : Int) < n := by omega
      have hk0 : (decide (((k : Nat) : Int) < 0)) = false := by rw [decide_eq_false_iff_not]; omega
      have hkg : (decide ((n : Int) ≤ ((k : Nat) : Int))) = false := by rw [decide_eq_false_iff_not]; omega
      have HE : Hid (ofT (nds xs) (k : Nat) = covN (nds xs) (gf l k).1 k) := by
        show _ = _
        unfold ofT
        rw [ho]
        simp only [nds_length, ← HN.out, if_pos hx, Int.toNat_natCast]
      have HCV := Lib.hid (covered_any p pf pd n c cf cd k xs l W2.heap.size (w5.alloc (.cells #[.slice p n c, .slice pf n cf, .slice pd n cd] 68)) HN.out hl h4 HC.out.1 HC.out.2 hkn hF ((HP.out.below (bl_trans HB2.out hb5)).below hba) HF.out (ownZ_below hfs hba))
      clear ho hl hF hfs hds hb5 hba h1 h4 hR5 hx hkn
      go_wp2_with fail
      refine HCV.out.mono ?_
      rintro e w6 ⟨q, m, cq, ys, hm6, rfl, ho6, hy6, hb6⟩
      have hR6 := HR5.out.below hb6
      have j0 : w6.cell? ⟨w.heap.size + 1, 0, none⟩ = some (.slice none 0 0) := hR6.cell rfl
      have j1 : w6.cell? ⟨w.heap.size + 1, 1, none⟩ = some (.slice none 0 0) := hR6.cell rfl
      have g0 := hR6.free 0
      have g1 := hR6.free 1
      have HR6 := Lib.hid hR6
      have HO6 := Lib.hid (ho6.down HB5.out.size)
      have HM6 := Lib.hid (And.intro hm6 hy6)
      have HB6 := Lib.hid (bl_trans HB5.out hb6)
      clear hR6 ho6 hm6 hy6 hb6 k0 k1 f0 f1
      go_wp2
      have hR7 := (HR6.out.set 0 (.slice q m cq)).set 1 (.slice none 0 0)
      have z0 := hR7.cell (i := 0) (v := .slice q m cq) rfl
      have z1 := hR7.cell (i := 1) (v := .slice none 0 0) rfl
      refine bodyPost_ret (v := .agg #[.slice q m cq, .slice none 0 0]) (by simp [results, Tryz.results23, go_sem, z0, z1]) rfl ?_
      refine ⟨q, m, cq, ys, HM6.out.1, rfl, ?_, by rw [HE.out]; exact HM6.out.2, (HB6.out.setCell (p := ⟨w.heap.size + 1, 0, none⟩) (Nat.le_succ _) _).setCell (p := ⟨w.heap.size + 1, 1, none⟩) (Nat.le_succ _) _⟩
      exact (HO6.out.other HR6.out (by decide) (by decide) (by decide) 0 (.slice q m cq)).other (HR6.out.set 0 (.slice q m cq)) (by decide) (by decide) (by decide) 1 (.slice none 0 0)
    · have HE : Hid (ofT (nds xs) x = []) := by
        show _ = _
        unfold ofT
        rw [ho]
        simp only [nds_length, ← HN.out, if_neg hx]
      by_cases hx0 : x < 0
      · have hk0 : (decide (x < 0)) = true := by rw [decide_eq_true_eq]; exact hx0
        clear ho hl hF hfs hds hb5 hba h1 h4 hR5 hx hx0
        go_wp2
        have hR6 := (HR5.out.set 0 (.slice none 0 0)).set 1 (.slice none 0 0)
        have z0 := hR6.cell (i := 0) (v := .slice none 0 0) rfl
        have z1 := hR6.cell (i := 1) (v := .slice none 0 0) rfl
        refine bodyPost_ret (v := .agg #[.slice none 0 0, .slice none 0 0]) (by simp [results, Tryz.results23, go_sem, z0, z1]) rfl ?_
        exact ⟨none, 0, 0, [], rfl, rfl, ownN_nil _ _, by rw [HE.out]; rfl, (HB5.out.setCell (p := ⟨w.heap.size + 1, 0, none⟩) (Nat.le_succ _) _).setCell (p := ⟨w.heap.size + 1, 1, none⟩) (Nat.le_succ _) _⟩
      · have hk0 : (decide (x < 0)) = false := by rw [decide_eq_false_iff_not]; exact hx0
        have hkg : (decide ((n : Int) ≤ x)) = true := by rw [decide_eq_true_eq]; omega
        clear ho hl hF hfs hds hb5 hba h1 h4 hR5 hx hx0
        go_wp2
        have hR6 := (HR5.out.set 0 (.slice none 0 0)).set 1 (.slice none 0 0)
        have z0 := hR6.cell (i := 0) (v := .slice none 0 0) rfl
        have z1 := hR6.cell (i := 1) (v := .slice none 0 0) rfl
        refine bodyPost_ret (v := .agg #[.slice none 0 0, .slice none 0 0]) (by simp [results, Tryz.results23, go_sem, z0, z1]) rfl ?_
        exact ⟨none, 0, 0, [], rfl, rfl, ownN_nil _ _, by rw [HE.out]; rfl, (HB5.out.setCell (p := ⟨w.heap.size + 1, 0, none⟩) (Nat.le_succ _) _).setCell (p := ⟨w.heap.size + 1, 1, none⟩) (Nat.le_succ _) _⟩
end Go.Proofs.YtafiekelcoaadaaGreat
