import Derived.Test.YtkefndfgkmdphaaGreatFi
import Derived.Test.YtkefndfgkmdphaaGreatLg

namespace Go.Proofs.YtkefndfgkmdphaaGreat
set_option maxHeartbeats 1600000
set_option maxRecDepth 100000
open Go.RowKit Tnr Tnt

def deepT (ns : List Nd) : Nat := match ordT ns with
 | none => 0
 | some l => (gf l (ns.length - 1)).2
def ofT (ns : List Nd) (at_ : Int) : List Nd := match ordT ns with
 | none => []
 | some l => if 0 ≤ at_ ∧ at_ < ns.length then covN ns (gf l at_.toNat).1 at_.toNat else []
theorem ordT_len {ns : List Nd} {l : List (Nat × Nat)} (h : ordT ns = some l) : 1 ≤ ns.length ∧ ns.length ≤ 4000 := by
 unfold ordT at h
 by_cases hc : ns.length = 0 ∨ 4000 < ns.length
 ·rw [if_pos hc] at h; cases h
 ·omega

theorem deepT_any (p : Option Addr) (n c : Nat) (xs : List NV) (names : Value) (w : World) (hn : n = xs.length) (hnm : n ≤ 1000000000) (hp : SlN w p xs) (hf : Few xs) :
  Calls Tryz.prog 31 #[.agg #[.slice p n c, names]] w fun e w' => e = .returned (.int .i64 (deepT (nds xs) : Nat)) ∧ Below w.heap.size w w' := by
 obtain ⟨W1, hW1⟩ : ∃ W, W = w.alloc (.cells #[.slice p n c, names] 34) := ⟨_, rfl⟩
 have hb1 : Below w.heap.size w W1 := by rw [hW1]; exact bl_alloc _ _
 have HO := lh (ordered_any p n c xs names W1 hn hnm (hp.below hb1) hf)
 have HB1 := lh hb1
 have HW1 := lh hW1
 have HN := lh hn
 clear hp hf hb1 hW1 hn hnm
 go_enter Tryz.func31, Tryz.ntmps31
 go_wp2_with fail
 rw [← HW1.out]
 refine HO.out.mono ?_
 rintro e w5 ⟨hb5, ⟨ho, a0, n0, c0, a1, n1, c1, a2, n2, c2, rfl⟩ | ⟨l, pf, cf, pd, cd, ho, hl, hF, rfl, hfs, hds⟩⟩
 ·have HOR := lh ho
  have HB5 := lh (bl_trans HB1.out hb5)
  clear ho hb5
  go_wp2
  go_ret
  exact ⟨by unfold deepT; rw [HOR.out]; rfl, bl_trans HB5.out (bl_alloc _ _)⟩
 ·obtain ⟨h1, h4⟩ := ordT_len ho
  rw [nds_length, ← HN.out] at h1 h4
  have hba := bl_alloc w5 (.cells #[.slice p n c, .slice pf n cf, .slice pd n cd] 66)
  have HD := lh (deep_any (.slice p n c) pf pd n cf cd l W1.heap.size (w5.alloc (.cells #[.slice p n c, .slice pf n cf, .slice pd n cd] 66)) hl h1 h4 (ownZ_below hds hba))
  have HB5 := lh (bl_trans (bl_trans HB1.out hb5) hba)
  have HE : Hid (deepT (nds xs) = (gf l (n - 1)).2) := by show _ = _; unfold deepT; rw [ho]; simp only [nds_length, ← HN.out]
  clear ho hl hF hfs hds hb5 hba h1 h4
  go_wp2_with fail
  refine HD.out.mono ?_
  rintro e w6 ⟨rfl, hb6⟩
  have HB6 := lh (bl_trans HB5.out hb6)
  clear hb6
  go_wp2
  go_ret
  exact ⟨by rw [HE.out]; rfl, HB6.out⟩

def TreePost (w : World) (L : List Nd) (e : Ending) (w' : World) : Prop :=
 ∃ q m cq ys, m = ys.length ∧ e = .returned (.agg #[.slice q m cq, .slice none 0 0]) ∧ OwnN w' w.heap.size (.slice q m cq) ys ∧ nds ys = L ∧ Below w.heap.size w w'

def TreeUp (w : World) (L : List Nd) (e : Ending) (w' : World) : Prop :=
 ∃ q m cq ys, m = ys.length ∧ e = .returned (.agg #[.slice q m cq, .slice none 0 0]) ∧ OwnN w' w.heap.size (.slice q m cq) ys ∧ nds ys = L ∧ Below w.heap.size w w' ∧ DisN ys
theorem TreeUp.post {w w' : World} {L : List Nd} {e : Ending} : TreeUp w L e w' → TreePost w L e w' := fun ⟨q, m, cq, ys, h1, h2, h3, h4, h5, _⟩ => ⟨q, m, cq, ys, h1, h2, h3, h4, h5⟩

theorem of_up (p : Option Addr) (n c : Nat) (xs : List NV) (names : Value) (x : Int) (w : World) (hn : n = xs.length) (hnm : n ≤ 1000000000) (hc : n ≤ c) (hcm : c ≤ 9223372036854775807) (hp : SlN w p xs) (hf : Few xs) :
  Calls Tryz.prog 12 #[.agg #[.slice p n c, names], .int .i64 x] w (TreeUp w (ofT (nds xs) x)) := by
 obtain ⟨W2, hW2⟩ : ∃ W, W = (w.alloc (.cells #[.slice p n c, names] 34)).alloc (.cells #[.slice none 0 0, .slice none 0 0] 34) := ⟨_, rfl⟩
 have hb2 : Below w.heap.size w W2 := by rw [hW2]; exact bl_trans (bl_alloc _ _) (bl_alloc _ _)
 have hR : Bx W2 (w.heap.size + 1) 34 #[.slice none 0 0, .slice none 0 0] := by
  have h := Bx.new (w.alloc (.cells #[.slice p n c, names] 34)) 34 #[.slice none 0 0, .slice none 0 0]
  rw [World.size_alloc] at h; rw [hW2]; exact h
 have HO := lh (ordered_any p n c xs names W2 hn hnm (hp.below hb2) hf)
 have hcc : (w.alloc (.cells #[.slice p n c, names] 34)).heap.size = w.heap.size + 1 := by simp
 have HB2 := lh hb2
 have HW2 := lh hW2
 have HR := lh hR
 have HN := lh hn
 have HP := lh hp
 have HF := lh hf
 have HC := lh (And.intro hc hcm)
 have hnI : (n : Int) ≤ 1000000000 := by omega
 clear hp hf hb2 hW2 hn hnm hcc hR hc hcm
 go_enter Tryz.func12, Tryz.ntmps12
 go_wp2_with fail
 rw [← HW2.out]
 refine HO.out.mono ?_
 rintro e w5 ⟨hb5, ⟨ho, a0, n0, c0, a1, n1, c1, a2, n2, c2, rfl⟩ | ⟨l, pf, cf, pd, cd, ho, hl, hF, rfl, hfs, hds⟩⟩
 ·have hba := bl_alloc w5 (.cells #[.slice a0 n0 c0, .slice a1 n1 c1, .slice a2 n2 c2] 66)
  have hR5 := (HR.out.below hb5).below hba
  have k0 : (w5.alloc (.cells #[.slice a0 n0 c0, .slice a1 n1 c1, .slice a2 n2 c2] 66)).cell? ⟨w.heap.size + 1, 0, none⟩ = some (.slice none 0 0) := hR5.cell rfl
  have k1 : (w5.alloc (.cells #[.slice a0 n0 c0, .slice a1 n1 c1, .slice a2 n2 c2] 66)).cell? ⟨w.heap.size + 1, 1, none⟩ = some (.slice none 0 0) := hR5.cell rfl
  have f0 := hR5.free 0
  have f1 := hR5.free 1
  have HR5 := lh hR5
  have HE : Hid (ofT (nds xs) x = []) := by show _ = _; unfold ofT; rw [ho]
  have HB5 := lh (bl_trans (bl_trans HB2.out hb5) hba)
  clear ho hb5 hR5 hba
  go_wp2
  have hR6 := (HR5.out.set 0 (.slice none 0 0)).set 1 (.slice none 0 0)
  have z0 := hR6.cell (i := 0) (v := .slice none 0 0) rfl
  have z1 := hR6.cell (i := 1) (v := .slice none 0 0) rfl
  refine bodyPost_ret (v := .agg #[.slice none 0 0, .slice none 0 0]) (by simp [results, Tryz.results12, go_sem, z0, z1]) rfl ?_
  exact ⟨none, 0, 0, [], rfl, rfl, ownN_nil _ _, by rw [HE.out]; rfl, (HB5.out.setCell (p := ⟨w.heap.size + 1, 0, none⟩) (Nat.le_succ _) _).setCell (p := ⟨w.heap.size + 1, 1, none⟩) (Nat.le_succ _) _, List.Pairwise.nil⟩
 ·obtain ⟨h1, h4⟩ := ordT_len ho
  rw [nds_length, ← HN.out] at h1 h4
  have hba := bl_alloc w5 (.cells #[.slice p n c, .slice pf n cf, .slice pd n cd] 66)
  have hR5 := (HR.out.below hb5).below hba
  have k0 : (w5.alloc (.cells #[.slice p n c, .slice pf n cf, .slice pd n cd] 66)).cell? ⟨w.heap.size + 1, 0, none⟩ = some (.slice none 0 0) := hR5.cell rfl
  have k1 : (w5.alloc (.cells #[.slice p n c, .slice pf n cf, .slice pd n cd] 66)).cell? ⟨w.heap.size + 1, 1, none⟩ = some (.slice none 0 0) := hR5.cell rfl
  have f0 := hR5.free 0
  have f1 := hR5.free 1
  have HR5 := lh hR5
  have HB5 := lh (bl_trans (bl_trans HB2.out hb5) hba)
  by_cases hx : 0 ≤ x ∧ x < (n : Int)
  ·obtain ⟨k, rfl⟩ : ∃ k : Nat, x = (k : Nat) := ⟨x.toNat, by omega⟩
   have hkn : k < n := by omega
   have hkI : (k : Int) < n := by omega
   have hk0 : (decide (((k : Nat) : Int) < 0)) = false := by rw [decide_eq_false_iff_not]; omega
   have hkg : (decide ((n : Int) ≤ ((k : Nat) : Int))) = false := by rw [decide_eq_false_iff_not]; omega
   have HE : Hid (ofT (nds xs) (k : Nat) = covN (nds xs) (gf l k).1 k) := by
    show _ = _
    unfold ofT
    rw [ho]
    simp only [nds_length, ← HN.out, if_pos hx, Int.toNat_natCast]
   have HCV := lh (covered_up p pf pd n c cf cd k xs l W2.heap.size (w5.alloc (.cells #[.slice p n c, .slice pf n cf, .slice pd n cd] 66)) HN.out hl h4 HC.out.1 HC.out.2 hkn hF ((HP.out.below (bl_trans HB2.out hb5)).below hba) HF.out (ownZ_below hfs hba))
   clear ho hl hF hfs hds hb5 hba h1 h4 hR5 hx hkn
   go_wp2_with fail
   refine HCV.out.mono ?_
   rintro e w6 ⟨q, m, cq, ys, hm6, rfl, ho6, hy6, hb6, hd6⟩
   have HD6 := lh hd6
   clear hd6
   have hR6 := HR5.out.below hb6
   have j0 : w6.cell? ⟨w.heap.size + 1, 0, none⟩ = some (.slice none 0 0) := hR6.cell rfl
   have j1 : w6.cell? ⟨w.heap.size + 1, 1, none⟩ = some (.slice none 0 0) := hR6.cell rfl
   have g0 := hR6.free 0
   have g1 := hR6.free 1
   have HR6 := lh hR6
   have HO6 := lh (ho6.down HB5.out.size)
   have HM6 := lh (And.intro hm6 hy6)
   have HB6 := lh (bl_trans HB5.out hb6)
   clear hR6 ho6 hm6 hy6 hb6 k0 k1 f0 f1
   go_wp2
   have hR7 := (HR6.out.set 0 (.slice q m cq)).set 1 (.slice none 0 0)
   have z0 := hR7.cell (i := 0) (v := .slice q m cq) rfl
   have z1 := hR7.cell (i := 1) (v := .slice none 0 0) rfl
   refine bodyPost_ret (v := .agg #[.slice q m cq, .slice none 0 0]) (by simp [results, Tryz.results12, go_sem, z0, z1]) rfl ?_
   refine ⟨q, m, cq, ys, HM6.out.1, rfl, ?_, by rw [HE.out]; exact HM6.out.2, (HB6.out.setCell (p := ⟨w.heap.size + 1, 0, none⟩) (Nat.le_succ _) _).setCell (p := ⟨w.heap.size + 1, 1, none⟩) (Nat.le_succ _) _, HD6.out⟩
   exact (HO6.out.other HR6.out (by decide) (by decide) (by decide) 0 (.slice q m cq)).other (HR6.out.set 0 (.slice q m cq)) (by decide) (by decide) (by decide) 1 (.slice none 0 0)
  ·have HE : Hid (ofT (nds xs) x = []) := by
    show _ = _
    unfold ofT
    rw [ho]
    simp only [nds_length, ← HN.out, if_neg hx]
   by_cases hx0 : x < 0
   ·have hk0 : (decide (x < 0)) = true := by rw [decide_eq_true_eq]; exact hx0
    clear ho hl hF hfs hds hb5 hba h1 h4 hR5 hx hx0
    go_wp2
    have hR6 := (HR5.out.set 0 (.slice none 0 0)).set 1 (.slice none 0 0)
    have z0 := hR6.cell (i := 0) (v := .slice none 0 0) rfl
    have z1 := hR6.cell (i := 1) (v := .slice none 0 0) rfl
    refine bodyPost_ret (v := .agg #[.slice none 0 0, .slice none 0 0]) (by simp [results, Tryz.results12, go_sem, z0, z1]) rfl ?_
    exact ⟨none, 0, 0, [], rfl, rfl, ownN_nil _ _, by rw [HE.out]; rfl, (HB5.out.setCell (p := ⟨w.heap.size + 1, 0, none⟩) (Nat.le_succ _) _).setCell (p := ⟨w.heap.size + 1, 1, none⟩) (Nat.le_succ _) _, List.Pairwise.nil⟩
   ·have hk0 : (decide (x < 0)) = false := by rw [decide_eq_false_iff_not]; exact hx0
    have hkg : (decide ((n : Int) ≤ x)) = true := by rw [decide_eq_true_eq]; omega
    clear ho hl hF hfs hds hb5 hba h1 h4 hR5 hx hx0
    go_wp2
    have hR6 := (HR5.out.set 0 (.slice none 0 0)).set 1 (.slice none 0 0)
    have z0 := hR6.cell (i := 0) (v := .slice none 0 0) rfl
    have z1 := hR6.cell (i := 1) (v := .slice none 0 0) rfl
    refine bodyPost_ret (v := .agg #[.slice none 0 0, .slice none 0 0]) (by simp [results, Tryz.results12, go_sem, z0, z1]) rfl ?_
    exact ⟨none, 0, 0, [], rfl, rfl, ownN_nil _ _, by rw [HE.out]; rfl, (HB5.out.setCell (p := ⟨w.heap.size + 1, 0, none⟩) (Nat.le_succ _) _).setCell (p := ⟨w.heap.size + 1, 1, none⟩) (Nat.le_succ _) _, List.Pairwise.nil⟩
end Go.Proofs.YtkefndfgkmdphaaGreat


namespace Go.Proofs.YtkefndfgkmdphaaGreat
open Go.RowKit Tnr Tnt

theorem rk_cons (F : Nat → Nat × Nat) (k : Int) (ks : List Int) (f d : Nat) : rk F (k :: ks) f d = if f = 0 ∨ k ≠ (f : Int) - 1 then none else rk F ks (F (f - 1)).1 (max d (F (f - 1)).2) := rfl
theorem rk_congr {F G : Nat → Nat × Nat} : ∀ {ks : List Int} {f d : Nat}, (∀ j, j < f → F j = G j) → (∀ j, j < f → (F j).1 ≤ j) → rk F ks f d = rk G ks f d
 | [], _, _, _, _ => rfl
 | k :: ks, f, d, h, hl => by
  rw [rk_cons, rk_cons]
  by_cases hc : f = 0 ∨ k ≠ (f : Int) - 1
  ·rw [if_pos hc, if_pos hc]
  ·rw [if_neg hc, if_neg hc, h (f - 1) (by omega)]
   have h1 := hl (f - 1) (by omega)
   rw [h (f - 1) (by omega)] at h1
   exact rk_congr (fun j hj => h j (by omega)) (fun j hj => hl j (by omega))
theorem rk_mem {F : Nat → Nat × Nat} : ∀ {ks : List Int} {f d f1 d1 : Nat}, (∀ j, j < f → (F j).1 ≤ j) → rk F ks f d = some (f1, d1) → ∀ k ∈ ks, 0 ≤ k ∧ k < (f : Int)
 | [], _, _, _, _, _, _ => fun k h => by simp at h
 | x :: ks, f, d, f1, d1, hl, h => by
  rw [rk_cons] at h
  by_cases hc : f = 0 ∨ x ≠ (f : Int) - 1
  ·rw [if_pos hc] at h; cases h
  ·rw [if_neg hc] at h
   have h1 := hl (f - 1) (by omega)
   intro k hk
   rcases List.mem_cons.1 hk with rfl | hk
   ·omega
   ·have := rk_mem (fun j hj => hl j (by omega)) h k hk
    omega
def OrdOk (ns : List Nd) (l : List (Nat × Nat)) : Prop :=
 l.length = ns.length ∧ FOk (gf l) ns.length ∧ ∀ i (h : i < ns.length), ∃ d, rk (gf l) ns[i].kids.reverse i 0 = some ((gf l i).1, d) ∧ (gf l i).2 = d + 1
theorem gf_append_lt {l m : List (Nat × Nat)} {i : Nat} (h : i < l.length) : gf (l ++ m) i = gf l i := by
 unfold gf
 rw [List.getD_eq_getElem?_getD, List.getD_eq_getElem?_getD, List.getElem?_append_left h]
theorem ordG_spec : ∀ (ns : List Nd) (acc l : List (Nat × Nat)), FOk (gf acc) acc.length → ordG ns acc = some l →
  (∃ m, l = acc ++ m) ∧ l.length = acc.length + ns.length ∧ FOk (gf l) l.length ∧ ∀ i (h : i < ns.length), ∃ d, rk (gf l) ns[i].kids.reverse (acc.length + i) 0 = some ((gf l (acc.length + i)).1, d) ∧ (gf l (acc.length + i)).2 = d + 1
 | [], acc, l, hF, h => by
  simp only [ordG, Option.some.injEq] at h
  subst h
  exact ⟨⟨[], by simp⟩, by simp, hF, fun i h => by simp at h⟩
 | n :: ns, acc, l, hF, h => by
  cases hr : rk (gf acc) n.kids.reverse acc.length 0 with
  | none => rw [ordG_none hr] at h; cases h
  | some x =>
   obtain ⟨f, d⟩ := x
   rw [ordG_cons hr] at h
   obtain ⟨h1, h2⟩ := rk_le hF (Nat.le_refl _) (Nat.zero_le _) hr
   have hF2 := fok_snoc rfl hF h1 h2
   obtain ⟨⟨m, hm⟩, hlen, hF3, hall⟩ := ordG_spec ns (acc ++ [(f, d + 1)]) l (by rw [List.length_append]; exact hF2) h
   have hlt : ∀ j, j < acc.length → gf l j = gf acc j := fun j hj => by rw [hm, List.append_assoc, gf_append_lt hj]
   have heq : gf l acc.length = (f, d + 1) := by
    rw [hm, gf_append_lt (by rw [List.length_append]; simp), gf_snoc_eq]
   refine ⟨⟨(f, d + 1) :: m, by rw [hm, List.append_assoc]; rfl⟩, by rw [hlen, List.length_append]; simp; omega, hF3, fun i hi => ?_⟩
   cases i with
   | zero =>
    refine ⟨d, ?_, by rw [Nat.add_zero, heq]⟩
    rw [Nat.add_zero, heq]
    rw [← hr]
    exact (rk_congr (fun j hj => (hlt j hj).symm) (fun j hj => (hF j hj).1)).symm
   | succ i =>
    obtain ⟨d2, h3, h4⟩ := hall i (by simpa using hi)
    rw [List.length_append, show acc.length + [(f, d + 1)].length + i = acc.length + (i + 1) by simp; omega] at h3 h4
    exact ⟨d2, h3, h4⟩
theorem ordT_ok {ns : List Nd} {l : List (Nat × Nat)} (h : ordT ns = some l) : OrdOk ns l ∧ (gf l (ns.length - 1)).1 = 0 ∧ 1 ≤ ns.length ∧ ns.length ≤ 4000 := by
 have hlen := ordT_len h
 unfold ordT at h
 rw [if_neg (by omega)] at h
 cases hg : ordG ns [] with
 | none => rw [hg] at h; cases h
 | some m =>
  rw [hg] at h
  simp only at h
  by_cases h0 : (gf m (ns.length - 1)).1 = 0
  ·rw [if_pos h0] at h
   simp only [Option.some.injEq] at h
   subst h
   obtain ⟨_, h2, h3, h4⟩ := ordG_spec ns [] m (fun j hj => absurd hj (Nat.not_lt_zero _)) hg
   rw [List.length_nil, Nat.zero_add] at h2
   refine ⟨⟨h2, by rw [h2] at h3; exact h3, fun i hi => ?_⟩, h0, hlen⟩
   obtain ⟨d, h5, h6⟩ := h4 i hi
   rw [List.length_nil, Nat.zero_add] at h5 h6
   exact ⟨d, h5, h6⟩
  ·rw [if_neg h0] at h; cases h
theorem ordOk_kid {ns : List Nd} {l : List (Nat × Nat)} (h : OrdOk ns l) {i : Nat} (hi : i < ns.length) : ∀ k ∈ ns[i].kids, 0 ≤ k ∧ k < (i : Int) := by
 obtain ⟨d, h1, _⟩ := h.2.2 i hi
 have := rk_mem (fun j hj => (h.2.1 j (by omega)).1) h1
 intro k hk
 exact this k (by simpa using hk)
end Go.Proofs.YtkefndfgkmdphaaGreat


namespace Go.Proofs.YtkefndfgkmdphaaGreat
set_option maxHeartbeats 3200000
set_option maxRecDepth 100000
open Go.RowKit Tnr Tnt

structure TV where
 q : Option Addr
 cq : Nat
 na : Option Addr
 nn : Nat
 nc : Nat
 ys : List NV
def tv0 : TV := ⟨none, 0, none, 0, 0, []⟩
def encT (t : TV) : List Value := [.slice t.q t.ys.length t.cq, .slice t.na t.nn t.nc]
def gt (l : List TV) (i : Nat) : TV := l.getD i tv0
theorem gt_get {l : List TV} {i : Nat} (h : i < l.length) : gt l i = l[i] := by
 unfold gt
 rw [List.getD_eq_getElem?_getD, List.getElem?_eq_getElem h]; rfl
theorem gt_mem {l : List TV} {k : Nat} (h : k < l.length) : gt l k ∈ l := by rw [gt_get h]; exact List.getElem_mem h
theorem drop_gt {l : List TV} {k : Nat} (h : k < l.length) : l.drop k = gt l k :: l.drop (k + 1) := by
 rw [gt_get h]; exact List.drop_eq_getElem_cons h
theorem take_gt {l : List TV} {k : Nat} (h : k < l.length) : l.take (k + 1) = l.take k ++ [gt l k] := by
 rw [List.take_add_one, List.getElem?_eq_getElem h, gt_get h]; rfl
structure TreeIn (w : World) (t : TV) : Prop where
 nodes : SlN w t.q t.ys
 nil : t.q = none → t.cq = 0
 le : t.ys.length ≤ t.cq
 max : t.cq ≤ 9223372036854775807
theorem TreeIn.below {w w' : World} {t : TV} (h : TreeIn w t) (hb : Below w.heap.size w w') : TreeIn w' t := ⟨h.nodes.below hb, h.nil, h.le, h.max⟩
theorem encT_at : ∀ (l : List TV) (i : Nat), i < l.length → (l.flatMap encT)[i * 2]? = some (.slice (gt l i).q (gt l i).ys.length (gt l i).cq) ∧ (l.flatMap encT)[i * 2 + 1]? = some (.slice (gt l i).na (gt l i).nn (gt l i).nc)
 | [], i, h => by simp at h
 | a :: l, 0, _ => ⟨rfl, rfl⟩
 | a :: l, i + 1, h => by
  have := encT_at l i (by simpa using h)
  rw [List.flatMap_cons, show (i + 1) * 2 = i * 2 + 2 by omega]
  exact this
structure SlT (w : World) (p : Option Addr) (ts : List TV) : Prop where
 all : ∀ t ∈ ts, TreeIn w t
 cells : ts = [] ∨ ∃ b off, p = some ⟨b, off, none⟩ ∧ ∀ i, i < ts.length → w.cell? ⟨b, off + i * 2, none⟩ = some (.slice (gt ts i).q (gt ts i).ys.length (gt ts i).cq) ∧ w.cell? ⟨b, off + i * 2 + 1, none⟩ = some (.slice (gt ts i).na (gt ts i).nn (gt ts i).nc)
theorem SlT.below {w w' : World} {p : Option Addr} {ts : List TV} (h : SlT w p ts) (hb : Below w.heap.size w w') : SlT w' p ts := by
 refine ⟨fun t ht => (h.all t ht).below hb, ?_⟩
 rcases h.cells with h0 | ⟨b, off, h1, h2⟩
 ·exact .inl h0
 ·refine .inr ⟨b, off, h1, fun i hi => ?_⟩
  obtain ⟨c1, c2⟩ := h2 i hi
  exact ⟨by rw [hb.cell (World.block_lt_of_cell? w _ c1)]; exact c1, by rw [hb.cell (World.block_lt_of_cell? w _ c2)]; exact c2⟩
theorem SlT.at {w : World} {p : Option Addr} {ts : List TV} (h : SlT w p ts) {k : Nat} (hk : k < ts.length) : ∃ b off, p = some ⟨b, off, none⟩ ∧ w.cell? ⟨b, off + k * 2, none⟩ = some (.slice (gt ts k).q (gt ts k).ys.length (gt ts k).cq) ∧ w.cell? ⟨b, off + k * 2 + 1, none⟩ = some (.slice (gt ts k).na (gt ts k).nn (gt ts k).nc) ∧ TreeIn w (gt ts k) := by
 rcases h.cells with h0 | ⟨b, off, h1, h2⟩
 ·rw [h0] at hk; simp at hk
 ·obtain ⟨c1, c2⟩ := h2 k hk
  exact ⟨b, off, h1, c1, c2, h.all _ (gt_mem hk)⟩
structure OwnT (w : World) (B : Nat) (v : Value) (ts : List TV) : Prop where
 row : w.ownsRow B 34 2 v ts.length (ts.flatMap encT)
 all : ∀ t ∈ ts, OwnN w B (.slice t.q t.ys.length t.cq) t.ys
theorem OwnT.below {w w' : World} {B : Nat} {v : Value} {ts : List TV} (h : OwnT w B v ts) (hb : Below w.heap.size w w') : OwnT w' B v ts :=
 ⟨row_below h.row hb, fun t ht => (h.all t ht).below hb⟩
theorem OwnT.down {w : World} {B B' : Nat} {v : Value} {ts : List TV} (h : OwnT w B v ts) (hB : B' ≤ B) : OwnT w B' v ts :=
 ⟨World.ownsRow.mono h.row hB, fun t ht => (h.all t ht).down hB⟩
theorem ownT_nil (w : World) (B : Nat) : OwnT w B (.slice none 0 0) [] := ⟨World.ownsRow_nil w B _ 2, fun _ h => by simp at h⟩
theorem treeIn_own {w : World} {B : Nat} {t : TV} (h : OwnN w B (.slice t.q t.ys.length t.cq) t.ys) : TreeIn w t := by
 obtain ⟨p, c, e, h1, h2, h3, h4⟩ := h.form
 simp only [Value.slice.injEq, true_and] at e
 obtain ⟨rfl, rfl⟩ := e
 exact ⟨h4, h3, h1, h2⟩
theorem OwnT.form {w : World} {B : Nat} {v : Value} {ts : List TV} (h : OwnT w B v ts) : ∃ p c, v = .slice p ts.length c ∧ ts.length ≤ c ∧ c ≤ 9223372036854775807 ∧ (p = none → c = 0) ∧ SlT w p ts := by
 have hall : ∀ t ∈ ts, TreeIn w t := fun t ht => treeIn_own (h.all t ht)
 have h' := h.row
 rcases h.row.2 with ⟨rfl, hn⟩ | ⟨g, cap, cur, rfl, hb, hg, hnc, hcm, hcs, htake⟩
 ·have hl : ts = [] := List.eq_nil_of_length_eq_zero hn
  subst hl
  exact ⟨none, 0, rfl, by simp, by omega, fun _ => rfl, hall, .inl rfl⟩
 ·refine ⟨some ⟨g, 0, none⟩, cap, rfl, hnc, by simpa [maxLen] using hcm, by simp, hall, .inr ⟨g, 0, rfl, fun i hi => ?_⟩⟩
  obtain ⟨e1, e2⟩ := encT_at ts i hi
  rw [Nat.zero_add, h'.cellAt (i * 2) (by omega), h'.cellAt (i * 2 + 1) (by omega)]
  exact ⟨e1, e2⟩
theorem info_tree : (Tryz.prog.info? 34).map (fun i => (i.zero, i.size, i.bytes)) = some (some (.agg #[.slice none 0 0, .slice none 0 0]), 2, 48) := by kernel_rfl
theorem OwnN.beside {w w' : World} {B n z : Nat} {T : TypeId} {u v : Value} {xs : List NV} {us : List Value} (h : OwnN w B v xs) (ho : w.ownsRow B T z u n us) (hg : w.grownBy w' u.ownBlock) (h1 : T ≠ 28) (h2 : T ≠ 63) (h3 : T ≠ 3) : OwnN w' B v xs := by
 have kept : ∀ {T' : TypeId} {z' n' : Nat} {v' : Value} {xs' : List Value}, T ≠ T' → w.ownsRow B T' z' v' n' xs' → w'.ownsRow B T' z' v' n' xs' := fun {T' z' n' v' xs'} hT hr => by
  refine World.ownsRow.kept hr hg ?_
  rcases ho.2 with ⟨rfl, _⟩ | ⟨g, cap, cur, rfl, _, hh, _⟩
  ·rcases hv : v'.ownBlock with _ | g2
   ·exact .inl rfl
   ·exact .inr (by simp [Value.ownBlock])
  ·exact .inr (row_ne hr hh hT)
 exact ⟨kept h1 h.row, fun x hx => kept h2 (h.set x hx), fun x hx => kept h3 (h.kids x hx)⟩
theorem OwnT.more {w w' : World} {B n : Nat} {v v' : Value} {ts : List TV} {t : TV} (h : OwnT w B v ts) (hn : n = ts.length) (ht : OwnN w B (.slice t.q t.ys.length t.cq) t.ys)
  (hown : w'.ownsRow B 34 2 v' (n + 1) (ts.flatMap encT ++ encT t)) (hg : w.grownBy w' v.ownBlock) : OwnT w' B v' (ts ++ [t]) := by
 refine ⟨?_, fun y hy => ?_⟩
 ·rw [List.length_append, ← hn, List.flatMap_append, show [t].flatMap encT = encT t by simp]; exact hown
 ·have k : OwnN w B (.slice y.q y.ys.length y.cq) y.ys := by
   rcases List.mem_append.1 hy with hy | hy
   ·exact h.all y hy
   ·simp only [List.mem_singleton] at hy; subst hy; exact ht
  exact k.beside h.row hg (by decide) (by decide) (by decide)
theorem ownT_row {w : World} {B no d : Nat} {q : Option Addr} {l : List TV} (h : OwnT w B (.slice q no d) l) (hn : no = l.length) : w.ownsRow B 34 2 (.slice q no d) no (l.flatMap encT) := by
 have := h.row; rw [← hn] at this; exact this

def kidsT (ns : List Nd) : List (List Nd) := match ordT ns with
 | none => []
 | some l => ((ns.getD (ns.length - 1) nd0).kids).map fun k => covN ns (gf l k.toNat).1 k.toNat
def treesN (ts : List TV) : List (List Nd) := ts.map fun t => nds t.ys
theorem gn_nd {xs : List NV} {i : Nat} (h : i < xs.length) : (nds xs).getD i nd0 = (gn xs i).nd := by
 rw [List.getD_eq_getElem?_getD]
 unfold nds
 rw [List.getElem?_map, List.getElem?_eq_getElem h, gn_get h]; rfl
def KidsPost (w : World) (L : List (List Nd)) (e : Ending) (w' : World) : Prop :=
 ∃ q m cq ts, m = ts.length ∧ e = .returned (.slice q m cq) ∧ OwnT w' w.heap.size (.slice q m cq) ts ∧ treesN ts = L ∧ (∀ t ∈ ts, t.na = none ∧ t.nn = 0 ∧ t.nc = 0) ∧ Below w.heap.size w w'

def DisT (ts : List TV) : Prop := DisN (ts.flatMap TV.ys) ∧ ts.Pairwise fun s t => ∀ b, blk s.q = some b → blk t.q ≠ some b
theorem OwnT.blk {w : World} {B : Nat} {v : Value} {ts : List TV} (h : OwnT w B v ts) {y : NV} (hy : y ∈ ts.flatMap TV.ys) (b : Nat) : (Go.Proofs.YtkefndfgkmdphaaGreat.blk y.ps = some b → B ≤ b ∧ b < w.heap.size) ∧ (Go.Proofs.YtkefndfgkmdphaaGreat.blk y.pk = some b → B ≤ b ∧ b < w.heap.size) := by
 obtain ⟨t, ht, hy⟩ := List.mem_flatMap.1 hy
 exact (h.all t ht).blk hy b
theorem OwnT.blkq {w : World} {B : Nat} {v : Value} {ts : List TV} (h : OwnT w B v ts) {t : TV} (ht : t ∈ ts) {b : Nat} (e : Go.Proofs.YtkefndfgkmdphaaGreat.blk t.q = some b) : B ≤ b ∧ b < w.heap.size := World.ownsRow.lt (h.all t ht).row b (by rw [own_blk]; exact e)
theorem disT_snoc {ts : List TV} {t : TV} {C : Nat} (h : DisT ts) (k : DisN t.ys) (hx : ∀ y ∈ ts.flatMap TV.ys, ∀ b, (blk y.ps = some b → b < C) ∧ (blk y.pk = some b → b < C)) (hq : ∀ s ∈ ts, ∀ b, blk s.q = some b → b < C)
  (hy : ∀ y ∈ t.ys, ∀ b, (blk y.ps = some b → C ≤ b) ∧ (blk y.pk = some b → C ≤ b)) (hp : ∀ b, blk t.q = some b → C ≤ b) : DisT (ts ++ [t]) := by
 refine ⟨?_, List.pairwise_append.2 ⟨h.2, List.pairwise_singleton _ _, fun s hs t' ht' b e1 e2 => ?_⟩⟩
 ·rw [List.flatMap_append, show [t].flatMap TV.ys = t.ys by simp]
  exact disN_join h.1 k hx hy
 ·rw [List.mem_singleton] at ht'
  rw [ht'] at e2
  have := hq s hs b e1
  have := hp b e2
  omega
def KidsUp (w : World) (L : List (List Nd)) (e : Ending) (w' : World) : Prop :=
 ∃ q m cq ts, m = ts.length ∧ e = .returned (.slice q m cq) ∧ OwnT w' w.heap.size (.slice q m cq) ts ∧ treesN ts = L ∧ (∀ t ∈ ts, t.na = none ∧ t.nn = 0 ∧ t.nc = 0) ∧ Below w.heap.size w w' ∧ DisT ts
theorem KidsUp.post {w w' : World} {L : List (List Nd)} {e : Ending} : KidsUp w L e w' → KidsPost w L e w' := fun ⟨q, m, cq, ts, h1, h2, h3, h4, h5, h6, _⟩ => ⟨q, m, cq, ts, h1, h2, h3, h4, h5, h6⟩

theorem kids_up (p : Option Addr) (n c : Nat) (xs : List NV) (names : Value) (w : World) (hn : n = xs.length) (hnm : n ≤ 1000000000) (hc : n ≤ c) (hcm : c ≤ 9223372036854775807) (hp : SlN w p xs) (hf : Few xs) :
  Calls Tryz.prog 15 #[.agg #[.slice p n c, names]] w (KidsUp w (kidsT (nds xs))) := by
 obtain ⟨i0, hinf, hz0, hz1, hz2⟩ := info_parts info_tree
 obtain ⟨W1, hW1⟩ : ∃ W, W = w.alloc (.cells #[.slice p n c, names] 34) := ⟨_, rfl⟩
 have hb1 : Below w.heap.size w W1 := by rw [hW1]; exact bl_alloc _ _
 have HO := lh (ordered_any p n c xs names W1 hn hnm (hp.below hb1) hf)
 have HB1 := lh hb1
 have HW1 := lh hW1
 have HN := lh hn
 have HP := lh hp
 have HF := lh hf
 have HC := lh (And.intro hc hcm)
 clear hp hf hb1 hW1 hn hnm hc hcm
 go_enter Tryz.func15, Tryz.ntmps15
 go_wp2_with fail
 rw [← HW1.out]
 refine HO.out.mono ?_
 rintro e w5 ⟨hb5, ⟨ho, a0, n0, c0, a1, n1, c1, a2, n2, c2, rfl⟩ | ⟨l, pf, cf, pd, cd, ho, hl, hF, rfl, hfs, hds⟩⟩
 ·have HOR := lh ho
  have HB5 := lh (bl_trans HB1.out hb5)
  clear ho hb5
  go_wp2
  go_ret
  exact ⟨none, 0, 0, [], rfl, rfl, ownT_nil _ _, by unfold kidsT; rw [HOR.out]; rfl, fun _ h => by simp at h, bl_trans HB5.out (bl_alloc _ _), List.Pairwise.nil, List.Pairwise.nil⟩
 ·obtain ⟨h1, h4⟩ := ordT_len ho
  rw [nds_length, ← HN.out] at h1 h4
  obtain ⟨W6, hW6⟩ : ∃ W, W = w5.alloc (.cells #[.slice p n c, .slice pf n cf, .slice pd n cd] 66) := ⟨_, rfl⟩
  have hba : Below w5.heap.size w5 W6 := by rw [hW6]; exact bl_alloc _ _
  have hbw : Below w.heap.size w W6 := bl_trans (bl_trans HB1.out hb5) hba
  have bT : Bx W6 w5.heap.size 66 #[.slice p n c, .slice pf n cf, .slice pd n cd] := by rw [hW6]; exact Bx.new _ _ _
  have HLA := lh (last_any p n c xs W6 HN.out h1 h4 (HP.out.below hbw))
  have hnk : n - 1 < xs.length := by have := HN.out; omega
  obtain ⟨y, hy⟩ : ∃ y, y = gn xs (n - 1) := ⟨_, rfl⟩
  have HKI : Hid (∀ k ∈ y.nd.kids, 0 ≤ k ∧ k < ((n - 1 : Nat) : Int)) := by
   have hh := ordOk_kid (ordT_ok ho).1 (i := n - 1) (by rw [nds_length]; exact hnk)
   have e : (nds xs)[n - 1]'(by rw [nds_length]; exact hnk) = y.nd := by
    rw [hy, gn_get hnk]; simp [nds]
   rw [e] at hh
   exact hh
  have HKT : Hid (kidsT (nds xs) = y.nd.kids.map fun k => covN (nds xs) (gf l k.toNat).1 k.toNat) := by
   show _ = _
   unfold kidsT
   rw [ho]
   simp only
   rw [nds_length, ← HN.out, gn_nd hnk, ← hy]
  have hyin : NodeIn W6 y := by rw [hy]; exact (HP.out.below hbw).all _ (gn_mem hnk)
  have hyf : y.nd.kids.length ≤ 1000000 := by rw [hy]; exact (HF.out _ (gn_mem hnk)).1
  rw [← hy] at HLA
  obtain ⟨ls, hls⟩ : ∃ n, n = y.nd.set.length := ⟨_, rfl⟩
  obtain ⟨lk, hlk⟩ : ∃ n, n = y.nd.kids.length := ⟨_, rfl⟩
  have HEN : Hid ((encN y).toArray = #[.int .u8 y.nd.kind, .slice y.ps ls y.cs, .slice y.pk lk y.ck, .int .i64 y.nd.group, .int .i64 y.nd.mn, .int .i64 y.nd.mx, .int .u8 y.nd.mode, .int .u8 y.nd.spot, .bool y.nd.neg]) := by show _ = _; rw [hls, hlk]; rfl
  rw [HEN.out] at HLA
  rw [← hlk] at hyf
  have HLK := lh hlk
  have HYI := lh hyin
  have HT6 := lh bT
  have HW6 := lh hW6
  have HB6 := lh hbw
  have HFS := lh (And.intro (ownZ_below hfs hba) (ownZ_below hds hba))
  have HLL := lh (And.intro hl (And.intro hF (And.intro h1 h4)))
  have HSZ := lh hb5.size
  clear ho hl hF hfs hds hb5 hba hbw bT hW6 hnk hy hyin hls hlk h1 h4
  go_wp2_with fail
  rw [← HW6.out]
  refine HLA.out.mono ?_
  rintro e w7 ⟨rfl, hb7⟩
  have HB7 := lh hb7
  have hlkI : (lk : Int) ≤ 1000000 := by omega
  have hfd : ∀ W : World, (Instr.field 28 (.agg #[.int .u8 y.nd.kind, .slice y.ps ls y.cs, .slice y.pk lk y.ck, .int .i64 y.nd.group, .int .i64 y.nd.mn, .int .i64 y.nd.mx, .int .u8 y.nd.mode, .int .u8 y.nd.spot, .bool y.nd.neg]) 2).run Tryz.prog W = .ok (.slice y.pk lk y.ck) W := fun _ => by kernel_rfl
  clear hb7
  go_wp2
  clear hfd
  go_loopw [5, 20] (fun ov iv wr => ∃ (j : Nat) (q : Option Addr) (cq : Nat) (ts : List TV), j ≤ lk ∧ ov = .slice q j cq ∧ iv = .int .i64 (j : Nat) ∧ Hid (j = ts.length) ∧ Hid (OwnT wr W6.heap.size (.slice q j cq) ts) ∧ Hid (treesN ts = (y.nd.kids.take j).map fun k => covN (nds xs) (gf l k.toNat).1 k.toNat) ∧ Hid (∀ t ∈ ts, t.na = none ∧ t.nn = 0 ∧ t.nc = 0) ∧ Hid (Below W6.heap.size W6 wr) ∧ Hid (DisT ts)) (fun _ iv _ => lk - (intOf iv).toNat)
  case atStart => exact ⟨0, none, 0, [], Nat.zero_le _, rfl, rfl, rfl, ownT_nil _ _, rfl, fun _ h => by simp at h, HB7.out, ⟨List.Pairwise.nil, List.Pairwise.nil⟩⟩
  case round =>
   obtain ⟨j, q, cq, ts, hj, rfl, rfl, HJL, HOT, HTN, HNA, HBR, HDS⟩ := hrel
   rename World => wr
   by_cases hjk : j < lk
   ·have hjx : j < y.nd.kids.length := by have := HLK.out; omega
    obtain ⟨b, o, hpk, hck⟩ := slz_at (HYI.out.kids.below HBR.out) hjx
    obtain ⟨hk0, hk1⟩ := HKI.out (gz y.nd.kids j) (by rw [gz_get hjx]; exact List.getElem_mem _)
    obtain ⟨k, hk⟩ : ∃ k : Nat, gz y.nd.kids j = (k : Nat) := ⟨(gz y.nd.kids j).toNat, by omega⟩
    rw [hk] at hck
    have hkn : k < n := by omega
    have hjI : (j : Int) < lk := by omega
    have hTB := HT6.out.below HBR.out
    obtain ⟨t0, t1, t2⟩ := three hTB
    have HCV := lh (covered_up p pf pd n c cf cd k xs l W1.heap.size wr HN.out HLL.out.1 HLL.out.2.2.2 HC.out.1 HC.out.2 hkn HLL.out.2.1 ((HP.out.below HB6.out).below HBR.out) HF.out (ownZ_below HFS.out.1 HBR.out))
    have HK := lh hk
    have HJX := lh (And.intro hjk hjx)
    rw [hpk]
    clear hk0 hk1 hk hkn hTB hjx hjk
    go_wp2_with fail
    refine HCV.out.mono ?_
    rintro e w8 ⟨q8, m8, cq8, ys8, hm8, rfl, ho8, hy8, hb8, hd8⟩
    have HD9 : Hid (DisT (ts ++ [⟨q8, cq8, none, 0, 0, ys8⟩])) := disT_snoc (C := wr.heap.size) HDS.out hd8 (fun y hy b => ⟨fun e => ((HOT.out.blk hy b).1 e).2, fun e => ((HOT.out.blk hy b).2 e).2⟩) (fun s hs b e => (HOT.out.blkq hs e).2) (fun y hy b => ⟨fun e => ((ho8.blk hy b).1 e).1, fun e => ((ho8.blk hy b).2 e).1⟩) (fun b e => (World.ownsRow.lt ho8.row b (by rw [own_blk]; exact e)).1)
    clear hd8
    have hbl := bl_alloc w8 (.cells #[.slice q8 m8 cq8, .slice none 0 0] 34)
    have hwr : W6.heap.size ≤ wr.heap.size := HBR.out.size
    have HOT8 := lh ((HOT.out.below hb8).below hbl)
    have HRW := lh (ownT_row (HOT.out.below hb8) HJL.out)
    have HO8 := lh ((ho8.down hwr).below hbl)
    have HM8 := lh (And.intro hm8 hy8)
    have HB8 := lh (bl_trans (bl_trans HBR.out hb8) hbl)
    have HZ8 := lh (Nat.le_trans hwr hb8.size)
    have HS8 := lh (bl_trans HBR.out hb8)
    clear ho8 hm8 hy8 hb8 hbl hwr t0 t1 t2 hck
    go_wp2_with (at_builtin; refine wpList_append_own _ rfl _ _ 29 rfl W6.heap.size 34 i0 (.agg #[.slice none 0 0, .slice none 0 0]) 2 48 Tryz.underlying29 hinf hz0 hz1 hz2 rfl (by decide) (.slice q j cq) j _ rfl (HRW.out.alloc _) ⟨w8.heap.size, 0, none⟩ 1 1 [.slice q8 m8 cq8, .slice none 0 0] rfl rfl ?k1 ?k2 ?k3 ?k4 ?k5 ?_)
    case k1 => exact cells_nine w8 _ _
    case k2 => simp [Value.oneCell']
    case k3 => simp only [maxLen]; omega
    case k4 => omega
    case k5 => have := HZ8.out; simp; omega
    intro v9 w9 hown9 hgrow9 _
    have hO9 : OwnT w9 W6.heap.size v9 (ts ++ [⟨q8, cq8, none, 0, 0, ys8⟩]) := by
     refine OwnT.more (t := ⟨q8, cq8, none, 0, 0, ys8⟩) HOT8.out HJL.out ?_ ?_ hgrow9
     ·show OwnN _ _ (.slice q8 ys8.length cq8) ys8
      rw [← HM8.out.1]; exact HO8.out
     ·show w9.ownsRow _ _ 2 v9 (j + 1) (ts.flatMap encT ++ [.slice q8 ys8.length cq8, .slice none 0 0])
      rw [← HM8.out.1]; exact hown9
    have hb9 : Below W6.heap.size W6 w9 := HB8.out.grown hgrow9 (by have := HZ8.out; simp; omega) (fun g hg => (HRW.out.lt g hg).1)
    obtain ⟨q9, e9, rfl, _⟩ := hO9.form
    have hj9 : j + 1 = (ts ++ [(⟨q8, cq8, none, 0, 0, ys8⟩ : TV)]).length := by rw [List.length_append, ← HJL.out]; rfl
    have hT9 : treesN (ts ++ [⟨q8, cq8, none, 0, 0, ys8⟩]) = (y.nd.kids.take (j + 1)).map fun k => covN (nds xs) (gf l k.toNat).1 k.toNat := by
     rw [gz_take HJX.out.2, List.map_append, ← HTN.out, HK.out]
     unfold treesN
     rw [List.map_append]
     congr 1
     show [nds ys8] = [_]
     rw [HM8.out.2]; rfl
    rw [← hj9] at hO9 ⊢
    have HO9 := lh hO9
    have HB9 := lh hb9
    have HT9 := lh hT9
    have HJ9 := lh hj9
    have HNA9 : Hid (∀ t ∈ ts ++ [(⟨q8, cq8, none, 0, 0, ys8⟩ : TV)], t.na = none ∧ t.nn = 0 ∧ t.nc = 0) := by
     intro t ht
     rcases List.mem_append.1 ht with ht | ht
     ·exact HNA.out t ht
     ·simp only [List.mem_singleton] at ht; subst ht; exact ⟨rfl, rfl, rfl⟩
    clear hown9 hgrow9 hO9 hb9 hT9 hj9
    go_wp2
    go_roundw
    case rel => exact ⟨j + 1, q9, e9, _, by have := HJX.out.1; omega, rfl, by go_num, HJ9.out, HO9.out, HT9.out, HNA9.out, HB9.out, HD9.out⟩
    case measure => have := HJX.out.1; simp [intOf]; omega
   ·have hjI : (lk : Int) ≤ j := by omega
    obtain rfl : j = lk := by omega
    go_wp2
    go_ret
    refine ⟨q, j, cq, ts, HJL.out, rfl, HOT.out.down HB6.out.size, ?_, HNA.out, bl_trans HB6.out HBR.out, HDS.out⟩
    rw [HTN.out, HKT.out, List.take_of_length_le (by rw [← HLK.out]; exact Nat.le_refl _)]
theorem kids_any (p : Option Addr) (n c : Nat) (xs : List NV) (names : Value) (w : World) (hn : n = xs.length) (hnm : n ≤ 1000000000) (hc : n ≤ c) (hcm : c ≤ 9223372036854775807) (hp : SlN w p xs) (hf : Few xs) :
  Calls Tryz.prog 15 #[.agg #[.slice p n c, names]] w (KidsPost w (kidsT (nds xs))) :=
 (kids_up p n c xs names w hn hnm hc hcm hp hf).mono fun _ _ h => h.post
end Go.Proofs.YtkefndfgkmdphaaGreat

