/- The walks of LentNat, KeptNat, markNat. -/
import Derived.Test.YtiihghojllikmaaGreatDoorNj
namespace Go.Proofs.YtiihghojllikmaaGreatDoor
open Go.RowKit Tnd

/-- a list of limbs handed in: its digits and the marks behind them, in memory of the call's own. -/
def LentL (w : World) (B g cap : Nat) (l : List Nat) : Prop :=
  l.length + 12 ≤ cap ∧ cap ≤ 9223372036854775807 ∧ Own w B 46 .u32 (.slice (some ⟨g, 0, none⟩) (l.length + 12) cap) (l ++ marks 12)
theorem LentL.below {w w' : World} {B g cap : Nat} {l : List Nat} (h : LentL w B g cap l) (hb : Below w.heap.size w w') : LentL w' B g cap l := ⟨h.1, h.2.1, own_below h.2.2 hb⟩
theorem LentL.sl {w : World} {B g cap : Nat} {l : List Nat} (h : LentL w B g cap l) : Sl w .u32 (some ⟨g, 0, none⟩) l := by
  refine .inr ⟨g, 0, rfl, fun i hi => ?_⟩
  rw [Nat.zero_add, own_cell h.2.2 (by rw [List.length_append, marks_length]) i (by omega), gd_front hi]
theorem LentL.lt {w : World} {B g cap : Nat} {l : List Nat} (h : LentL w B g cap l) : B ≤ g ∧ g < w.heap.size := h.2.2.lt g rfl
theorem LentL.old {w : World} {B g cap : Nat} {l : List Nat} (h : LentL w B g cap l) : Old w w.heap.size (some ⟨g, 0, none⟩) l := by
  rcases h.sl with h1 | ⟨b, off, h1, h2⟩
  · exact .inl h1
  · simp only [Option.some.injEq, Addr.mk.injEq, and_true] at h1
    obtain ⟨rfl, rfl⟩ := h1
    exact .inr ⟨g, 0, rfl, h.lt.2, h2⟩
theorem LentL.nat {w : World} {B g cap : Nat} {l : List Nat} (h : LentL w B g cap l) (hd : Digs 4294967296 l) : NatIn w w.heap.size (.agg #[.slice (some ⟨g, 0, none⟩) l.length cap]) l :=
  ⟨_, _, rfl, h.old, hd, by have := h.1; omega, h.2.1, fun e => by cases e⟩

set_option maxRecDepth 100000 in
theorem lentn_any (p : Option Addr) (cp : Nat) (l : List Nat) (w : World) (hp : Sl w .u32 p l) (hl : l.length ≤ 3000) (hpn : p = none → cp = 0) :
    Calls Tryz.prog 8 #[.agg #[.slice p l.length cp]] w fun e w' => ∃ g cap, e = .returned (.agg #[.slice (some ⟨g, 0, none⟩) l.length cap]) ∧ LentL w' w.heap.size g cap l ∧ Below w.heap.size w w' := by
  obtain ⟨w0, hw0⟩ : ∃ w0, w0 = (w.alloc (.cells #[.slice p l.length cp] 24)).alloc (.cells #[.slice none 0 0] 24) := ⟨_, rfl⟩
  have hB0 : Below w.heap.size w w0 := by subst hw0; exact ((Below.refl _ _).alloc (Nat.le_refl _) _).alloc (by simp) _
  have hX0 : w0.heap[w.heap.size]? = some (.cells #[.slice p l.length cp] 24 (0, 0)) := by
    subst hw0
    rw [Below.heap_alloc _ _ _ (by simp)]; exact heap_alloc_new w _
  have hR0 : w0.heap[w.heap.size + 1]? = some (.cells #[.slice none 0 0] 24 (0, 0)) := by
    have h := heap_alloc_new (w.alloc (.cells #[.slice p l.length cp] 24)) (.cells #[.slice none 0 0] 24)
    subst hw0
    simpa using h
  have hs0 : w0.heap.size = w.heap.size + 2 := by subst hw0; simp
  have hc0 := cell_of_one hX0
  have HLL := Lib.hid (lentl_any p cp l w0 (hp.below hB0) hl hpn)
  have HB0 := Lib.hid hB0
  have HX0 := Lib.hid hX0
  have HR0 := Lib.hid hR0
  have HS0 := Lib.hid hs0
  have HW0 := Lib.hid hw0
  clear hB0 hX0 hR0 hs0 hw0 hp hl hpn
  go_enter Tryz.func8, Tryz.ntmps8
  go_wp2_with fail
  rw [← HW0.out]
  refine HLL.out.mono ?_
  rintro e w1 ⟨g, cap, rfl, h1, h2, h3, hb1⟩
  have hX1 : w1.heap[w.heap.size]? = some (.cells #[.slice p l.length cp] 24 (0, 0)) := by rw [hb1.block _ (by rw [HS0.out]; omega)]; exact HX0.out
  have hR1 : w1.heap[w.heap.size + 1]? = some (.cells #[.slice none 0 0] 24 (0, 0)) := by rw [hb1.block _ (by rw [HS0.out]; omega)]; exact HR0.out
  have hc1 := cell_of_one hX1
  have hf1 := free_of_one hX1
  have hX2 := one_setCell hX1 (u := .slice (some ⟨g, 0, none⟩) l.length cap)
  have hR2 : (w1.setCell ⟨w.heap.size, 0, none⟩ (.slice (some ⟨g, 0, none⟩) l.length cap)).heap[w.heap.size + 1]? = some (.cells #[.slice none 0 0] 24 (0, 0)) := by
    rw [Below.heap_setCell _ _ _ _ (by simp)]; exact hR1
  have hc2 := cell_of_one hX2
  have hr2 := cell_of_one hR2
  have hf2 := free_of_one hR2
  have hO2 : Own _ w0.heap.size 46 .u32 _ _ := ownsRow_setCell_other (a := ⟨w.heap.size, 0, none⟩) h3 (own_ne h3 hX1 (by decide)) (.slice (some ⟨g, 0, none⟩) l.length cap)
  have hO3 : Own _ w0.heap.size 46 .u32 _ _ := ownsRow_setCell_other (a := ⟨w.heap.size + 1, 0, none⟩) hO2 (own_ne hO2 hR2 (by decide)) (.slice (some ⟨g, 0, none⟩) l.length cap)
  have HO3 := Lib.hid hO3
  have HB3 := Lib.hid (((HB0.out.trans (hb1.mono HB0.out.size)).setCell (p := ⟨w.heap.size, 0, none⟩) (Nat.le_refl _) (.slice (some ⟨g, 0, none⟩) l.length cap)).setCell (p := ⟨w.heap.size + 1, 0, none⟩) (Nat.le_succ _) (.slice (some ⟨g, 0, none⟩) l.length cap))
  have H1 := Lib.hid h1
  have H2 := Lib.hid h2
  clear hX1 hR1 hX2 hR2 hO2 hO3 h1 h2 h3 hb1 hc0
  go_wp2
  refine bodyPost_ret (v := .agg #[.slice (some ⟨g, 0, none⟩) l.length cap]) (by simp [results, Tryz.results8, go_sem, hr2]) rfl ?_
  exact ⟨g, cap, rfl, ⟨H1.out, H2.out, own_down HO3.out HB0.out.size⟩, HB3.out⟩

set_option maxRecDepth 100000 in
theorem keptn_any (p : Option Addr) (cp : Nat) (l : List Nat) (B g cap : Nat) (w : World) (hp : Sl w .u32 p l) (hl : l.length ≤ 3000) (ho : LentL w B g cap l) :
    Calls Tryz.prog 20 #[.agg #[.slice (some ⟨g, 0, none⟩) l.length cap], .agg #[.slice p l.length cp]] w fun e w' => e = .returned (.bool true) ∧ Below w.heap.size w w' := by
  obtain ⟨w0, hw0⟩ : ∃ w0, w0 = (w.alloc (.cells #[.slice (some ⟨g, 0, none⟩) l.length cap] 24)).alloc (.cells #[.slice p l.length cp] 24) := ⟨_, rfl⟩
  have hB0 : Below w.heap.size w w0 := by subst hw0; exact ((Below.refl _ _).alloc (Nat.le_refl _) _).alloc (by simp) _
  have hc1 : w0.cell? ⟨w.heap.size, 0, none⟩ = some (.slice (some ⟨g, 0, none⟩) l.length cap) := by subst hw0; rw [World.cell?_alloc_past _ _ _ (by simp), World.cell?_alloc_at _ _ _ _ rfl]; rfl
  have hc2 : w0.cell? ⟨w.heap.size + 1, 0, none⟩ = some (.slice p l.length cp) := by subst hw0; rw [World.cell?_alloc_at _ _ _ _ (by simp)]; rfl
  have hs0 : w0.heap.size = w.heap.size + 2 := by subst hw0; simp
  have hsame := samenat_any (some ⟨g, 0, none⟩) p cap cp l l w0 (ho.below hB0).sl (hp.below hB0) (by omega) (by omega)
  rw [show decide (l = l) = true by simp] at hsame
  have HSAME := Lib.hid hsame
  have HK := Lib.hid (fun W (hW : Below w0.heap.size w0 W) => keptl_any p cp l B g cap W ((hp.below hB0).below hW) hl ((ho.below hB0).below hW).2.2 ho.1 ho.2.1)
  have HB0 := Lib.hid hB0
  have HS0 := Lib.hid hs0
  have HW0 := Lib.hid hw0
  clear hB0 hs0 hw0 hp hl ho hsame
  go_enter Tryz.func20, Tryz.ntmps20
  go_wp2_with fail
  rw [← HW0.out]
  refine HSAME.out.mono ?_
  rintro e w1 ⟨rfl, hb1⟩
  have hd1 : w1.cell? ⟨w.heap.size, 0, none⟩ = some (.slice (some ⟨g, 0, none⟩) l.length cap) := by rw [hb1.cell (by simp; have := HS0.out; omega)]; exact hc1
  have hd2 : w1.cell? ⟨w.heap.size + 1, 0, none⟩ = some (.slice p l.length cp) := by rw [hb1.cell (by simp; have := HS0.out; omega)]; exact hc2
  have HK1 := Lib.hid (HK.out w1 hb1)
  have HB1 := Lib.hid (HB0.out.trans (hb1.mono HB0.out.size))
  clear hb1 hc1 hc2 HSAME HK
  go_wp2_with fail
  refine HK1.out.mono ?_
  rintro e w2 ⟨rfl, hb2⟩
  have HB2 := Lib.hid (HB1.out.trans (hb2.mono HB1.out.size))
  clear hb2 hd1 hd2 HK1
  go_wp2
  go_ret
  exact ⟨rfl, HB2.out⟩

end Go.Proofs.YtiihghojllikmaaGreatDoor
