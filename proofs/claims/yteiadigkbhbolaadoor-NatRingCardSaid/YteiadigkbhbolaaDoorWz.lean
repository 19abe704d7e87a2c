/- NatRing where the numbers are more than is gone through in time: it tells true. -/
import Derived.Test.YteiadigkbhbolaaDoorWy
namespace Go.Proofs.YteiadigkbhbolaaDoor
open Go.RowKit Tnd

/-- three Nats that came in, in a row that a call lays. -/
theorem nats_three {w w1 : World} {p1 p2 p3 : Option Addr} {c1 c2 c3 : Nat} {l1 l2 l3 : List Nat} {T : TypeId} (hb : Below w.heap.size w w1)
    (h1 : NatIn w w.heap.size (.agg #[.slice p1 l1.length c1]) l1) (h2 : NatIn w w.heap.size (.agg #[.slice p2 l2.length c2]) l2) (h3 : NatIn w w.heap.size (.agg #[.slice p3 l3.length c3]) l3) :
    NatsIn (w1.alloc (.cells #[.slice p1 l1.length c1, .slice p2 l2.length c2, .slice p3 l3.length c3] T)) (w1.alloc (.cells #[.slice p1 l1.length c1, .slice p2 l2.length c2, .slice p3 l3.length c3] T)).heap.size (some ⟨w1.heap.size, 0, none⟩) [l1, l2, l3] := by
  have hbb : Below w.heap.size w (w1.alloc (.cells #[.slice p1 l1.length c1, .slice p2 l2.length c2, .slice p3 l3.length c3] T)) := hb.alloc hb.size _
  have hsz := hbb.size
  have hcell : ∀ i, (w1.alloc (.cells #[.slice p1 l1.length c1, .slice p2 l2.length c2, .slice p3 l3.length c3] T)).cell? ⟨w1.heap.size, i, none⟩ = (#[Value.slice p1 l1.length c1, .slice p2 l2.length c2, .slice p3 l3.length c3] : Array Value)[i]? := fun i => World.cell?_alloc_at _ _ _ _ rfl
  obtain ⟨q1, d1, f1, g1, k1⟩ := (h1.below hbb).up hsz
  obtain ⟨q2, d2, f2, g2, k2⟩ := (h2.below hbb).up hsz
  obtain ⟨q3, d3, f3, g3, k3⟩ := (h3.below hbb).up hsz
  simp only [Value.agg.injEq, Array.mk.injEq, List.cons.injEq, Value.slice.injEq, and_true, true_and] at f1 f2 f3
  obtain ⟨rfl, rfl⟩ := f1
  obtain ⟨rfl, rfl⟩ := f2
  obtain ⟨rfl, rfl⟩ := f3
  refine .inr ⟨w1.heap.size, 0, rfl, by simp, fun i hi => ?_⟩
  rw [Nat.zero_add]
  match i, hi with
  | 0, _ => exact ⟨p1, c1, hcell 0, g1, k1⟩
  | 1, _ => exact ⟨p2, c2, hcell 1, g2, k2⟩
  | 2, _ => exact ⟨p3, c3, hcell 2, g3, k3⟩

set_option maxHeartbeats 800000 in
set_option maxRecDepth 100000 in
theorem ring_great (p1 p2 p3 : Option Addr) (c1 c2 c3 : Nat) (l1 l2 l3 : List Nat) (w : World) (htab : Lib.TabIs Tryd.prog w "internal/strconv.uint64pow10" .u64 Lib.pow10Tab)
    (h1 : NatIn w w.heap.size (.agg #[.slice p1 l1.length c1]) l1) (h2 : NatIn w w.heap.size (.agg #[.slice p2 l2.length c2]) l2) (h3 : NatIn w w.heap.size (.agg #[.slice p3 l3.length c3]) l3)
    (ht : l1.length + l2.length + l3.length ≤ 1000000000000000000) (hg : 57 < l1.length + l2.length + l3.length) :
    Calls Tryd.prog 4 #[.agg #[.slice p1 l1.length c1], .agg #[.slice p2 l2.length c2], .agg #[.slice p3 l3.length c3]] w fun e w' => e = .returned (.bool true) ∧ Below w.heap.size w w' := by
  obtain ⟨w0, hw0⟩ : ∃ w0, w0 = ((w.alloc (.cells #[.slice p1 l1.length c1] 25)).alloc (.cells #[.slice p2 l2.length c2] 25)).alloc (.cells #[.slice p3 l3.length c3] 25) := ⟨_, rfl⟩
  have hB0 : Below w.heap.size w w0 := by subst hw0; exact (((Below.refl _ _).alloc (Nat.le_refl _) _).alloc (by simp) _).alloc (by simp; omega) _
  have hs0 : w0.heap.size = w.heap.size + 3 := by subst hw0; simp
  have hc1 : w0.cell? ⟨w.heap.size, 0, none⟩ = some (.slice p1 l1.length c1) := by subst hw0; rw [World.cell?_alloc_past _ _ _ (by simp; omega), World.cell?_alloc_past _ _ _ (by simp), World.cell?_alloc_at _ _ _ _ rfl]; rfl
  have hc2 : w0.cell? ⟨w.heap.size + 1, 0, none⟩ = some (.slice p2 l2.length c2) := by subst hw0; rw [World.cell?_alloc_past _ _ _ (by simp), World.cell?_alloc_at _ _ _ _ (by simp)]; rfl
  have hc3 : w0.cell? ⟨w.heap.size + 2, 0, none⟩ = some (.slice p3 l3.length c3) := by subst hw0; rw [World.cell?_alloc_at _ _ _ _ (by simp)]; rfl
  have htab0 : Lib.TabIs Tryd.prog w0 "internal/strconv.uint64pow10" .u64 Lib.pow10Tab := by
    subst hw0; exact Lib.tabIs_alloc (Lib.tabIs_alloc (Lib.tabIs_alloc htab _) _) _
  have HAW := Lib.hid (awake_any w0 htab0)
  have HB0 := Lib.hid hB0
  have HW0 := Lib.hid hw0
  have HS0 := Lib.hid hs0
  have H1 := Lib.hid h1
  have H2 := Lib.hid h2
  have H3 := Lib.hid h3
  have HT := Lib.hid ht
  have HG := Lib.hid hg
  clear hw0 hB0 h1 h2 h3 htab htab0 ht hg hs0
  go_enter Tryd.func4, Tryd.ntmps4
  go_wp2_with fail
  rw [← HW0.out]
  refine HAW.out.mono ?_
  rintro e w1 ⟨rfl, hb1⟩
  have hs0 := HS0.out
  have hd1 : w1.cell? ⟨w.heap.size, 0, none⟩ = some (.slice p1 l1.length c1) := by rw [hb1.cell (by simp; omega)]; exact hc1
  have hd2 : w1.cell? ⟨w.heap.size + 1, 0, none⟩ = some (.slice p2 l2.length c2) := by rw [hb1.cell (by simp; omega)]; exact hc2
  have hd3 : w1.cell? ⟨w.heap.size + 2, 0, none⟩ = some (.slice p3 l3.length c3) := by rw [hb1.cell (by simp; omega)]; exact hc3
  have hbw : Below w.heap.size w w1 := HB0.out.trans (hb1.mono (by omega))
  have hni := nats_three (T := 25) hbw H1.out H2.out H3.out
  have HGR := Lib.hid (great_any _ 3 [l1, l2, l3] _ hni (by simp) (by have := HT.out; simp only [tot]; omega))
  have HGT := Lib.hid (show decide (60 < [l1, l2, l3].length + tot [l1, l2, l3]) = true by have := HG.out; rw [decide_eq_true_iff]; simp only [tot, List.length_cons, List.length_nil]; omega)
  have HBW := Lib.hid hbw
  clear hni hb1 hbw hc1 hc2 hc3 hs0 HAW
  go_wp2_with fail
  refine HGR.out.mono ?_
  rintro e w2 ⟨rfl, n, rfl⟩
  rw [HGT.out]
  go_wp2
  go_ret
  exact ⟨rfl, (HBW.out.alloc HBW.out.size _).trans ((Joins.below_draws _ _ _).mono (by have := HBW.out.size; simp; omega))⟩
end Go.Proofs.YteiadigkbhbolaaDoor
