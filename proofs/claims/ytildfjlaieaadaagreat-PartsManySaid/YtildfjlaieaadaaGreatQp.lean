/- The walk of the law's awake: the chapter's example. -/
import Derived.Test.YtildfjlaieaadaaGreatQo
import Derived.Test.YtildfjlaieaadaaGreatQpa

namespace Go.Proofs.YtildfjlaieaadaaGreat
open Go.RowKit Tnr

theorem slr_new (w : World) (l : List R) (cs : Array Value) (T : TypeId) (h : cs = (l.flatMap encR).toArray) : SlR (w.alloc (.cells cs T)) (some ⟨w.heap.size, 0, none⟩) l := by
  refine .inr ⟨w.heap.size, 0, rfl, fun i hi => ?_⟩
  obtain ⟨e1, e2⟩ := encs_at l i hi
  rw [Nat.zero_add, World.cell?_alloc_at _ _ _ _ rfl, World.cell?_alloc_at _ _ _ _ rfl, h]
  simp only [List.getElem?_toArray]
  exact ⟨e1, e2⟩

set_option maxHeartbeats 1600000 in
set_option maxRecDepth 100000 in
theorem awake_any (w : World) : Calls Tryz.prog 8 #[] w fun e w' => e = .returned (.bool true) ∧ Below w.heap.size w w' := by
  obtain ⟨B, hB⟩ : ∃ B, B = w.heap.size := ⟨_, rfl⟩
  obtain ⟨W2, hW2⟩ : ∃ W2, W2 = (w.alloc (.cells #[.int .i64 97, .int .i64 122] 28)).alloc (.cells #[.int .i64 102, .int .i64 102] 28) := ⟨_, rfl⟩
  have hs2 : W2.heap.size = B + 1 + 1 := by rw [hW2, World.size_alloc, World.size_alloc, hB]
  have hA : SlR W2 (some ⟨B, 0, none⟩) [(97, 122)] := by
    rw [hW2, hB]
    exact (slr_new w [(97, 122)] _ _ rfl).below (bl_alloc _ _)
  have hBb : SlR W2 (some ⟨B + 1, 0, none⟩) [(102, 102)] := by
    have h := slr_new (w.alloc (.cells #[.int .i64 97, .int .i64 122] 28)) [(102, 102)] #[.int .i64 102, .int .i64 102] 28 rfl
    rw [World.size_alloc, ← hB, ← hW2] at h
    exact h
  have hO := partsOf_any (some ⟨W2.heap.size, 0, none⟩) 2 2 [(some ⟨B, 0, none⟩, 1, [(97, 122)]), (some ⟨B + 1, 0, none⟩, 1, [(102, 102)])] (W2.alloc (.cells #[.slice (some ⟨B, 0, none⟩) 1 1, .slice (some ⟨B + 1, 0, none⟩) 1 1] 29)) rfl (Nat.le_refl _) (sls_new (fun x hx => by
    simp only [List.mem_cons, List.not_mem_nil, or_false] at hx
    rcases hx with rfl | rfl
    · exact hA
    · exact hBb) rfl) (by simp) (by simp [flat])
  have HBL : Hid (Below w.heap.size w (W2.alloc (.cells #[.slice (some ⟨B, 0, none⟩) 1 1, .slice (some ⟨B + 1, 0, none⟩) 1 1] 29))) := by
    rw [hW2]
    exact bl_trans (bl_trans (bl_alloc _ _) (bl_alloc _ _)) (bl_alloc _ _)
  have HO := Lib.hid hO
  have HW2 := Lib.hid hW2
  have HS2 := Lib.hid hs2
  have HB := Lib.hid hB
  clear hO hA hBb hW2 hs2 hB
  go_enter Tryz.func8, Tryz.ntmps8
  go_wp2_with fail
  rw [← HB.out, ← HW2.out]
  have hO := HO.out
  rw [HS2.out] at hO
  refine hO.mono ?_
  clear hO HO
  rintro e W3 ⟨hb3, hor⟩
  rcases hor with ⟨-, hm⟩ | ⟨po, nn, co, ys, vs, rfl, hnn, hco, -, hp, hsl, hfl, -⟩
  · exact absurd hm ex_few
  have hys : rowsV ys = exL := Parts.one hp ex_parts
  have hlen : ys.length = 3 := by rw [← rowsV_length, hys]; rfl
  rw [hlen] at hnn
  subst hnn
  have HB3 := Lib.hid (bl_trans HBL.out hb3)
  have HSL := Lib.hid hsl
  have HYS := Lib.hid hys
  have HFL : Hid ((flat ys).length ≤ 10) := by
    rw [← rowsV_flat, hys]
    show (_ : Nat) ≤ _
    decide
  have HLEN := Lib.hid hlen
  clear hb3 hsl hys hfl hp hco HBL HW2 HS2 HB
  have HC := Lib.hid (class_any po co 3 ys 103 W3 HLEN.out.symm HSL.out (by have := HLEN.out; omega) (by have := HFL.out; omega))
  go_wp2_with fail
  refine HC.out.mono ?_
  clear HC
  rintro e W4 ⟨k, t, rfl, hcr, hb4⟩
  rw [HYS.out] at hcr
  obtain ⟨rfl, rfl⟩ := hcr.one ex_class
  have HB4 := Lib.hid (bl_trans HB3.out hb4)
  have HSL4 := Lib.hid (HSL.out.below hb4)
  have HG0 : Hid ((gs ys 0).2.2 = [(0, 96), (123, 1114111)]) := by
    show _ = _
    rw [← rowsV_gl (by have := HLEN.out; omega), HYS.out]; rfl
  have HG1 : Hid ((gs ys 1).2.2 = [(97, 101), (103, 122)]) := by
    show _ = _
    rw [← rowsV_gl (by have := HLEN.out; omega), HYS.out]; rfl
  have HG2 : Hid ((gs ys 2).2.2 = [(102, 102)]) := by
    show _ = _
    rw [← rowsV_gl (by have := HLEN.out; omega), HYS.out]; rfl
  have HAT : Hid (∀ i W, i < 3 → Below W4.heap.size W4 W → SlR W (gs ys i).1 (gs ys i).2.2) := fun i W hi hb => (HSL4.out.below hb).1 _ (by rw [gs_get (by have := HLEN.out; omega)]; exact List.getElem_mem _)
  obtain ⟨b, o, rfl, hc0⟩ := sls_at HSL4.out (show 0 < ys.length by have := HLEN.out; omega)
  have HCE : Hid (∀ i W, i < 3 → Below W4.heap.size W4 W → W.cell? ⟨b, o + i, none⟩ = some (.slice (gs ys i).1 (gs ys i).2.2.length (gs ys i).2.1)) := by
    intro i W hi hb
    obtain ⟨b2, o2, e2, h2⟩ := sls_at (HSL4.out.below hb) (show i < ys.length by have := HLEN.out; omega)
    simp only [Option.some.injEq, Addr.mk.injEq, and_true] at e2
    obtain ⟨rfl, rfl⟩ := e2
    exact h2
  have c0 := HCE.out 0 W4 (by omega) (Below.refl _ _)
  rw [HG0.out] at c0
  have HA0 := HAT.out 0
  rw [HG0.out] at HA0
  have HA0 := Lib.hid HA0
  have HA1 := HAT.out 1
  rw [HG1.out] at HA1
  have HA1 := Lib.hid HA1
  have HA2 := HAT.out 2
  rw [HG2.out] at HA2
  have HA2 := Lib.hid HA2
  obtain ⟨p0, hp0⟩ : ∃ p0, p0 = (gs ys 0).1 := ⟨_, rfl⟩
  obtain ⟨q0, hq0⟩ : ∃ q0, q0 = (gs ys 0).2.1 := ⟨_, rfl⟩
  rw [← hp0, ← hq0] at c0
  rw [← hp0] at HA0
  simp only [List.length_cons, List.length_nil, Nat.add_zero, Nat.zero_add, Nat.reduceAdd] at c0
  clear hb4 hcr hc0 hp0 hq0
  go_wp2_with fail
  refine (samek p0 (some ⟨W4.heap.size, 0, none⟩) q0 2 2 [(0, 96), (123, 1114111)] _ rfl (HA0.out _ (by omega) (bl_alloc _ _)) (slr_new W4 [(0, 96), (123, 1114111)] #[.int .i64 0, .int .i64 96, .int .i64 123, .int .i64 1114111] 28 rfl) (by decide)).mono ?_
  rintro e W5 ⟨rfl, hb5⟩
  have HB5 := Lib.hid (bl_trans (bl_alloc W4 (.cells #[.int .i64 0, .int .i64 96, .int .i64 123, .int .i64 1114111] 28)) hb5)
  have c1 := HCE.out 1 W5 (by omega) HB5.out
  rw [HG1.out] at c1
  obtain ⟨p1, hp1⟩ : ∃ p1, p1 = (gs ys 1).1 := ⟨_, rfl⟩
  obtain ⟨q1, hq1⟩ : ∃ q1, q1 = (gs ys 1).2.1 := ⟨_, rfl⟩
  rw [← hp1, ← hq1] at c1
  rw [← hp1] at HA1
  simp only [List.length_cons, List.length_nil, Nat.zero_add, Nat.reduceAdd] at c1
  clear hb5 c0 hp1 hq1
  go_wp2_with fail
  refine (samek p1 (some ⟨W5.heap.size, 0, none⟩) q1 2 2 [(97, 101), (103, 122)] _ rfl (HA1.out _ (by omega) (bl_trans HB5.out (bl_alloc _ _))) (slr_new W5 [(97, 101), (103, 122)] #[.int .i64 97, .int .i64 101, .int .i64 103, .int .i64 122] 28 rfl) (by decide)).mono ?_
  rintro e W6 ⟨rfl, hb6⟩
  have HB6 := Lib.hid (bl_trans HB5.out (bl_trans (bl_alloc W5 (.cells #[.int .i64 97, .int .i64 101, .int .i64 103, .int .i64 122] 28)) hb6))
  have c2 := HCE.out 2 W6 (by omega) HB6.out
  rw [HG2.out] at c2
  obtain ⟨p2, hp2⟩ : ∃ p2, p2 = (gs ys 2).1 := ⟨_, rfl⟩
  obtain ⟨q2, hq2⟩ : ∃ q2, q2 = (gs ys 2).2.1 := ⟨_, rfl⟩
  rw [← hp2, ← hq2] at c2
  rw [← hp2] at HA2
  simp only [List.length_cons, List.length_nil, Nat.zero_add] at c2
  clear hb6 c1 hp2 hq2
  go_wp2_with fail
  refine (samek p2 (some ⟨W6.heap.size, 0, none⟩) q2 1 1 [(102, 102)] _ rfl (HA2.out _ (by omega) (bl_trans HB6.out (bl_alloc _ _))) (slr_new W6 [(102, 102)] #[.int .i64 102, .int .i64 102] 28 rfl) (by decide)).mono ?_
  rintro e W7 ⟨rfl, hb7⟩
  have HB7 := Lib.hid (bl_trans HB6.out (bl_trans (bl_alloc W6 (.cells #[.int .i64 102, .int .i64 102] 28)) hb7))
  clear hb7 c2
  go_wp2
  go_ret
  exact ⟨rfl, bl_trans HB4.out HB7.out⟩
end Go.Proofs.YtildfjlaieaadaaGreat
