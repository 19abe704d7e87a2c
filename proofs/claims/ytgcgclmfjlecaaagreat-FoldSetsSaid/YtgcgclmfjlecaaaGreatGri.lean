/- The law's awake; its walk. -/
import Derived.Test.YtgcgclmfjlecaaaGreatGrh

namespace Go.Proofs.YtgcgclmfjlecaaaGreat
open Go.RowKit Tnr

theorem close0 (b : Nat) (W : World) (h : Tab W (some ⟨b, 0, none⟩) 4 (some ⟨b + 3, 0, none⟩) 2 F0 (P0 b)) :
    Calls Tryz.prog 18 #[.agg #[.slice (some ⟨b, 0, none⟩) 4 4, .slice (some ⟨b + 3, 0, none⟩) 2 2], .slice (some ⟨W.heap.size + 1, 0, none⟩) 1 1] ((W.alloc (.cells #[.int .i64 8490, .int .i64 8490] 41)).alloc (.cells #[.slice (some ⟨W.heap.size, 0, none⟩) 1 1] 28)) fun e w' => ∃ q c, e = .returned (.slice q 3 c) ∧ SlR w' q [(75, 75), (107, 107), (8490, 8490)] ∧ Below W.heap.size W w' := by
  have h1 := tells_new (w := W) (l := [(8490, 8490)]) (n := 1) (cs := #[.int .i64 8490, .int .i64 8490]) rfl rfl (by decide)
  obtain ⟨p, c, he, ho, hb⟩ := h1
  simp only [Ending.returned.injEq, Value.slice.injEq, List.length_singleton, true_and] at he
  obtain ⟨rfl, rfl⟩ := he
  have hs := tells_sl ho
  have h2 := sls_new (w := W.alloc (.cells #[.int .i64 8490, .int .i64 8490] 41)) (xs := [(some ⟨W.heap.size, 0, none⟩, 1, [(8490, 8490)])]) (cs := #[.slice (some ⟨W.heap.size, 0, none⟩) 1 1]) (T := 28) (fun x hx => by
    simp only [List.mem_singleton] at hx
    subst hx
    exact hs) rfl
  have hs1 : (W.alloc (.cells #[.int .i64 8490, .int .i64 8490] 41)).heap.size = W.heap.size + 1 := by simp
  rw [hs1] at h2
  have hbl := bl_alloc (W.alloc (.cells #[.int .i64 8490, .int .i64 8490] 41)) (.cells #[.slice (some ⟨W.heap.size, 0, none⟩) 1 1] 28)
  refine (fclose_t _ _ _ _ _ _ _ _ _ F0 (P0 b) [(some ⟨W.heap.size, 0, none⟩, 1, [(8490, 8490)])] true _ ⟨fun _ => tr0 b, fun _ => rfl⟩ ((h.below hb).below hbl) h2 rfl (by simp [flat]) (by simp)).mono ?_
  have e1 : flat [(some (⟨W.heap.size, 0, none⟩ : Addr), 1, [(8490, 8490)])] = [(8490, 8490)] := by simp [flat]
  rw [e1, if_pos rfl, clo0]
  rintro e w' ⟨q, c, h3, h4, h5⟩
  exact ⟨q, c, h3, tells_sl h4, bl_trans hb (bl_trans hbl h5)⟩

set_option maxHeartbeats 3200000 in
set_option maxRecDepth 100000 in
theorem awake_any (w : World) : Calls Tryz.prog 5 #[] w fun e w' => e = .returned (.bool true) ∧ Below w.heap.size w w' := by
  go_enter Tryz.func5, Tryz.ntmps5
  go_wp2_with fail
  refine (some_any w).mono ?_
  rintro e w1 ⟨b, rfl, hT, hb⟩
  obtain ⟨w2, hw2⟩ : ∃ W, W = w1.alloc (.cells #[.slice (some ⟨b, 0, none⟩) 4 4, .slice (some ⟨b + 3, 0, none⟩) 2 2] 25) := ⟨_, rfl⟩
  have hbl : Below w1.heap.size w1 w2 := by rw [hw2]; exact bl_alloc _ _
  have hc0 : w2.cell? ⟨w1.heap.size, 0, none⟩ = some (.slice (some ⟨b, 0, none⟩) 4 4) := by rw [hw2, World.cell?_alloc_at _ _ _ _ rfl]; rfl
  have hc1 : w2.cell? ⟨w1.heap.size, 1, none⟩ = some (.slice (some ⟨b + 3, 0, none⟩) 2 2) := by rw [hw2, World.cell?_alloc_at _ _ _ _ rfl]; rfl
  have HC := Lib.hid (And.intro hc0 hc1)
  have HT := Lib.hid (hT.below hbl)
  have HB := Lib.hid (bl_trans hb hbl)
  have HCL := Lib.hid (close0 b w2 HT.out)
  have hs2 : w2.heap.size = w1.heap.size + 1 := by rw [hw2]; simp
  rw [hs2, hw2] at HCL
  clear hT hb hc0 hc1 hbl
  go_wp2_with fail
  refine HCL.out.mono ?_
  rw [← hw2]
  rintro e w3 ⟨q, c, rfl, hsl, hb3⟩
  have HS := Lib.hid hsl
  rw [← hs2, hw2] at hb3
  rw [← hw2] at hb3
  have HB3 := Lib.hid hb3
  generalize hbt : w1.heap.size = bt at HC ⊢
  have hc0 := keep_cell HB3.out HC.out.1
  have hc1 := keep_cell HB3.out HC.out.2
  clear hsl hb3 HCL hw2 hs2 hbt
  go_wp2_with fail
  refine (fwords_any _ _ _ _ _ _ F0 (P0 b) true true w3 ⟨fun _ => tr0 b, fun _ => rfl⟩ (HT.out.below HB3.out)).mono ?_
  rw [words0]
  rintro e w4 ⟨q6, c6, he, ho, hb4⟩
  obtain rfl : e = .returned (.slice q6 6 c6) := he
  have HS6 := Lib.hid (tells_sl (l := [(48, 57), (65, 90), (95, 95), (97, 122), (383, 383), (8490, 8490)]) ho)
  have HS4 := Lib.hid (HS.out.below hb4)
  have HB4 := Lib.hid (bl_trans HB3.out hb4)
  replace hc0 := keep_cell hb4 hc0
  replace hc1 := keep_cell hb4 hc1
  clear ho hb4 HS
  go_wp2_with fail
  refine (fright_any _ _ _ _ _ _ F0 (P0 b) w4 (HT.out.below HB4.out)).mono ?_
  rintro e w5 ⟨t, rfl, ht, hb5⟩
  obtain rfl : t = true := ht.2 (tr0 b)
  have HB5 := Lib.hid (bl_trans HB4.out hb5)
  replace HS6 := Lib.hid (HS6.out.below hb5)
  replace HS4 := Lib.hid (HS4.out.below hb5)
  replace hc0 := keep_cell hb5 hc0
  replace hc1 := keep_cell hb5 hc1
  clear ht hb5
  go_wp2_with fail
  refine (fcanon_any propsRight_any _ _ _ _ _ _ F0 (P0 b) 65 w5 (HT.out.below HB5.out)).mono ?_
  rw [(canon0 b).1]
  rintro e w6 ⟨rfl, hb6⟩
  have HB6 := Lib.hid (bl_trans HB5.out hb6)
  replace HS6 := Lib.hid (HS6.out.below hb6)
  replace HS4 := Lib.hid (HS4.out.below hb6)
  replace hc0 := keep_cell hb6 hc0
  replace hc1 := keep_cell hb6 hc1
  clear hb6
  go_wp2_with fail
  refine (fcanon_any propsRight_any _ _ _ _ _ _ F0 (P0 b) 97 w6 (HT.out.below HB6.out)).mono ?_
  rw [(canon0 b).2]
  rintro e w7 ⟨rfl, hb7⟩
  have HB7 := Lib.hid (bl_trans HB6.out hb7)
  replace HS6 := Lib.hid (HS6.out.below hb7)
  replace HS4 := Lib.hid (HS4.out.below hb7)
  clear hb7 hc0 hc1
  go_wp2_with fail
  have hnw := tells_new (w := w7) (l := [(75, 75), (107, 107), (8490, 8490)]) (n := 3) (cs := #[.int .i64 75, .int .i64 75, .int .i64 107, .int .i64 107, .int .i64 8490, .int .i64 8490]) rfl rfl (by decide)
  obtain ⟨p, c3, he, ho, hb8⟩ := hnw
  obtain ⟨rfl, rfl⟩ : p = some ⟨w7.heap.size, 0, none⟩ ∧ c3 = 3 := by
    simp only [Ending.returned.injEq, Value.slice.injEq] at he
    exact ⟨he.1.symm, he.2.2.symm⟩
  refine (samek q (some ⟨w7.heap.size, 0, none⟩) c 3 3 [(75, 75), (107, 107), (8490, 8490)] _ rfl (HS4.out.below hb8) (tells_sl ho) (by decide)).mono ?_
  rintro e w8 ⟨rfl, hb9⟩
  have HB8 := Lib.hid (bl_trans HB7.out (bl_trans hb8 hb9))
  replace HS6 := Lib.hid ((HS6.out.below hb8).below hb9)
  have HBW := Lib.hid (bl_trans HB.out (bl_trans (Below.refl _ _) HB8.out))
  clear hb8 hb9 ho he
  obtain ⟨bb, o, rfl, hd0, _⟩ := slr_at HS6.out (show 5 < 6 by decide)
  have hd : w8.cell? ⟨bb, o + 5 * 2, none⟩ = some (.int .i64 8490) := hd0
  clear hd0
  go_wp2
  go_ret
  exact ⟨rfl, HBW.out⟩
end Go.Proofs.YtgcgclmfjlecaaaGreat
