/- The chapter's own tables; the law's awake. -/
/- The law's awake; its walk. -/
import Derived.Test.YtglgfpapackcdaaGreatGrg

namespace Go.Proofs.YtglgfpapackcdaaGreat
open Go.RowKit Tnr

def F0 : List R := [(65, 97), (75, 107), (383, 115), (8490, 107)]
def P0 (b : Nat) : List PV := [(⟨#[65, 110, 121]⟩, some ⟨b + 1, 0, none⟩, 1, [(0, 1114111)]), (⟨#[76, 117]⟩, some ⟨b + 2, 0, none⟩, 1, [(65, 90)])]
theorem tr0 (b : Nat) : TR F0 (P0 b) := by
  refine ⟨⟨fun i hi => ?_, rise_of fun i hi => ?_, fun f hf => ?_⟩, fun i hi => ?_⟩
  · match i, hi with
    | 0, _ => exact ⟨⟨by decide, by decide⟩, by decide, by decide⟩
    | 1, _ => exact ⟨⟨by decide, by decide⟩, by decide, by decide⟩
    | 2, _ => exact ⟨⟨by decide, by decide⟩, by decide, by decide⟩
    | 3, _ => exact ⟨⟨by decide, by decide⟩, by decide, by decide⟩
    | i + 4, h => exact absurd h (by simp [F0])
  · match i, hi with
    | 0, _ => decide
    | 1, _ => decide
    | 2, _ => decide
    | i + 3, h => exact absurd h (by simp [F0])
  · simp only [F0, List.mem_cons, List.not_mem_nil, or_false] at hf
    rcases hf with rfl | rfl | rfl | rfl <;> decide
  · match i, hi with
    | 0, _ => exact ⟨rfl, fun h => absurd h (by decide), (by show 1 ≤ 2000; decide), rfl⟩
    | 1, _ => exact ⟨rfl, fun _ => (leB_iff _ _).2 (show ([65, 110, 121] : List UInt8) < [76, 117] from List.Lex.rel (by decide)), (by show 1 ≤ 2000; decide), rfl⟩
    | i + 2, h => exact absurd h (by simp [P0])
theorem clo0 : clo F0 [(8490, 8490)] = [(75, 75), (107, 107), (8490, 8490)] := by
  have h1 : toks F0 [(8490, 8490)] = [107] := by decide
  have h2 : froms F0 [(8490, 8490)] = [75, 8490] := by decide
  refine (clo_right _ _).one (by simp [Rt, RF]) fun c => ?_
  rw [clo_has, h1, h2]
  simp only [Has, Cov, List.mem_cons, List.not_mem_nil, or_false, exists_eq_or_imp, exists_eq_left]
  omega
theorem words0 : wordsS F0 true true = [(48, 57), (65, 90), (95, 95), (97, 122), (383, 383), (8490, 8490)] := by
  have h1 : toks F0 wordsL = [97, 107, 115, 107] := by decide
  have h2 : froms F0 wordsL = [65, 75, 383, 8490] := by decide
  show clo F0 wordsL = _
  refine (clo_right _ _).one (by simp [Rt, RF]) fun c => ?_
  rw [clo_has, h1, h2]
  simp only [Has, Cov, wordsL, List.mem_cons, List.not_mem_nil, or_false, exists_eq_or_imp, exists_eq_left]
  omega
theorem canon0 (b : Nat) : canonF F0 (P0 b) 65 = 97 ∧ canonF F0 (P0 b) 97 = 97 := by
  unfold canonF
  rw [if_pos (tr0 b), if_pos (tr0 b)]
  exact ⟨by decide, by decide⟩

set_option maxHeartbeats 1600000 in
set_option maxRecDepth 100000 in
theorem some_any (w : World) : Calls Tryz.prog 4 #[] w fun e w' => ∃ b, e = .returned (.agg #[.slice (some ⟨b, 0, none⟩) 4 4, .slice (some ⟨b + 3, 0, none⟩) 2 2]) ∧ Tab w' (some ⟨b, 0, none⟩) 4 (some ⟨b + 3, 0, none⟩) 2 F0 (P0 b) ∧ Below w.heap.size w w' := by
  obtain ⟨b, hb⟩ : ∃ b, b = w.heap.size + 1 := ⟨_, rfl⟩
  obtain ⟨w1, hw1⟩ : ∃ W, W = w.alloc (.cells #[.slice (some ⟨b, 0, none⟩) 4 4, .slice (some ⟨b + 3, 0, none⟩) 2 2] 30) := ⟨_, rfl⟩
  obtain ⟨w2, hw2⟩ : ∃ W, W = w1.alloc (.cells #[.int .i64 65, .int .i64 97, .int .i64 75, .int .i64 107, .int .i64 383, .int .i64 115, .int .i64 8490, .int .i64 107] 33) := ⟨_, rfl⟩
  obtain ⟨w3, hw3⟩ : ∃ W, W = w2.alloc (.cells #[.int .i64 0, .int .i64 1114111] 24) := ⟨_, rfl⟩
  obtain ⟨w4, hw4⟩ : ∃ W, W = w3.alloc (.cells #[.int .i64 65, .int .i64 90] 24) := ⟨_, rfl⟩
  obtain ⟨w5, hw5⟩ : ∃ W, W = w4.alloc (.cells #[.string ⟨#[65, 110, 121]⟩, .slice (some ⟨b + 1, 0, none⟩) 1 1, .string ⟨#[76, 117]⟩, .slice (some ⟨b + 2, 0, none⟩) 1 1] 37) := ⟨_, rfl⟩
  have s1 : w1.heap.size = b := by rw [hw1, hb]; simp
  have s2 : w2.heap.size = b + 1 := by rw [hw2]; simp [s1]
  have s3 : w3.heap.size = b + 2 := by rw [hw3]; simp [s2]
  have s4 : w4.heap.size = b + 3 := by rw [hw4]; simp [s3]
  have b1 : Below w.heap.size w w1 := by rw [hw1]; exact bl_alloc _ _
  have b2 : Below w1.heap.size w1 w2 := by rw [hw2]; exact bl_alloc _ _
  have b3 : Below w2.heap.size w2 w3 := by rw [hw3]; exact bl_alloc _ _
  have b4 : Below w3.heap.size w3 w4 := by rw [hw4]; exact bl_alloc _ _
  have b5 : Below w4.heap.size w4 w5 := by rw [hw5]; exact bl_alloc _ _
  have hres : w1.heap[w.heap.size]? = some (.cells #[.slice (some ⟨b, 0, none⟩) 4 4, .slice (some ⟨b + 3, 0, none⟩) 2 2] 30 (0, 0)) := by rw [hw1]; exact heap_alloc_new w _
  have hres5 : w5.heap[w.heap.size]? = some (.cells #[.slice (some ⟨b, 0, none⟩) 4 4, .slice (some ⟨b + 3, 0, none⟩) 2 2] 30 (0, 0)) := by
    have hbb := bl_trans b2 (bl_trans b3 (bl_trans b4 b5))
    rw [hbb.block _ (lt_of_block hres)]; exact hres
  have hF : SlR w5 (some ⟨b, 0, none⟩) F0 := by
    have h0 : SlR w2 (some ⟨w1.heap.size, 0, none⟩) F0 := by
      refine .inr ⟨_, 0, rfl, fun i hi => ?_⟩
      rw [hw2, World.cell?_alloc_at _ _ _ _ rfl, World.cell?_alloc_at _ _ _ _ rfl]
      match i, hi with
      | 0, _ => exact ⟨rfl, rfl⟩
      | 1, _ => exact ⟨rfl, rfl⟩
      | 2, _ => exact ⟨rfl, rfl⟩
      | 3, _ => exact ⟨rfl, rfl⟩
      | i + 4, h => exact absurd h (by simp [F0])
    rw [s1] at h0
    exact h0.below (bl_trans b3 (bl_trans b4 b5))
  have hA : SlR w5 (some ⟨b + 1, 0, none⟩) [(0, 1114111)] := by
    have h0 : SlR w3 (some ⟨w2.heap.size, 0, none⟩) [(0, 1114111)] := by
      refine .inr ⟨_, 0, rfl, fun i hi => ?_⟩
      rw [hw3, World.cell?_alloc_at _ _ _ _ rfl, World.cell?_alloc_at _ _ _ _ rfl]
      match i, hi with
      | 0, _ => exact ⟨rfl, rfl⟩
      | i + 1, h => exact absurd h (by simp)
    rw [s2] at h0
    exact h0.below (bl_trans b4 b5)
  have hL : SlR w5 (some ⟨b + 2, 0, none⟩) [(65, 90)] := by
    have h0 : SlR w4 (some ⟨w3.heap.size, 0, none⟩) [(65, 90)] := by
      refine .inr ⟨_, 0, rfl, fun i hi => ?_⟩
      rw [hw4, World.cell?_alloc_at _ _ _ _ rfl, World.cell?_alloc_at _ _ _ _ rfl]
      match i, hi with
      | 0, _ => exact ⟨rfl, rfl⟩
      | i + 1, h => exact absurd h (by simp)
    rw [s3] at h0
    exact h0.below b5
  have hP : SlP w5 (some ⟨b + 3, 0, none⟩) (P0 b) := by
    refine ⟨fun x hx => ?_, .inr ⟨b + 3, 0, rfl, fun i hi => ?_⟩⟩
    · simp only [P0, List.mem_cons, List.not_mem_nil, or_false] at hx
      rcases hx with rfl | rfl
      · exact hA
      · exact hL
    · rw [← s4, hw5, World.cell?_alloc_at _ _ _ _ rfl, World.cell?_alloc_at _ _ _ _ rfl]
      match i, hi with
      | 0, _ => exact ⟨rfl, rfl⟩
      | 1, _ => exact ⟨rfl, rfl⟩
      | i + 2, h => exact absurd h (by simp [P0])
  have hT := Lib.hid (show Tab w5 (some ⟨b, 0, none⟩) 4 (some ⟨b + 3, 0, none⟩) 2 F0 (P0 b) from ⟨rfl, hF, by decide, rfl, hP, by decide, fun x hx => by
    simp only [P0, List.mem_cons, List.not_mem_nil, or_false] at hx
    rcases hx with rfl | rfl <;> simp⟩)
  have HBB := Lib.hid (bl_trans b1 (bl_trans b2 (bl_trans b3 (bl_trans b4 b5))))
  have HR := Lib.hid hres5
  clear hF hA hL hP hres hres5 b1 b2 b3 b4 b5 s1 s2 s3 s4
  go_enter Tryz.func4, Tryz.ntmps4
  go_wp2
  have e2 : w.heap.size + 1 + 1 = b + 1 := by rw [hb]
  have e3 : w.heap.size + 1 + 1 + 1 = b + 2 := by rw [hb]
  have e4 : w.heap.size + 1 + 1 + 1 + 1 = b + 3 := by rw [hb]
  rw [e4, e3, e2, ← hb, ← hw1, ← hw2, ← hw3, ← hw4, ← hw5]
  refine bodyPost_ret (results_cell_row rfl _ _ w.heap.size 30 _ (0, 0) _ rfl HR.out Tryz.underlying30 rfl (by kernel_rfl)) rfl ?_
  exact ⟨b, rfl, hT.out, HBB.out⟩
set_option maxHeartbeats 1600000 in
set_option maxRecDepth 100000 in
theorem fright_any (pf pp : Option Addr) (cf cp n m : Nat) (F : List R) (xs : List PV) (w : World) (h : Tab w pf n pp m F xs) :
    Calls Tryz.prog 7 #[.agg #[.slice pf n cf, .slice pp m cp]] w fun e w' => ∃ t : Bool, e = .returned (.bool t) ∧ (t = true ↔ TR F xs) ∧ Below w.heap.size w w' := by
  have hbl := bl_alloc w (.cells #[.slice pf n cf, .slice pp m cp] 30)
  have HJ := Lib.hid (tright_any propsRight_any pf pp cf cp n m F xs _ (h.below hbl))
  have HB := Lib.hid hbl
  clear h hbl
  go_enter Tryz.func7, Tryz.ntmps7
  go_wp2_with fail
  refine HJ.out.mono ?_
  rintro e w2 ⟨t, rfl, ht, hb⟩
  have HT := Lib.hid ht
  have HB2 := Lib.hid (bl_trans HB.out hb)
  clear ht hb
  go_wp2
  go_ret
  exact ⟨t, rfl, HT.out, HB2.out⟩
end Go.Proofs.YtglgfpapackcdaaGreat


namespace Go.Proofs.YtglgfpapackcdaaGreat
open Go.RowKit Tnr

theorem close0 (b : Nat) (W : World) (h : Tab W (some ⟨b, 0, none⟩) 4 (some ⟨b + 3, 0, none⟩) 2 F0 (P0 b)) :
    Calls Tryz.prog 16 #[.agg #[.slice (some ⟨b, 0, none⟩) 4 4, .slice (some ⟨b + 3, 0, none⟩) 2 2], .slice (some ⟨W.heap.size + 1, 0, none⟩) 1 1] ((W.alloc (.cells #[.int .i64 8490, .int .i64 8490] 24)).alloc (.cells #[.slice (some ⟨W.heap.size, 0, none⟩) 1 1] 25)) fun e w' => ∃ q c, e = .returned (.slice q 3 c) ∧ SlR w' q [(75, 75), (107, 107), (8490, 8490)] ∧ Below W.heap.size W w' := by
  have h1 := tells_new (w := W) (l := [(8490, 8490)]) (n := 1) (cs := #[.int .i64 8490, .int .i64 8490]) rfl rfl (by decide)
  obtain ⟨p, c, he, ho, hb⟩ := h1
  simp only [Ending.returned.injEq, Value.slice.injEq, List.length_singleton, true_and] at he
  obtain ⟨rfl, rfl⟩ := he
  have hs := tells_sl ho
  have h2 := sls_new (w := W.alloc (.cells #[.int .i64 8490, .int .i64 8490] 24)) (xs := [(some ⟨W.heap.size, 0, none⟩, 1, [(8490, 8490)])]) (cs := #[.slice (some ⟨W.heap.size, 0, none⟩) 1 1]) (T := 25) (fun x hx => by
    simp only [List.mem_singleton] at hx
    subst hx
    exact hs) rfl
  have hs1 : (W.alloc (.cells #[.int .i64 8490, .int .i64 8490] 24)).heap.size = W.heap.size + 1 := by simp
  rw [hs1] at h2
  have hbl := bl_alloc (W.alloc (.cells #[.int .i64 8490, .int .i64 8490] 24)) (.cells #[.slice (some ⟨W.heap.size, 0, none⟩) 1 1] 25)
  refine (fclose_t _ _ _ _ _ _ _ _ _ F0 (P0 b) [(some ⟨W.heap.size, 0, none⟩, 1, [(8490, 8490)])] true _ ⟨fun _ => tr0 b, fun _ => rfl⟩ ((h.below hb).below hbl) h2 rfl (by simp [flat]) (by simp)).mono ?_
  have e1 : flat [(some (⟨W.heap.size, 0, none⟩ : Addr), 1, [(8490, 8490)])] = [(8490, 8490)] := by simp [flat]
  rw [e1, if_pos rfl, clo0]
  rintro e w' ⟨q, c, h3, h4, h5⟩
  exact ⟨q, c, h3, tells_sl h4, bl_trans hb (bl_trans hbl h5)⟩

set_option maxHeartbeats 3200000 in
set_option maxRecDepth 100000 in
theorem fawake_any (w : World) : Calls Tryz.prog 9 #[] w fun e w' => e = .returned (.bool true) ∧ Below w.heap.size w w' := by
  go_enter Tryz.func9, Tryz.ntmps9
  go_wp2_with fail
  refine (some_any w).mono ?_
  rintro e w1 ⟨b, rfl, hT, hb⟩
  obtain ⟨w2, hw2⟩ : ∃ W, W = w1.alloc (.cells #[.slice (some ⟨b, 0, none⟩) 4 4, .slice (some ⟨b + 3, 0, none⟩) 2 2] 30) := ⟨_, rfl⟩
  have hbl : Below w1.heap.size w1 w2 := by rw [hw2]; exact bl_alloc _ _
  have hc0 : w2.cell? ⟨w1.heap.size, 0, none⟩ = some (.slice (some ⟨b, 0, none⟩) 4 4) := by rw [hw2, World.cell?_alloc_at _ _ _ _ rfl]; rfl
  have hc1 : w2.cell? ⟨w1.heap.size, 1, none⟩ = some (.slice (some ⟨b + 3, 0, none⟩) 2 2) := by rw [hw2, World.cell?_alloc_at _ _ _ _ rfl]; rfl
  have HC := Lib.hid (And.intro hc0 hc1)
  have HT := Lib.hid (hT.below hbl)
  have HB := Lib.hid (bl_trans hb hbl)
  have HCL := Lib.hid (close0 b w2 HT.out)
  have hs2 : w2.heap.size = w1.heap.size + 1 := by rw [hw2]; simp
  rw [hs2, hw2] at HCL
  clear hT hb hc0 hc1 hbl
  go_wp2_with fail
  refine HCL.out.mono ?_
  rw [← hw2]
  rintro e w3 ⟨q, c, rfl, hsl, hb3⟩
  have HS := Lib.hid hsl
  rw [← hs2, hw2] at hb3
  rw [← hw2] at hb3
  have HB3 := Lib.hid hb3
  generalize hbt : w1.heap.size = bt at HC ⊢
  have hc0 := keep_cell HB3.out HC.out.1
  have hc1 := keep_cell HB3.out HC.out.2
  clear hsl hb3 HCL hw2 hs2 hbt
  go_wp2_with fail
  refine (fwords_any _ _ _ _ _ _ F0 (P0 b) true true w3 ⟨fun _ => tr0 b, fun _ => rfl⟩ (HT.out.below HB3.out)).mono ?_
  rw [words0]
  rintro e w4 ⟨q6, c6, he, ho, hb4⟩
  obtain rfl : e = .returned (.slice q6 6 c6) := he
  have HS6 := Lib.hid (tells_sl (l := [(48, 57), (65, 90), (95, 95), (97, 122), (383, 383), (8490, 8490)]) ho)
  have HS4 := Lib.hid (HS.out.below hb4)
  have HB4 := Lib.hid (bl_trans HB3.out hb4)
  replace hc0 := keep_cell hb4 hc0
  replace hc1 := keep_cell hb4 hc1
  clear ho hb4 HS
  go_wp2_with fail
  refine (fright_any _ _ _ _ _ _ F0 (P0 b) w4 (HT.out.below HB4.out)).mono ?_
  rintro e w5 ⟨t, rfl, ht, hb5⟩
  obtain rfl : t = true := ht.2 (tr0 b)
  have HB5 := Lib.hid (bl_trans HB4.out hb5)
  replace HS6 := Lib.hid (HS6.out.below hb5)
  replace HS4 := Lib.hid (HS4.out.below hb5)
  replace hc0 := keep_cell hb5 hc0
  replace hc1 := keep_cell hb5 hc1
  clear ht hb5
  go_wp2_with fail
  refine (fcanon_any propsRight_any _ _ _ _ _ _ F0 (P0 b) 65 w5 (HT.out.below HB5.out)).mono ?_
  rw [(canon0 b).1]
  rintro e w6 ⟨rfl, hb6⟩
  have HB6 := Lib.hid (bl_trans HB5.out hb6)
  replace HS6 := Lib.hid (HS6.out.below hb6)
  replace HS4 := Lib.hid (HS4.out.below hb6)
  replace hc0 := keep_cell hb6 hc0
  replace hc1 := keep_cell hb6 hc1
  clear hb6
  go_wp2_with fail
  refine (fcanon_any propsRight_any _ _ _ _ _ _ F0 (P0 b) 97 w6 (HT.out.below HB6.out)).mono ?_
  rw [(canon0 b).2]
  rintro e w7 ⟨rfl, hb7⟩
  have HB7 := Lib.hid (bl_trans HB6.out hb7)
  replace HS6 := Lib.hid (HS6.out.below hb7)
  replace HS4 := Lib.hid (HS4.out.below hb7)
  clear hb7 hc0 hc1
  go_wp2_with fail
  have hnw := tells_new (w := w7) (l := [(75, 75), (107, 107), (8490, 8490)]) (n := 3) (cs := #[.int .i64 75, .int .i64 75, .int .i64 107, .int .i64 107, .int .i64 8490, .int .i64 8490]) rfl rfl (by decide)
  obtain ⟨p, c3, he, ho, hb8⟩ := hnw
  obtain ⟨rfl, rfl⟩ : p = some ⟨w7.heap.size, 0, none⟩ ∧ c3 = 3 := by
    simp only [Ending.returned.injEq, Value.slice.injEq] at he
    exact ⟨he.1.symm, he.2.2.symm⟩
  refine (samek q (some ⟨w7.heap.size, 0, none⟩) c 3 3 [(75, 75), (107, 107), (8490, 8490)] _ rfl (HS4.out.below hb8) (tells_sl ho) (by decide)).mono ?_
  rintro e w8 ⟨rfl, hb9⟩
  have HB8 := Lib.hid (bl_trans HB7.out (bl_trans hb8 hb9))
  replace HS6 := Lib.hid ((HS6.out.below hb8).below hb9)
  have HBW := Lib.hid (bl_trans HB.out (bl_trans (Below.refl _ _) HB8.out))
  clear hb8 hb9 ho he
  obtain ⟨bb, o, rfl, hd0, _⟩ := slr_at HS6.out (show 5 < 6 by decide)
  have hd : w8.cell? ⟨bb, o + 5 * 2, none⟩ = some (.int .i64 8490) := hd0
  clear hd0
  go_wp2
  go_ret
  exact ⟨rfl, HBW.out⟩
end Go.Proofs.YtglgfpapackcdaaGreat

