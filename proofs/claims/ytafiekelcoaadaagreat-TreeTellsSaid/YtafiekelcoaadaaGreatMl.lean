/- The walks of TextsOf, RangesOf, TreeOf, TreesOf, great: what is not too much to go through. -/
import Derived.Test.YtafiekelcoaadaaGreatMk

namespace Go.Proofs.YtafiekelcoaadaaGreat
open Go.RowKit Tnr Tnt

set_option maxHeartbeats 1600000 in
set_option maxRecDepth 100000 in
theorem textsOf6_any (p : Option Addr) (m c : Nat) (l : List ByteArray) (w : World) (hm : m = l.length) (hmI : (m : Int) ≤ 9223372036854775807) (hp : SlX w p l) (hz : ∀ x ∈ l, x.size ≤ 9223372036854775807) :
    Calls Tryz.prog 115 #[.slice p m c, .int .i64 3000] w fun e w' => (∃ z : Int, e = .returned (.int .i64 z) ∧ 0 ≤ z ∧ z ≤ 1152921504606850000 ∧ (z ≤ 3000 → (m : Int) ≤ z)) ∧ w' = w := by
  have HP := Lib.hid hp
  have HM := Lib.hid hm
  have HZ := Lib.hid hz
  clear hp hm hz
  go_enter Tryz.func115, Tryz.ntmps115
  go_wp2
  go_loopw [5, 6] (fun iv jv wr => ∃ (k : Nat) (z : Int), k ≤ m ∧ jv = .int .i64 (k : Nat) ∧ iv = .int .i64 z ∧ (k : Int) ≤ z ∧ z ≤ 1152921504606850000 ∧ wr = w) (fun _ jv _ => m - (intOf jv).toNat)
  case atStart => exact ⟨0, 0, Nat.zero_le _, rfl, rfl, by omega, by omega, rfl⟩
  case round =>
    obtain ⟨k, z, hk, rfl, rfl, hkz, hzm, rfl⟩ := hrel
    by_cases hkm : k < m
    · have hkI : (k : Int) < m := by omega
      by_cases hz3 : z ≤ 3000
      · obtain ⟨b, o, rfl, hc⟩ := slx_at HP.out (show k < l.length by have := HM.out; omega)
        obtain ⟨s, hs⟩ : ∃ s, s = gb l k := ⟨_, rfl⟩
        rw [← hs] at hc
        have hsz : s.size ≤ 9223372036854775807 := by
          rw [hs, gb_get (show k < l.length by have := HM.out; omega)]
          exact HZ.out _ (List.getElem_mem _)
        have h8 : ((s.size : Nat) : Int).tdiv 8 = (s.size : Int) / 8 := Int.tdiv_eq_ediv_of_nonneg (by omega)
        have hw1 : IntKind.i64.wrap (z + 1) = z + 1 := by rw [IntKind.wrap_i64]; omega
        have hw2 : IntKind.i64.wrap ((s.size : Int) / 8) = ((s.size : Int) / 8) := by rw [IntKind.wrap_i64]; omega
        have hw3 : IntKind.i64.wrap (z + 1 + ((s.size : Int) / 8)) = z + 1 + ((s.size : Int) / 8) := by rw [IntKind.wrap_i64]; omega
        have hw4 : IntKind.i64.wrap ((k : Nat) + 1 : Int) = (k : Nat) + 1 := by rw [IntKind.wrap_i64]; omega
        have e1 : decide (z ≤ 3000) = true := by simpa using hz3
        clear hs
        go_wp2
        go_roundw
        case rel => exact ⟨k + 1, z + 1 + ((s.size : Int) / 8), by omega, by go_num, rfl, by omega, by omega, by first | rfl | trivial⟩
        case measure => simp [intOf]; omega
      · have e1 : decide (z ≤ 3000) = false := by simpa using hz3
        go_wp2
        go_ret
        exact ⟨⟨z, rfl, by omega, hzm, fun h => by omega⟩, by first | rfl | trivial⟩
    · have hkI : decide ((k : Int) < m) = false := by simp; omega
      go_wp2
      go_ret
      exact ⟨⟨z, rfl, by omega, hzm, fun h => by omega⟩, by first | rfl | trivial⟩
set_option maxRecDepth 100000 in
theorem rangesOf6_any (q : Option Addr) (c k : Nat) (w : World) : Calls Tryz.prog 116 #[.slice q k c, .int .i64 3000] w fun e w' => e = .returned (.int .i64 ((min k 3001 : Nat) : Int)) ∧ w' = w := by
  go_enter Tryz.func116, Tryz.ntmps116
  go_wp2
  go_ret
  exact ⟨by rw [show ((min k 3001 : Nat) : Int) = min (k : Int) 3001 by omega]; rfl, rfl⟩
set_option maxHeartbeats 3200000 in
set_option maxRecDepth 100000 in
theorem treeOf6_any (p : Option Addr) (n c : Nat) (xs : List NV) (pn : Option Addr) (nn cn : Nat) (nm : List ByteArray) (w : World) (hn : n = xs.length) (hnI : (n : Int) ≤ 9223372036854775807) (hp : SlN w p xs) (hf : ∀ x ∈ xs, x.nd.kids.length ≤ 9223372036854775807 ∧ x.nd.set.length ≤ 9223372036854775807) (hnn : nn = nm.length) (hnnI : (nn : Int) ≤ 9223372036854775807) (hX : SlX w pn nm) (hz : ∀ x ∈ nm, x.size ≤ 9223372036854775807) :
    Calls Tryz.prog 71 #[.agg #[.slice p n c, .slice pn nn cn], .int .i64 3000] w fun e w' => (∃ z : Int, e = .returned (.int .i64 z) ∧ 0 ≤ z ∧ z ≤ 1152921504606860000 ∧ (z ≤ 3000 → nn ≤ 3000 ∧ n ≤ 3000 ∧ ∀ x ∈ xs, x.nd.kids.length ≤ 3000 ∧ x.nd.set.length ≤ 3000)) ∧ Below w.heap.size w w' := by
  obtain ⟨W1, hW1⟩ : ∃ W, W = w.alloc (.cells #[.slice p n c, .slice pn nn cn] 25) := ⟨_, rfl⟩
  obtain ⟨b0, hb0⟩ : ∃ b, b = w.heap.size := ⟨_, rfl⟩
  have hb1 : Below w.heap.size w W1 := by rw [hW1]; exact bl_alloc _ _
  have hT : Bx W1 b0 25 #[.slice p n c, .slice pn nn cn] := by rw [hW1, hb0]; exact Bx.new w _ _
  have cT0 : W1.cell? ⟨b0, 0, none⟩ = some (.slice p n c) := hT.cell rfl
  have cT1 : W1.cell? ⟨b0, 1, none⟩ = some (.slice pn nn cn) := hT.cell rfl
  have HT := Lib.hid (textsOf6_any pn nn cn nm W1 hnn hnnI (hX.below hb1) hz)
  have HP := Lib.hid (hp.below hb1)
  have HN := Lib.hid (And.intro hn hf)
  have HB1 := Lib.hid hb1
  have HW1 := Lib.hid (And.intro hW1 hb0)
  clear hn hp hf hnn hnnI hX hz hW1 hb1 hT hb0
  go_enter Tryz.func71, Tryz.ntmps71
  go_wp2_with fail
  rw [← HW1.out.2, show w.alloc (.cells #[.slice p n c, .slice pn nn cn] 25) = W1 from HW1.out.1.symm]
  refine (HT.out).mono ?_
  rintro e w5 ⟨⟨tz, rfl, ht0, htm, htn⟩, rfl⟩
  have HTN := Lib.hid htn
  clear htn HT
  go_wp2
  go_loopw [5, 6] (fun iv jv wr => ∃ (k r : Nat) (z : Int), k ≤ n ∧ jv = .int .i64 (k : Nat) ∧ iv = .int .i64 z ∧ Hid (tz ≤ z ∧ (k : Int) ≤ z ∧ z ≤ 1152921504606860000) ∧ Hid (∀ j, j < k → ((min (gn xs j).nd.set.length 3001 : Nat) : Int) + ((min (gn xs j).nd.kids.length 3000 : Nat) : Int) + 1 ≤ z) ∧ wr = w5.drewN r) (fun _ jv _ => n - (intOf jv).toNat)
  case atStart => exact ⟨0, 0, tz, Nat.zero_le _, rfl, rfl, ⟨by omega, by omega, by omega⟩, fun j hj => absurd hj (by omega), rfl⟩
  case round =>
    obtain ⟨k, r, z, hk, rfl, rfl, HZ, HE, rfl⟩ := hrel
    by_cases hkn : k < n
    · have hkI : (k : Int) < n := by omega
      by_cases hz3 : z ≤ 3000
      · have hkx : k < xs.length := by have := HN.out.1; omega
        obtain ⟨b, o, rfl, hcells, _⟩ := HP.out.at hkx
        obtain ⟨x, hx⟩ : ∃ x, x = gn xs k := ⟨_, rfl⟩
        have hfx := HN.out.2 _ (gn_mem hkx)
        rw [← hx] at hcells hfx
        obtain ⟨ls, hls⟩ : ∃ n, n = x.nd.set.length := ⟨_, rfl⟩
        obtain ⟨lk, hlk⟩ : ∃ n, n = x.nd.kids.length := ⟨_, rfl⟩
        obtain ⟨_, c1, c2, _⟩ := hcells
        rw [← hls] at c1 hfx
        rw [← hlk] at c2 hfx
        have HX := Lib.hid (And.intro hx (And.intro hls hlk))
        have HR : Hid (∀ q, Calls Tryz.prog 116 #[.slice x.ps ls x.cs, .int .i64 3000] (w5.drewN q) fun e w' => e = .returned (.int .i64 ((min ls 3001 : Nat) : Int)) ∧ w' = w5.drewN q) := fun q => rangesOf6_any _ _ _ _
        have hls2 : min ls 3001 ≤ 3001 := by omega
        obtain ⟨ms, hms⟩ : ∃ m, m = min ls 3001 := ⟨_, rfl⟩
        rw [← hms] at HR hls2
        have HMS := Lib.hid hms
        have hz0 : 0 ≤ z := by have := HZ.out; omega
        have hw1 : IntKind.i64.wrap (z + 1) = z + 1 := by rw [IntKind.wrap_i64]; omega
        have hw2 : IntKind.i64.wrap (z + 1 + ((ms : Nat) : Int)) = z + 1 + ((ms : Nat) : Int) := by rw [IntKind.wrap_i64]; omega
        have hw3 : IntKind.i64.wrap (z + 1 + ((ms : Nat) : Int) + min ((lk : Nat) : Int) 3000) = z + 1 + ((ms : Nat) : Int) + min ((lk : Nat) : Int) 3000 := by rw [IntKind.wrap_i64]; omega
        have hw4 : IntKind.i64.wrap ((k : Nat) + 1 : Int) = (k : Nat) + 1 := by rw [IntKind.wrap_i64]; omega
        have e1 : decide (z ≤ 3000) = true := by simpa using hz3
        clear hx hls hlk hms hfx hkx
        obtain ⟨C, hC⟩ : ∃ C : World → Prop, C = fun V => V.cell? ⟨b0, 0, none⟩ = some (.slice (some ⟨b, o, none⟩) n c) ∧ V.cell? ⟨b, o + k * 9 + 1, none⟩ = some (.slice x.ps ls x.cs) ∧ V.cell? ⟨b, o + k * 9 + 2, none⟩ = some (.slice x.pk lk x.ck) ∧ ∃ q, V = w5.drewN q := ⟨_, rfl⟩
        have hCd : C (w5.drewN r).drew := by rw [hC]; exact ⟨cT0, c1, c2, r + 1, rfl⟩
        have HF2 : Hid (∀ V, C V → Calls Tryz.prog 116 #[.slice x.ps ls x.cs, .int .i64 3000] V fun e w' => e = .returned (.int .i64 ((ms : Nat) : Int)) ∧ C w') := by
          intro V hV
          have hV' := hV
          rw [hC] at hV'
          obtain ⟨_, _, _, q, rfl⟩ := hV'
          exact (HR.out q).mono fun e w' ⟨h1, h2⟩ => ⟨h1, by rw [h2]; exact hV⟩
        go_wp2
        refine wp_region_quiet (C := C) (by kernel_rfl) (by kernel_rfl) hCd ?_
        clear hCd
        subst hC
        dsimp only
        (refine BigFrame.wpQuiet_want (by kernel_rfl) (fun K hK => ?_); refine ⟨?_, fun V hV => ?_, hK _ ?_⟩; rotate_left; (focus (unfold Oper.quietAt; dsimp only at hV; go_simp; try with_reducible rfl)); clear hK K; (try simp only [Act.put, List.setIfInBounds_toArray, List.set_cons_zero, List.set_cons_succ]))
        (refine BigFrame.wpQuiet_want (by kernel_rfl) (fun K hK => ?_); refine ⟨?_, fun V hV => ?_, hK _ ?_⟩; rotate_left; (focus (unfold Oper.quietAt; dsimp only at hV; go_simp; try with_reducible rfl)); clear hK K; (try simp only [Act.put, List.setIfInBounds_toArray, List.set_cons_zero, List.set_cons_succ]))
        (refine BigFrame.wpQuiet_want (by kernel_rfl) (fun K hK => ?_); refine ⟨?_, fun V hV => ?_, hK _ ?_⟩; rotate_left; (focus (unfold Oper.quietAt; dsimp only at hV; go_simp; try with_reducible rfl)); clear hK K; (try simp only [Act.put, List.setIfInBounds_toArray, List.set_cons_zero, List.set_cons_succ]))
        (refine BigFrame.wpQuiet_want (by kernel_rfl) (fun K hK => ?_); refine ⟨?_, fun V hV => ?_, hK _ ?_⟩; rotate_left; (focus (unfold Oper.quietAt; dsimp only at hV; go_simp; try with_reducible rfl)); clear hK K; (try simp only [Act.put, List.setIfInBounds_toArray, List.set_cons_zero, List.set_cons_succ]))
        (refine BigFrame.wpQuiet_want (by kernel_rfl) (fun K hK => ?_); refine ⟨?_, fun V hV => ?_, hK _ ?_⟩; rotate_left; (focus (unfold Oper.quietAt; dsimp only at hV; go_simp; try with_reducible rfl)); clear hK K; (try simp only [Act.put, List.setIfInBounds_toArray, List.set_cons_zero, List.set_cons_succ]))
        (refine BigFrame.wpQuiet_want (by kernel_rfl) (fun K hK => ?_); refine ⟨?_, fun V hV => ?_, hK _ ?_⟩; rotate_left; (focus (unfold Oper.quietAt; dsimp only at hV; go_simp; try with_reducible rfl)); clear hK K; (try simp only [Act.put, List.setIfInBounds_toArray, List.set_cons_zero, List.set_cons_succ]))
        (refine BigFrame.wpQuiet_want (by kernel_rfl) (fun K hK => ?_); refine ⟨?_, fun V hV => ?_, hK _ ?_⟩; rotate_left; (focus (unfold Oper.quietAt; dsimp only at hV; go_simp; try with_reducible rfl)); clear hK K; (try simp only [Act.put, List.setIfInBounds_toArray, List.set_cons_zero, List.set_cons_succ]))
        (refine BigFrame.wpQuiet_want (by kernel_rfl) (fun K hK => ?_); refine ⟨?_, fun V hV => ?_, hK _ ?_⟩; rotate_left; (focus (unfold Oper.quietAt; dsimp only at hV; go_simp; try with_reducible rfl)); clear hK K; (try simp only [Act.put, List.setIfInBounds_toArray, List.set_cons_zero, List.set_cons_succ]))
        (refine BigFrame.wpQuiet_want (by kernel_rfl) (fun K hK => ?_); refine ⟨?_, fun V hV => ?_, hK _ ?_⟩; rotate_left; (focus (unfold Oper.quietAt; dsimp only at hV; go_simp; try with_reducible rfl)); clear hK K; (try simp only [Act.put, List.setIfInBounds_toArray, List.set_cons_zero, List.set_cons_succ]))
        refine BigFrame.wpQuiet_want (by kernel_rfl) (fun K hK => ?_)
        refine ⟨.int .i64 ((ms : Nat) : Int), fun V hV => ?_, hK _ ?_⟩
        · have HV := Lib.hid hV
          clear hV hK
          unfold Oper.quietAt
          go_simp
          exact HF2.out V HV.out
        clear hK K
        try simp only [Act.put, List.setIfInBounds_toArray, List.set_cons_zero, List.set_cons_succ]
        (refine BigFrame.wpQuiet_want (by kernel_rfl) (fun K hK => ?_); refine ⟨?_, fun V hV => ?_, hK _ ?_⟩; rotate_left; (focus (unfold Oper.quietAt; dsimp only at hV; go_simp; try with_reducible rfl)); clear hK K; (try simp only [Act.put, List.setIfInBounds_toArray, List.set_cons_zero, List.set_cons_succ]))
        (refine BigFrame.wpQuiet_want (by kernel_rfl) (fun K hK => ?_); refine ⟨?_, fun V hV => ?_, hK _ ?_⟩; rotate_left; (focus (unfold Oper.quietAt; dsimp only at hV; go_simp; try with_reducible rfl)); clear hK K; (try simp only [Act.put, List.setIfInBounds_toArray, List.set_cons_zero, List.set_cons_succ]))
        (refine BigFrame.wpQuiet_want (by kernel_rfl) (fun K hK => ?_); refine ⟨?_, fun V hV => ?_, hK _ ?_⟩; rotate_left; (focus (unfold Oper.quietAt; dsimp only at hV; go_simp; try with_reducible rfl)); clear hK K; (try simp only [Act.put, List.setIfInBounds_toArray, List.set_cons_zero, List.set_cons_succ]))
        (refine BigFrame.wpQuiet_want (by kernel_rfl) (fun K hK => ?_); refine ⟨?_, fun V hV => ?_, hK _ ?_⟩; rotate_left; (focus (unfold Oper.quietAt; dsimp only at hV; go_simp; try with_reducible rfl)); clear hK K; (try simp only [Act.put, List.setIfInBounds_toArray, List.set_cons_zero, List.set_cons_succ]))
        (refine BigFrame.wpQuiet_want (by kernel_rfl) (fun K hK => ?_); refine ⟨?_, fun V hV => ?_, hK _ ?_⟩; rotate_left; (focus (unfold Oper.quietAt; dsimp only at hV; go_simp; try with_reducible rfl)); clear hK K; (try simp only [Act.put, List.setIfInBounds_toArray, List.set_cons_zero, List.set_cons_succ]))
        (refine BigFrame.wpQuiet_want (by kernel_rfl) (fun K hK => ?_); refine ⟨?_, fun V hV => ?_, hK _ ?_⟩; rotate_left; (focus (unfold Oper.quietAt; dsimp only at hV; go_simp; try with_reducible rfl)); clear hK K; (try simp only [Act.put, List.setIfInBounds_toArray, List.set_cons_zero, List.set_cons_succ]))
        (refine BigFrame.wpQuiet_want (by kernel_rfl) (fun K hK => ?_); refine ⟨?_, fun V hV => ?_, hK _ ?_⟩; rotate_left; (focus (unfold Oper.quietAt; dsimp only at hV; go_simp; try with_reducible rfl)); clear hK K; (try simp only [Act.put, List.setIfInBounds_toArray, List.set_cons_zero, List.set_cons_succ]))
        (refine BigFrame.wpQuiet_want (by kernel_rfl) (fun K hK => ?_); refine ⟨?_, fun V hV => ?_, hK _ ?_⟩; rotate_left; (focus (unfold Oper.quietAt; dsimp only at hV; go_simp; try with_reducible rfl)); clear hK K; (try simp only [Act.put, List.setIfInBounds_toArray, List.set_cons_zero, List.set_cons_succ]))
        (refine BigFrame.wpQuiet_want (by kernel_rfl) (fun K hK => ?_); refine ⟨?_, fun V hV => ?_, hK _ ?_⟩; rotate_left; (focus (unfold Oper.quietAt; dsimp only at hV; go_simp; try with_reducible rfl)); clear hK K; (try simp only [Act.put, List.setIfInBounds_toArray, List.set_cons_zero, List.set_cons_succ]))
        refine BigFrame.wpQuiet_want (by kernel_rfl) (fun K hK => ?_)
        refine ⟨.int .i64 (min ((lk : Nat) : Int) 3000), fun V hV => ?_, hK _ ?_⟩
        · clear hV hK
          unfold Oper.quietAt
          go_simp
        clear hK K
        try simp only [Act.put, List.setIfInBounds_toArray, List.set_cons_zero, List.set_cons_succ]
        (refine BigFrame.wpQuiet_want (by kernel_rfl) (fun K hK => ?_); refine ⟨?_, fun V hV => ?_, hK _ ?_⟩; rotate_left; (focus (unfold Oper.quietAt; dsimp only at hV; go_simp; try with_reducible rfl)); clear hK K; (try simp only [Act.put, List.setIfInBounds_toArray, List.set_cons_zero, List.set_cons_succ]))
        (refine BigFrame.wpQuiet_want (by kernel_rfl) (fun K hK => ?_); refine ⟨?_, fun V hV => ?_, hK _ ?_⟩; rotate_left; (focus (unfold Oper.quietAt; dsimp only at hV; go_simp; try with_reducible rfl)); clear hK K; (try simp only [Act.put, List.setIfInBounds_toArray, List.set_cons_zero, List.set_cons_succ]))
        refine wpQuiet_nil ?_
        intro w6 hV
        obtain ⟨_, _, _, q, rfl⟩ := hV
        go_wp2
        go_roundw
        case rel =>
          refine ⟨k + 1, q, z + 1 + ((ms : Nat) : Int) + min ((lk : Nat) : Int) 3000, by omega, by go_num, rfl, ⟨by have := HZ.out; omega, by have := HZ.out; omega, by omega⟩, fun j hj => ?_, by first | rfl | trivial⟩
          by_cases hjk : j < k
          · have := HE.out j hjk; omega
          · obtain rfl : j = k := by omega
            rw [← HX.out.1, ← HX.out.2.1, ← HX.out.2.2, ← HMS.out]; omega
        case measure => simp [intOf]; omega
      · have e1 : decide (z ≤ 3000) = false := by simpa using hz3
        go_wp2
        go_ret
        exact ⟨⟨z, rfl, by have := HZ.out; omega, HZ.out.2.2, fun h => by omega⟩, HB1.out.trans ((drewN_below w5 r).mono HB1.out.size)⟩
    · have hkI : decide ((k : Int) < n) = false := by simp; omega
      go_wp2
      go_ret
      refine ⟨⟨z, rfl, by have := HZ.out; omega, HZ.out.2.2, fun h => ⟨?_, by have := HZ.out; omega, fun x hx => ?_⟩⟩, HB1.out.trans ((drewN_below w5 r).mono HB1.out.size)⟩
      · have := HTN.out (by have := HZ.out; omega)
        have := HZ.out
        omega
      · obtain ⟨j, hj, rfl⟩ := List.getElem_of_mem hx
        have h2 := HE.out j (by have := HN.out.1; omega)
        rw [gn_get hj] at h2
        omega
/-- not too much. -/
def Small6 (n nn : Nat) (xs : List NV) : Prop := nn ≤ 3000 ∧ n ≤ 3000 ∧ ∀ x ∈ xs, x.nd.kids.length ≤ 3000 ∧ x.nd.set.length ≤ 3000
set_option maxHeartbeats 3200000 in
set_option maxRecDepth 100000 in
theorem treesOf1_any (tb : Nat) (p : Option Addr) (n c : Nat) (xs : List NV) (pn : Option Addr) (nn cn : Nat) (nm : List ByteArray) (w : World) (h0 : w.cell? ⟨tb, 0, none⟩ = some (.slice p n c)) (h1 : w.cell? ⟨tb, 1, none⟩ = some (.slice pn nn cn)) (hn : n = xs.length) (hnI : (n : Int) ≤ 9223372036854775807) (hp : SlN w p xs) (hf : ∀ x ∈ xs, x.nd.kids.length ≤ 9223372036854775807 ∧ x.nd.set.length ≤ 9223372036854775807) (hnn : nn = nm.length) (hnnI : (nn : Int) ≤ 9223372036854775807) (hX : SlX w pn nm) (hz : ∀ x ∈ nm, x.size ≤ 9223372036854775807) :
    Calls Tryz.prog 35 #[.slice (some ⟨tb, 0, none⟩) 1 1, .int .i64 3000] w fun e w' => (∃ z : Int, e = .returned (.int .i64 z) ∧ (z ≤ 3000 → Small6 n nn xs)) ∧ Below w.heap.size w w' := by
  have HT := Lib.hid (treeOf6_any p n c xs pn nn cn nm w hn hnI hp hf hnn hnnI hX hz)
  clear hn hp hf hnn hnnI hX hz
  go_enter Tryz.func35, Tryz.ntmps35
  go_wp2
  go_loopw [5, 6] (fun iv jv wr => ∃ (k : Nat) (z : Int), jv = .int .i64 (k : Nat) ∧ iv = .int .i64 z ∧ ((k = 0 ∧ z = 0 ∧ wr = w) ∨ (k = 1 ∧ Hid (z ≤ 3000 → Small6 n nn xs) ∧ Hid (Below w.heap.size w wr)))) (fun _ jv _ => 1 - (intOf jv).toNat)
  case atStart => exact ⟨0, 0, rfl, rfl, .inl ⟨rfl, rfl, rfl⟩⟩
  case round =>
    obtain ⟨k, z, rfl, rfl, ⟨rfl, rfl, rfl⟩ | ⟨rfl, HE, HW⟩⟩ := hrel
    · go_wp2_with fail
      refine (HT.out).mono ?_
      rintro e w5 ⟨⟨z, rfl, hz0, hzm, hzs⟩, hb5⟩
      have HZ := Lib.hid hzs
      have HB5 := Lib.hid hb5
      have hw1 : IntKind.i64.wrap (1 + z) = 1 + z := by rw [IntKind.wrap_i64]; omega
      clear hzs hb5
      go_wp2
      go_roundw
      case rel => exact ⟨1, 1 + z, rfl, rfl, .inr ⟨rfl, fun h => HZ.out (by omega), HB5.out⟩⟩
      case measure => simp [intOf]
    · go_wp2
      go_ret
      exact ⟨⟨z, rfl, HE.out⟩, HW.out⟩
set_option maxHeartbeats 3200000 in
set_option maxRecDepth 100000 in
theorem great1_any (tb : Nat) (p : Option Addr) (n c : Nat) (xs : List NV) (pn : Option Addr) (nn cn : Nat) (nm : List ByteArray) (w : World) (h0 : w.cell? ⟨tb, 0, none⟩ = some (.slice p n c)) (h1 : w.cell? ⟨tb, 1, none⟩ = some (.slice pn nn cn)) (hn : n = xs.length) (hnI : (n : Int) ≤ 9223372036854775807) (hp : SlN w p xs) (hf : ∀ x ∈ xs, x.nd.kids.length ≤ 9223372036854775807 ∧ x.nd.set.length ≤ 9223372036854775807) (hnn : nn = nm.length) (hnnI : (nn : Int) ≤ 9223372036854775807) (hX : SlX w pn nm) (hz : ∀ x ∈ nm, x.size ≤ 9223372036854775807) :
    Calls Tryz.prog 6 #[.slice (some ⟨tb, 0, none⟩) 1 1] w fun e w' => (∃ g : Bool, e = .returned (.bool g) ∧ (g = false → Small6 n nn xs)) ∧ Below w.heap.size w w' := by
  have HT := Lib.hid (treesOf1_any tb p n c xs pn nn cn nm w h0 h1 hn hnI hp hf hnn hnnI hX hz)
  clear h0 h1 hn hp hf hnn hnnI hX hz
  go_enter Tryz.func6, Tryz.ntmps6
  go_wp2_with fail
  refine (HT.out).mono ?_
  rintro e w5 ⟨⟨z, rfl, hz⟩, hb5⟩
  have HZ := Lib.hid hz
  have HB5 := Lib.hid hb5
  clear hz hb5
  go_wp2
  go_ret
  exact ⟨⟨decide (z > 3000), rfl, fun h => HZ.out (by have := of_decide_eq_false h; omega)⟩, HB5.out⟩
end Go.Proofs.YtafiekelcoaadaaGreat
