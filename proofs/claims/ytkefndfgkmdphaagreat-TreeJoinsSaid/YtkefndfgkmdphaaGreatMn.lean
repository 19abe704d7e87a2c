import Derived.Test.YtkefndfgkmdphaaGreatFi
import Derived.Test.YtkefndfgkmdphaaGreatMk
import Derived.Test.YtkefndfgkmdphaaGreatLj

namespace Go.Proofs.YtkefndfgkmdphaaGreat
set_option maxHeartbeats 3200000
set_option maxRecDepth 100000
open Go.RowKit Tnr Tnt

theorem textsOf6_any (p : Option Addr) (m c : Nat) (l : List ByteArray) (w : World) (hm : m = l.length) (hmI : (m : Int) ≤ 9223372036854775807) (hp : SlX w p l) (hz : ∀ x ∈ l, x.size ≤ 9223372036854775807) :
  Calls Tryz.prog 105 #[.slice p m c, .int .i64 3000] w fun e w' => (∃ z : Int, e = .returned (.int .i64 z) ∧ 0 ≤ z ∧ z ≤ 1152921504606850000 ∧ (z ≤ 3000 → (m : Int) ≤ z)) ∧ w' = w := by
 have HP := lh hp
 have HM := lh hm
 have HZ := lh hz
 clear hp hm hz
 go_enter Tryz.func105, Tryz.ntmps105
 go_wp2
 go_loopw [5, 6] (fun iv jv wr => ∃ (k : Nat) (z : Int), k ≤ m ∧ jv = .int .i64 (k : Nat) ∧ iv = .int .i64 z ∧ (k : Int) ≤ z ∧ z ≤ 1152921504606850000 ∧ wr = w) (fun _ jv _ => m - (intOf jv).toNat)
 case atStart => exact ⟨0, 0, Nat.zero_le _, rfl, rfl, by omega, by omega, rfl⟩
 case round =>
  obtain ⟨k, z, hk, rfl, rfl, hkz, hzm, rfl⟩ := hrel
  by_cases hkm : k < m
  ·have hkI : (k : Int) < m := by omega
   by_cases hz3 : z ≤ 3000
   ·obtain ⟨b, o, rfl, hc⟩ := slx_at HP.out (show k < l.length by have := HM.out; omega)
    obtain ⟨s, hs⟩ : ∃ s, s = gb l k := ⟨_, rfl⟩
    rw [← hs] at hc
    have hsz : s.size ≤ 9223372036854775807 := by
     rw [hs, gb_get (show k < l.length by have := HM.out; omega)]
     exact HZ.out _ (List.getElem_mem _)
    have h8 : ((s.size : Nat) : Int).tdiv 8 = (s.size : Int) / 8 := Int.tdiv_eq_ediv_of_nonneg (by omega)
    have hw1 : IntKind.i64.wrap (z + 1) = z + 1 := by rw [IntKind.wrap_i64]; omega
    have hw2 : IntKind.i64.wrap ((s.size : Int) / 8) = ((s.size : Int) / 8) := by rw [IntKind.wrap_i64]; omega
    have hw3 : IntKind.i64.wrap (z + 1 + ((s.size : Int) / 8)) = z + 1 + ((s.size : Int) / 8) := by rw [IntKind.wrap_i64]; omega
    have hw4 : IntKind.i64.wrap ((k : Nat) + 1 : Int) = (k : Nat) + 1 := by rw [IntKind.wrap_i64]; omega
    have e1 : decide (z ≤ 3000) = true := by simpa using hz3
    clear hs
    go_wp2
    go_roundw
    case rel => exact ⟨k + 1, z + 1 + ((s.size : Int) / 8), by omega, by go_num, rfl, by omega, by omega, by first | rfl | trivial⟩
    case measure => simp [intOf]; omega
   ·have e1 : decide (z ≤ 3000) = false := by simpa using hz3
    go_wp2
    go_ret
    exact ⟨⟨z, rfl, by omega, hzm, fun h => by omega⟩, by first | rfl | trivial⟩
  ·have hkI : decide ((k : Int) < m) = false := by simp; omega
   go_wp2
   go_ret
   exact ⟨⟨z, rfl, by omega, hzm, fun h => by omega⟩, by first | rfl | trivial⟩
theorem rangesOf6_any (q : Option Addr) (c k : Nat) (w : World) : Calls Tryz.prog 106 #[.slice q k c, .int .i64 3000] w fun e w' => e = .returned (.int .i64 ((min k 3001 : Nat) : Int)) ∧ w' = w := by
 go_enter Tryz.func106, Tryz.ntmps106
 go_wp2
 go_ret
 exact ⟨by rw [show ((min k 3001 : Nat) : Int) = min (k : Int) 3001 by omega]; rfl, rfl⟩
theorem treeOf6_any (p : Option Addr) (n c : Nat) (xs : List NV) (pn : Option Addr) (nn cn : Nat) (nm : List ByteArray) (w : World) (hn : n = xs.length) (hnI : (n : Int) ≤ 9223372036854775807) (hp : SlN w p xs) (hf : ∀ x ∈ xs, x.nd.kids.length ≤ 9223372036854775807 ∧ x.nd.set.length ≤ 9223372036854775807) (hnn : nn = nm.length) (hnnI : (nn : Int) ≤ 9223372036854775807) (hX : SlX w pn nm) (hz : ∀ x ∈ nm, x.size ≤ 9223372036854775807) :
  Calls Tryz.prog 52 #[.agg #[.slice p n c, .slice pn nn cn], .int .i64 3000] w fun e w' => (∃ z : Int, e = .returned (.int .i64 z) ∧ 0 ≤ z ∧ z ≤ 1152921504606860000 ∧ (z ≤ 3000 → nn ≤ 3000 ∧ n ≤ 3000 ∧ ∀ x ∈ xs, x.nd.kids.length ≤ 3000 ∧ x.nd.set.length ≤ 3000)) ∧ Below w.heap.size w w' := by
 obtain ⟨W1, hW1⟩ : ∃ W, W = w.alloc (.cells #[.slice p n c, .slice pn nn cn] 34) := ⟨_, rfl⟩
 obtain ⟨b0, hb0⟩ : ∃ b, b = w.heap.size := ⟨_, rfl⟩
 have hb1 : Below w.heap.size w W1 := by rw [hW1]; exact bl_alloc _ _
 have hT : Bx W1 b0 34 #[.slice p n c, .slice pn nn cn] := by rw [hW1, hb0]; exact Bx.new w _ _
 have cT0 : W1.cell? ⟨b0, 0, none⟩ = some (.slice p n c) := hT.cell rfl
 have cT1 : W1.cell? ⟨b0, 1, none⟩ = some (.slice pn nn cn) := hT.cell rfl
 have HT := lh (textsOf6_any pn nn cn nm W1 hnn hnnI (hX.below hb1) hz)
 have HP := lh (hp.below hb1)
 have HN := lh (And.intro hn hf)
 have HB1 := lh hb1
 have HW1 := lh (And.intro hW1 hb0)
 clear hn hp hf hnn hnnI hX hz hW1 hb1 hT hb0
 go_enter Tryz.func52, Tryz.ntmps52
 go_wp2_with fail
 rw [← HW1.out.2, show w.alloc (.cells #[.slice p n c, .slice pn nn cn] 34) = W1 from HW1.out.1.symm]
 refine (HT.out).mono ?_
 rintro e w5 ⟨⟨tz, rfl, ht0, htm, htn⟩, rfl⟩
 have HTN := lh htn
 clear htn HT
 go_wp2
 go_loopw [5, 6] (fun iv jv wr => ∃ (k r : Nat) (z : Int), k ≤ n ∧ jv = .int .i64 (k : Nat) ∧ iv = .int .i64 z ∧ Hid (tz ≤ z ∧ (k : Int) ≤ z ∧ z ≤ 1152921504606860000) ∧ Hid (∀ j, j < k → ((min (gn xs j).nd.set.length 3001 : Nat) : Int) + ((min (gn xs j).nd.kids.length 3000 : Nat) : Int) + 1 ≤ z) ∧ wr = w5.drewN r) (fun _ jv _ => n - (intOf jv).toNat)
 case atStart => exact ⟨0, 0, tz, Nat.zero_le _, rfl, rfl, ⟨by omega, by omega, by omega⟩, fun j hj => absurd hj (by omega), rfl⟩
 case round =>
  obtain ⟨k, r, z, hk, rfl, rfl, HZ, HE, rfl⟩ := hrel
  by_cases hkn : k < n
  ·have hkI : (k : Int) < n := by omega
   by_cases hz3 : z ≤ 3000
   ·have hkx : k < xs.length := by have := HN.out.1; omega
    obtain ⟨b, o, rfl, hcells, _⟩ := HP.out.at hkx
    obtain ⟨x, hx⟩ : ∃ x, x = gn xs k := ⟨_, rfl⟩
    have hfx := HN.out.2 _ (gn_mem hkx)
    rw [← hx] at hcells hfx
    obtain ⟨ls, hls⟩ : ∃ n, n = x.nd.set.length := ⟨_, rfl⟩
    obtain ⟨lk, hlk⟩ : ∃ n, n = x.nd.kids.length := ⟨_, rfl⟩
    obtain ⟨_, c1, c2, _⟩ := hcells
    rw [← hls] at c1 hfx
    rw [← hlk] at c2 hfx
    have HX := lh (And.intro hx (And.intro hls hlk))
    have HR : Hid (∀ q, Calls Tryz.prog 106 #[.slice x.ps ls x.cs, .int .i64 3000] (w5.drewN q) fun e w' => e = .returned (.int .i64 ((min ls 3001 : Nat) : Int)) ∧ w' = w5.drewN q) := fun q => rangesOf6_any _ _ _ _
    have hls2 : min ls 3001 ≤ 3001 := by omega
    obtain ⟨ms, hms⟩ : ∃ m, m = min ls 3001 := ⟨_, rfl⟩
    rw [← hms] at HR hls2
    have HMS := lh hms
    have hz0 : 0 ≤ z := by have := HZ.out; omega
    have hw1 : IntKind.i64.wrap (z + 1) = z + 1 := by rw [IntKind.wrap_i64]; omega
    have hw2 : IntKind.i64.wrap (z + 1 + ((ms : Nat) : Int)) = z + 1 + ((ms : Nat) : Int) := by rw [IntKind.wrap_i64]; omega
    have hw3 : IntKind.i64.wrap (z + 1 + ((ms : Nat) : Int) + min ((lk : Nat) : Int) 3000) = z + 1 + ((ms : Nat) : Int) + min ((lk : Nat) : Int) 3000 := by rw [IntKind.wrap_i64]; omega
    have hw4 : IntKind.i64.wrap ((k : Nat) + 1 : Int) = (k : Nat) + 1 := by rw [IntKind.wrap_i64]; omega
    have e1 : decide (z ≤ 3000) = true := by simpa using hz3
    clear hx hls hlk hms hfx hkx
    obtain ⟨C, hC⟩ : ∃ C : World → Prop, C = fun V => V.cell? ⟨b0, 0, none⟩ = some (.slice (some ⟨b, o, none⟩) n c) ∧ V.cell? ⟨b, o + k * 9 + 1, none⟩ = some (.slice x.ps ls x.cs) ∧ V.cell? ⟨b, o + k * 9 + 2, none⟩ = some (.slice x.pk lk x.ck) ∧ ∃ q, V = w5.drewN q := ⟨_, rfl⟩
    have hCd : C (w5.drewN r).drew := by rw [hC]; exact ⟨cT0, c1, c2, r + 1, rfl⟩
    have HF2 : Hid (∀ V, C V → Calls Tryz.prog 106 #[.slice x.ps ls x.cs, .int .i64 3000] V fun e w' => e = .returned (.int .i64 ((ms : Nat) : Int)) ∧ C w') := by
     intro V hV
     have hV' := hV
     rw [hC] at hV'
     obtain ⟨_, _, _, q, rfl⟩ := hV'
     exact (HR.out q).mono fun e w' ⟨h1, h2⟩ => ⟨h1, by rw [h2]; exact hV⟩
    go_wp2
    refine wp_region_quiet (C := C) (by kernel_rfl) (by kernel_rfl) hCd ?_
    clear hCd
    subst hC
    dsimp only
    iterate 9 (refine BigFrame.wpQuiet_want (by kernel_rfl) (fun K hK => ?_); refine ⟨?_, fun V hV => ?_, hK _ ?_⟩; rotate_left; (focus (unfold Oper.quietAt; dsimp only at hV; go_simp; try with_reducible rfl)); clear hK K; (try simp only [Act.put, sb]))
    refine BigFrame.wpQuiet_want (by kernel_rfl) (fun K hK => ?_)
    refine ⟨.int .i64 ((ms : Nat) : Int), fun V hV => ?_, hK _ ?_⟩
    ·have HV := lh hV
     clear hV hK
     unfold Oper.quietAt
     go_simp
     exact HF2.out V HV.out
    clear hK K
    try simp only [Act.put, sb]
    iterate 9 (refine BigFrame.wpQuiet_want (by kernel_rfl) (fun K hK => ?_); refine ⟨?_, fun V hV => ?_, hK _ ?_⟩; rotate_left; (focus (unfold Oper.quietAt; dsimp only at hV; go_simp; try with_reducible rfl)); clear hK K; (try simp only [Act.put, sb]))
    refine BigFrame.wpQuiet_want (by kernel_rfl) (fun K hK => ?_)
    refine ⟨.int .i64 (min ((lk : Nat) : Int) 3000), fun V hV => ?_, hK _ ?_⟩
    ·clear hV hK
     unfold Oper.quietAt
     go_simp
    clear hK K
    try simp only [Act.put, sb]
    iterate 2 (refine BigFrame.wpQuiet_want (by kernel_rfl) (fun K hK => ?_); refine ⟨?_, fun V hV => ?_, hK _ ?_⟩; rotate_left; (focus (unfold Oper.quietAt; dsimp only at hV; go_simp; try with_reducible rfl)); clear hK K; (try simp only [Act.put, sb]))
    refine wpQuiet_nil ?_
    intro w6 hV
    obtain ⟨_, _, _, q, rfl⟩ := hV
    go_wp2
    go_roundw
    case rel =>
     refine ⟨k + 1, q, z + 1 + ((ms : Nat) : Int) + min ((lk : Nat) : Int) 3000, by omega, by go_num, rfl, ⟨by have := HZ.out; omega, by have := HZ.out; omega, by omega⟩, fun j hj => ?_, by first | rfl | trivial⟩
     by_cases hjk : j < k
     ·have := HE.out j hjk; omega
     ·obtain rfl : j = k := by omega
      rw [← HX.out.1, ← HX.out.2.1, ← HX.out.2.2, ← HMS.out]; omega
    case measure => simp [intOf]; omega
   ·have e1 : decide (z ≤ 3000) = false := by simpa using hz3
    go_wp2
    go_ret
    exact ⟨⟨z, rfl, by have := HZ.out; omega, HZ.out.2.2, fun h => by omega⟩, HB1.out.trans ((drewN_below w5 r).mono HB1.out.size)⟩
  ·have hkI : decide ((k : Int) < n) = false := by simp; omega
   go_wp2
   go_ret
   refine ⟨⟨z, rfl, by have := HZ.out; omega, HZ.out.2.2, fun h => ⟨?_, by have := HZ.out; omega, fun x hx => ?_⟩⟩, HB1.out.trans ((drewN_below w5 r).mono HB1.out.size)⟩
   ·have := HTN.out (by have := HZ.out; omega)
    have := HZ.out
    omega
   ·obtain ⟨j, hj, rfl⟩ := List.getElem_of_mem hx
    have h2 := HE.out j (by have := HN.out.1; omega)
    rw [gn_get hj] at h2
    omega
def Small6 (n nn : Nat) (xs : List NV) : Prop := nn ≤ 3000 ∧ n ≤ 3000 ∧ ∀ x ∈ xs, x.nd.kids.length ≤ 3000 ∧ x.nd.set.length ≤ 3000
theorem treesOf1_any (tb : Nat) (p : Option Addr) (n c : Nat) (xs : List NV) (pn : Option Addr) (nn cn : Nat) (nm : List ByteArray) (w : World) (h0 : w.cell? ⟨tb, 0, none⟩ = some (.slice p n c)) (h1 : w.cell? ⟨tb, 1, none⟩ = some (.slice pn nn cn)) (hn : n = xs.length) (hnI : (n : Int) ≤ 9223372036854775807) (hp : SlN w p xs) (hf : ∀ x ∈ xs, x.nd.kids.length ≤ 9223372036854775807 ∧ x.nd.set.length ≤ 9223372036854775807) (hnn : nn = nm.length) (hnnI : (nn : Int) ≤ 9223372036854775807) (hX : SlX w pn nm) (hz : ∀ x ∈ nm, x.size ≤ 9223372036854775807) :
  Calls Tryz.prog 25 #[.slice (some ⟨tb, 0, none⟩) 1 1, .int .i64 3000] w fun e w' => (∃ z : Int, e = .returned (.int .i64 z) ∧ (z ≤ 3000 → Small6 n nn xs)) ∧ Below w.heap.size w w' := by
 have HT := lh (treeOf6_any p n c xs pn nn cn nm w hn hnI hp hf hnn hnnI hX hz)
 clear hn hp hf hnn hnnI hX hz
 go_enter Tryz.func25, Tryz.ntmps25
 go_wp2
 go_loopw [5, 6] (fun iv jv wr => ∃ (k : Nat) (z : Int), jv = .int .i64 (k : Nat) ∧ iv = .int .i64 z ∧ ((k = 0 ∧ z = 0 ∧ wr = w) ∨ (k = 1 ∧ Hid (z ≤ 3000 → Small6 n nn xs) ∧ Hid (Below w.heap.size w wr)))) (fun _ jv _ => 1 - (intOf jv).toNat)
 case atStart => exact ⟨0, 0, rfl, rfl, .inl ⟨rfl, rfl, rfl⟩⟩
 case round =>
  obtain ⟨k, z, rfl, rfl, ⟨rfl, rfl, rfl⟩ | ⟨rfl, HE, HW⟩⟩ := hrel
  ·go_wp2_with fail
   refine (HT.out).mono ?_
   rintro e w5 ⟨⟨z, rfl, hz0, hzm, hzs⟩, hb5⟩
   have HZ := lh hzs
   have HB5 := lh hb5
   have hw1 : IntKind.i64.wrap (1 + z) = 1 + z := by rw [IntKind.wrap_i64]; omega
   clear hzs hb5
   go_wp2
   go_roundw
   case rel => exact ⟨1, 1 + z, rfl, rfl, .inr ⟨rfl, fun h => HZ.out (by omega), HB5.out⟩⟩
   case measure => simp [intOf]
  ·go_wp2
   go_ret
   exact ⟨⟨z, rfl, HE.out⟩, HW.out⟩
theorem great1_any (tb : Nat) (p : Option Addr) (n c : Nat) (xs : List NV) (pn : Option Addr) (nn cn : Nat) (nm : List ByteArray) (w : World) (h0 : w.cell? ⟨tb, 0, none⟩ = some (.slice p n c)) (h1 : w.cell? ⟨tb, 1, none⟩ = some (.slice pn nn cn)) (hn : n = xs.length) (hnI : (n : Int) ≤ 9223372036854775807) (hp : SlN w p xs) (hf : ∀ x ∈ xs, x.nd.kids.length ≤ 9223372036854775807 ∧ x.nd.set.length ≤ 9223372036854775807) (hnn : nn = nm.length) (hnnI : (nn : Int) ≤ 9223372036854775807) (hX : SlX w pn nm) (hz : ∀ x ∈ nm, x.size ≤ 9223372036854775807) :
  Calls Tryz.prog 5 #[.slice (some ⟨tb, 0, none⟩) 1 1] w fun e w' => (∃ g : Bool, e = .returned (.bool g) ∧ (g = false → Small6 n nn xs)) ∧ Below w.heap.size w w' := by
 have HT := lh (treesOf1_any tb p n c xs pn nn cn nm w h0 h1 hn hnI hp hf hnn hnnI hX hz)
 clear h0 h1 hn hp hf hnn hnnI hX hz
 go_enter Tryz.func5, Tryz.ntmps5
 go_wp2_with fail
 refine (HT.out).mono ?_
 rintro e w5 ⟨⟨z, rfl, hz⟩, hb5⟩
 have HZ := lh hz
 have HB5 := lh hb5
 clear hz hb5
 go_wp2
 go_ret
 exact ⟨⟨decide (z > 3000), rfl, fun h => HZ.out (by have := of_decide_eq_false h; omega)⟩, HB5.out⟩
end Go.Proofs.YtkefndfgkmdphaaGreat


namespace Go.Proofs.YtkefndfgkmdphaaGreat
set_option maxHeartbeats 1600000
set_option maxRecDepth 100000
open Go.RowKit Tnr Tnt

def setNd (c : Int) : Nd := ⟨2, [(c, c)], [], 0, 0, 0, 0, 0, false⟩
def groupNd (n : Int) : Nd := ⟨5, [], [], n, 0, 0, 0, 0, false⟩
def NodePost (d : Nd) (w : World) (e : Ending) (w' : World) : Prop := ∃ x : NV, e = .returned (.agg (encN x).toArray) ∧ x.nd = d ∧ NodeIn w' x ∧ Below w.heap.size w w'
theorem group6_any (n : Int) (w : World) : Calls Tryz.prog 32 #[.int .i64 n] w (NodePost (groupNd n) w) := by
 obtain ⟨z0, z1, z2, z3, z4, z5, z6, z7, z8⟩ := nine (Bx.new w 28 #[.int .u8 5, .slice none 0 0, .slice none 0 0, .int .i64 n, .int .i64 0, .int .i64 0, .int .u8 0, .int .u8 0, .bool false])
 have HZ := lh (And.intro z0 (And.intro z1 (And.intro z2 (And.intro z3 (And.intro z4 (And.intro z5 (And.intro z6 (And.intro z7 z8))))))))
 clear z0 z1 z2 z3 z4 z5 z6 z7 z8
 go_enter Tryz.func32, Tryz.ntmps32
 go_wp2
 obtain ⟨z0, z1, z2, z3, z4, z5, z6, z7, z8⟩ := HZ.out
 refine bodyPost_ret (v := .agg (encN ⟨groupNd n, none, 0, none, 0⟩).toArray) (by simp [results, Tryz.results32, go_sem, z0, z1, z2, z3, z4, z5, z6, z7, z8, encN, groupNd]) rfl ?_
 exact ⟨⟨groupNd n, none, 0, none, 0⟩, rfl, rfl, ⟨.inl rfl, .inl rfl, fun _ => rfl, fun _ => rfl, Nat.le_refl _, Nat.le_refl _⟩, bl_alloc _ _⟩
theorem set6_any (n : Int) (w : World) : Calls Tryz.prog 33 #[.int .i64 n] w (NodePost (setNd n) w) := by
 obtain ⟨W2, hW2⟩ : ∃ W, W = (w.alloc (.cells #[.int .u8 2, .slice (some ⟨w.heap.size + 1, 0, none⟩) 1 1, .slice none 0 0, .int .i64 0, .int .i64 0, .int .i64 0, .int .u8 0, .int .u8 0, .bool false] 28)).alloc (.cells #[.int .i64 n, .int .i64 n] 63) := ⟨_, rfl⟩
 have hX : Bx W2 w.heap.size 28 #[.int .u8 2, .slice (some ⟨w.heap.size + 1, 0, none⟩) 1 1, .slice none 0 0, .int .i64 0, .int .i64 0, .int .i64 0, .int .u8 0, .int .u8 0, .bool false] := by rw [hW2]; exact (Bx.new w _ _).below (bl_alloc _ _)
 have hR : Bx W2 (w.heap.size + 1) 63 #[.int .i64 n, .int .i64 n] := by
  have h := Bx.new (w.alloc (.cells #[.int .u8 2, .slice (some ⟨w.heap.size + 1, 0, none⟩) 1 1, .slice none 0 0, .int .i64 0, .int .i64 0, .int .i64 0, .int .u8 0, .int .u8 0, .bool false] 28)) 63 #[.int .i64 n, .int .i64 n]
  rw [World.size_alloc] at h; rw [hW2]; exact h
 have hb2 : Below w.heap.size w W2 := by rw [hW2]; exact bl_trans (bl_alloc _ _) (bl_alloc _ _)
 have HZ := lh (nine hX)
 have HR := lh hR
 have HB := lh hb2
 have HW := lh hW2
 clear hX hR hb2 hW2
 go_enter Tryz.func33, Tryz.ntmps33
 go_wp2
 rw [← HW.out]
 obtain ⟨z0, z1, z2, z3, z4, z5, z6, z7, z8⟩ := HZ.out
 refine bodyPost_ret (v := .agg (encN ⟨setNd n, some ⟨w.heap.size + 1, 0, none⟩, 1, none, 0⟩).toArray) (by simp [results, Tryz.results33, go_sem, z0, z1, z2, z3, z4, z5, z6, z7, z8, encN, setNd]) rfl ?_
 refine ⟨⟨setNd n, some ⟨w.heap.size + 1, 0, none⟩, 1, none, 0⟩, rfl, rfl, ⟨.inr ⟨w.heap.size + 1, 0, rfl, fun i hi => ?_⟩, .inl rfl, fun h => by simp at h, fun _ => rfl, Nat.le_refl _, Nat.le_refl _⟩, HB.out⟩
 have hi0 : i = 0 := by have : i < 1 := hi; omega
 subst hi0
 exact ⟨HR.out.cell rfl, HR.out.cell rfl⟩
end Go.Proofs.YtkefndfgkmdphaaGreat


namespace Go.Proofs.YtkefndfgkmdphaaGreat
open Go.RowKit Tnr Tnt

structure TH (w : World) (q : Option Addr) (m cq : Nat) (ys : List NV) (L : List Nd) : Prop where
 len : m = ys.length
 nodes : SlN w q ys
 nil : q = none → cq = 0
 le : m ≤ cq
 max : cq ≤ 9223372036854775807
 nds : nds ys = L
theorem TH.below {w w' : World} {q : Option Addr} {m cq : Nat} {ys : List NV} {L : List Nd} (h : TH w q m cq ys L) (hb : Below w.heap.size w w') : TH w' q m cq ys L := ⟨h.len, h.nodes.below hb, h.nil, h.le, h.max, h.nds⟩
theorem th_own {w : World} {B m cq : Nat} {q : Option Addr} {ys : List NV} {L : List Nd} (hm : m = ys.length) (h : OwnN w B (.slice q m cq) ys) (hL : nds ys = L) : TH w q m cq ys L := by
 obtain ⟨p, c, e, h1, h2, h3, h4⟩ := h.form
 simp only [Value.slice.injEq] at e
 obtain ⟨rfl, _, rfl⟩ := e
 exact ⟨hm, h4, h3, by omega, h2, hL⟩
theorem few_nds {ys : List NV} {L : List Nd} (h : nds ys = L) (hL : ∀ d ∈ L, d.kids.length ≤ 1000000 ∧ d.set.length ≤ 1000000) : Few ys := fun x hx => hL x.nd (h ▸ List.mem_map.2 ⟨x, hx, rfl⟩)
def tv (q : Option Addr) (cq : Nat) (ys : List NV) : TV := ⟨q, cq, none, 0, 0, ys⟩
theorem TH.treeIn {w : World} {q : Option Addr} {m cq : Nat} {ys : List NV} {L : List Nd} (h : TH w q m cq ys L) : TreeIn w (tv q cq ys) := ⟨h.nodes, h.nil, by have := h.len; have := h.le; show ys.length ≤ cq; omega, h.max⟩
theorem slT_nil (w : World) : SlT w none [] := ⟨fun _ h => by simp at h, .inl rfl⟩
theorem slT_one {w : World} {b : Nat} {q : Option Addr} {m cq : Nat} {ys : List NV} {L : List Nd} {T : TypeId} (h : TH w q m cq ys L) (hb : Bx w b T #[.slice q m cq, .slice none 0 0]) : SlT w (some ⟨b, 0, none⟩) [tv q cq ys] := by
 refine ⟨fun t ht => by rw [List.mem_singleton.1 ht]; exact h.treeIn, .inr ⟨b, 0, rfl, fun i hi => ?_⟩⟩
 have : i = 0 := by simpa using hi
 subst this
 refine ⟨?_, hb.cell rfl⟩
 show _ = some (Value.slice q ys.length cq)
 rw [← h.len]
 exact hb.cell rfl
theorem slT_two {w : World} {b : Nat} {q q' : Option Addr} {m cq m' cq' : Nat} {ys ys' : List NV} {L L' : List Nd} {T : TypeId} (h : TH w q m cq ys L) (h' : TH w q' m' cq' ys' L') (hb : Bx w b T #[.slice q m cq, .slice none 0 0, .slice q' m' cq', .slice none 0 0]) : SlT w (some ⟨b, 0, none⟩) [tv q cq ys, tv q' cq' ys'] := by
 refine ⟨fun t ht => by rcases List.mem_cons.1 ht with rfl | ht; exact h.treeIn; rw [List.mem_singleton.1 ht]; exact h'.treeIn, .inr ⟨b, 0, rfl, fun i hi => ?_⟩⟩
 have hi2 : i = 0 ∨ i = 1 := by have : i < 2 := hi; omega
 rcases hi2 with rfl | rfl
 ·refine ⟨?_, hb.cell rfl⟩
  show _ = some (Value.slice q ys.length cq)
  rw [← h.len]
  exact hb.cell rfl
 ·refine ⟨?_, hb.cell rfl⟩
  show _ = some (Value.slice q' ys'.length cq')
  rw [← h'.len]
  exact hb.cell rfl
def JPost (L : List Nd) (w : World) (e : Ending) (w' : World) : Prop := ∃ q m cq ys, e = .returned (.agg #[.slice q m cq, .slice none 0 0]) ∧ TH w' q m cq ys L ∧ Below w.heap.size w w'
theorem join0 (x : NV) (d : Nd) (w : World) (hx : NodeIn w x) (hd : x.nd = d) (hs : d.set.length ≤ 1000000) : Calls Tryz.prog 9 #[.agg (encN x).toArray, .slice none 0 0] w (JPost (joinT d []) w) := by
 refine (join_any x none 0 0 [] w hx (by rw [hd]; exact hs) rfl (slT_nil w) (fun _ h => by simp at h) (by omega) (by simp [sizeT])).mono ?_
 rintro e w' ⟨q, m, cq, ys, hm, rfl, ho, hy, hb⟩
 rw [hd] at hy
 exact ⟨q, m, cq, ys, rfl, th_own hm ho hy, hb⟩
theorem join1 (x : NV) (d : Nd) (b c : Nat) (q : Option Addr) (m cq : Nat) (ys : List NV) (L : List Nd) (w : World) {T : TypeId} (hx : NodeIn w x) (hd : x.nd = d) (hs : d.set.length ≤ 1000000) (h : TH w q m cq ys L) (hb : Bx w b T #[.slice q m cq, .slice none 0 0]) (hf : Few ys) (hl : m ≤ 1000000) :
  Calls Tryz.prog 9 #[.agg (encN x).toArray, .slice (some ⟨b, 0, none⟩) 1 c] w (JPost (joinT d [L]) w) := by
 refine (join_any x (some ⟨b, 0, none⟩) 1 c [tv q cq ys] w hx (by rw [hd]; exact hs) rfl (slT_one h hb) (fun t ht => by rw [List.mem_singleton.1 ht]; exact hf) (by omega) (by have := h.len; simp [sizeT, tv]; omega)).mono ?_
 rintro e w' ⟨q', m', cq', ys', hm, rfl, ho, hy, hb'⟩
 rw [hd] at hy
 refine ⟨q', m', cq', ys', rfl, th_own hm ho (hy.trans ?_), hb'⟩
 show joinT d [nds ys] = _
 rw [h.nds]
theorem join2 (x : NV) (d : Nd) (b c : Nat) (q q2 : Option Addr) (m cq m2 cq2 : Nat) (ys ys2 : List NV) (L L2 : List Nd) (w : World) {T : TypeId} (hx : NodeIn w x) (hd : x.nd = d) (hs : d.set.length ≤ 1000000) (h : TH w q m cq ys L) (h2 : TH w q2 m2 cq2 ys2 L2) (hb : Bx w b T #[.slice q m cq, .slice none 0 0, .slice q2 m2 cq2, .slice none 0 0]) (hf : Few ys) (hf2 : Few ys2) (hl : m + m2 ≤ 1000000) :
  Calls Tryz.prog 9 #[.agg (encN x).toArray, .slice (some ⟨b, 0, none⟩) 2 c] w (JPost (joinT d [L, L2]) w) := by
 refine (join_any x (some ⟨b, 0, none⟩) 2 c [tv q cq ys, tv q2 cq2 ys2] w hx (by rw [hd]; exact hs) rfl (slT_two h h2 hb) (fun t ht => by rcases List.mem_cons.1 ht with rfl | ht; exact hf; rw [List.mem_singleton.1 ht]; exact hf2) (by omega) (by have := h.len; have := h2.len; simp [sizeT, tv]; omega)).mono ?_
 rintro e w' ⟨q', m', cq', ys', hm, rfl, ho, hy, hb'⟩
 rw [hd] at hy
 refine ⟨q', m', cq', ys', rfl, th_own hm ho (hy.trans ?_), hb'⟩
 show joinT d [nds ys, nds ys2] = _
 rw [h.nds, h2.nds]
end Go.Proofs.YtkefndfgkmdphaaGreat

