/- NatPowers: its own walk. -/
import Derived.Test.YtcahnkocfbcchaaGreatDoorNxi
import Derived.Test.YtcahnkocfbcchaaGreatDoorNo

namespace Go.Proofs.YtcahnkocfbcchaaGreatDoor
open Go.RowKit Tnd

theorem powers_out (p : Option Addr) (c : Nat) (l : List Nat) (z : Int) (w : World) (htab : Lib.TabIs Tryz.prog w "internal/strconv.uint64pow10" .u64 Lib.pow10Tab)
    (hl : l.length ≤ 9223372036854775807) (hout : 3 < l.length ∨ 40 < z) :
    Calls Tryz.prog 4 #[.agg #[.slice p l.length c], .int .i64 z] w fun e w' => e = .returned (.bool true) ∧ Below w.heap.size w w' := by
  have HAW := Lib.hid (awake_any _ (Lib.tabIs_alloc htab (.cells #[.slice p l.length c] 24)))
  clear htab
  by_cases a1 : 3 < l.length
  · clear hout
    go_enter Tryz.func4, Tryz.ntmps4
    go_wp2_with fail
    refine HAW.out.mono ?_
    rintro e w1 ⟨rfl, hb⟩
    have HB := Lib.hid (bl_trans (bl_alloc w _) hb)
    clear hb HAW
    go_wp2
    go_ret
    exact ⟨rfl, HB.out⟩
  · have b1 : l.length ≤ 3 := by omega
    have a2 : 40 < z := by omega
    clear hout a1
    go_enter Tryz.func4, Tryz.ntmps4
    go_wp2_with fail
    refine HAW.out.mono ?_
    rintro e w1 ⟨rfl, hb⟩
    have HB := Lib.hid (bl_trans (bl_alloc w _) hb)
    clear hb HAW
    go_wp2
    go_ret
    exact ⟨rfl, HB.out⟩
theorem box_not {W : World} {b : Nat} {v : Value} {q : Option Addr} {B m x d : Nat} (hb : Bx W b 24 #[v]) (hf : FNat W B (.agg #[.slice q x d]) m) : blk q ≠ some b := fun e => by
  obtain ⟨k, _, ho⟩ := fnat_own hf
  obtain ⟨_, _, cur, h⟩ := (own_d ho).2.2 b e
  rw [show W.heap[b]? = _ from hb] at h
  simp only [Option.some.injEq, Obj.cells.injEq] at h
  exact absurd h.2.1 (by decide)
theorem box_two {W W' : World} {b R : Nat} {v : Value} {q q' : Option Addr} {B m x d B' m' x' d' : Nat} (hb : Bx W b 24 #[v]) (hf : FNat W B (.agg #[.slice q x d]) m) (hf' : FNat W B' (.agg #[.slice q' x' d']) m') (hR : W.heap.size ≤ R) (k : Below W.heap.size W W') {W2 : World} (h : But (Two q q' R) W' W2) : Bx W2 b 24 #[v] := by
  have hk := hb.below k
  refine (h.block b hk.lt fun s => ?_).trans hk
  rcases s with s | s | s
  · exact box_not hb hf s
  · exact box_not hb hf' s
  · have := hb.lt; omega

set_option maxHeartbeats 6400000 in
set_option maxRecDepth 100000 in
theorem powers_in (p : Option Addr) (c : Nat) (l : List Nat) (z : Int) (w : World) (htab : Lib.TabIs Tryz.prog w "internal/strconv.uint64pow10" .u64 Lib.pow10Tab)
    (hin : NatIn w w.heap.size (.agg #[.slice p l.length c]) l) (hl : l.length ≤ 3) (hz : z ≤ 40) :
    Calls Tryz.prog 4 #[.agg #[.slice p l.length c], .int .i64 z] w fun e w' => e = .returned (.bool true) ∧ Below w.heap.size w w' := by
  obtain ⟨hd, hsl, hpn⟩ : Digs 4294967296 l ∧ Sl w .u32 p l ∧ (p = none → c = 0) := by
    obtain ⟨p', c', e, ho, h, _, _, hn⟩ := hin
    simp only [Value.agg.injEq, Array.mk.injEq, List.cons.injEq, Value.slice.injEq, and_true] at e
    obtain ⟨rfl, _, rfl⟩ := e
    exact ⟨h, ho.sl, hn⟩
  obtain ⟨W1, hW1⟩ : ∃ W, W = w.alloc (.cells #[.slice p l.length c] 24) := ⟨_, rfl⟩
  obtain ⟨b0, hb0⟩ : ∃ b, b = w.heap.size := ⟨_, rfl⟩
  have g1 : Below w.heap.size w W1 := by rw [hW1]; exact bl_alloc _ _
  have x0 : Bx W1 b0 24 #[.slice p l.length c] := by rw [hW1, hb0]; exact Bx.new _ _ _
  have hX : nv 4294967296 l < 2 ^ 96 := Nat.lt_of_lt_of_le (nv_lt32 l hd) (Nat.pow_le_pow_right (by omega) (by omega))
  have HM := Lib.hid (pm_lt hX hz)
  have HLN := Lib.hid (lentn_any p c l W1 (hsl.below g1) (by omega) hpn)
  have HPW : Hid (∀ (q : Option Addr) (d : Nat) (W : World), NatIn W W.heap.size (.agg #[.slice q l.length d]) l → Calls Tryz.prog 24 #[.agg #[.slice q l.length d], .int .i64 z] W fun e w' => ∃ q x d, e = .returned (.tuple #[.agg #[.slice q x d], .int .i64 (pe z)]) ∧ FNat w' W.heap.size (.agg #[.slice q x d]) (pm (nv 4294967296 l) z) ∧ x ≤ 2000 ∧ Below W.heap.size W w') := Lib.hid fun q d W h => pw_any q d l z W hl hz hd h
  have HRP : Hid (∀ W : World, Sl W .u32 p l → Calls Tryz.prog 25 #[.agg #[.slice p l.length c], .int .i64 z] W fun e w' => ∃ q x d, e = .returned (.tuple #[.agg #[.slice q x d], .int .i64 (pe z)]) ∧ FNat w' W.heap.size (.agg #[.slice q x d]) (pm (nv 4294967296 l) z) ∧ x ≤ 2000 ∧ Below W.heap.size W w') := Lib.hid fun W h => rpw_any p c l z W hl hz hd h
  generalize pe z = E at HPW HRP
  generalize pm (nv 4294967296 l) z = M at HPW HRP HM
  have HTAB := Lib.hid htab
  have HD := Lib.hid hd
  have HSL := Lib.hid hsl
  have G1 := Lib.hid g1
  have X0 := Lib.hid x0
  have HW1 := Lib.hid (And.intro hb0.symm hW1.symm)
  have hlI : ¬ (3 : Int) < (l.length : Int) := by omega
  have hzI : ¬ (40 : Int) < z := by omega
  have HLE := Lib.hid hl
  have HB0 : Hid (w.heap.size ≤ b0) := Nat.le_of_eq hb0.symm
  clear htab hd hsl g1 x0 hW1 hb0 hl hz hin hpn hX
  go_enter Tryz.func4, Tryz.ntmps4
  go_upto_region 1 with fail
  rw [HW1.out.1, HW1.out.2]
  have c0 := X0.out.cell (i := 0) rfl
  go_wp2_with fail
  refine HLN.out.mono ?_
  rintro e w2 ⟨g, cap, rfl, hln, hb2⟩
  -- in
  obtain ⟨W3, hW3⟩ : ∃ W, W = w2.alloc (.cells #[.slice (some ⟨g, 0, none⟩) l.length cap] 24) := ⟨_, rfl⟩
  obtain ⟨b5, hb5⟩ : ∃ b, b = w2.heap.size := ⟨_, rfl⟩
  have g3 : Below w2.heap.size w2 W3 := by rw [hW3]; exact bl_alloc _ _
  have x5 : Bx W3 b5 24 #[.slice (some ⟨g, 0, none⟩) l.length cap] := by rw [hW3, hb5]; exact Bx.new _ _ _
  have x03 := (X0.out.below hb2).below g3
  have ln3 := hln.below g3
  have G3 := Lib.hid (bl_trans (bl_trans G1.out hb2) g3)
  have GLT : Hid (g < w2.heap.size) := hln.lt.2
  have HS3 : Hid (w2.heap.size ≤ W3.heap.size) := g3.size
  have HP1 := Lib.hid (HPW.out (some ⟨g, 0, none⟩) cap W3 (ln3.nat HD.out))
  have LN3 := Lib.hid ln3
  have X03 := Lib.hid x03
  have X53 := Lib.hid x5
  have HW3 := Lib.hid (And.intro hb5.symm hW3.symm)
  have HB5 : Hid (w.heap.size ≤ b5) := by have := (bl_trans G1.out hb2).size; show _ ≤ _; omega
  clear hln hb2 hW3 hb5 g3 x5 x03 ln3 HLN c0 X0
  go_upto_region 4 with fail
  rw [HW3.out.1, HW3.out.2]
  have c5 := X53.out.cell (i := 0) rfl
  go_wp2_with fail
  refine HP1.out.mono ?_
  rintro e w4 ⟨q1, x1, d1, rfl, hf1, hx1, hb4⟩
  obtain ⟨W4, hW4⟩ : ∃ W, W = w4.alloc (.cells #[.slice q1 x1 d1] 24) := ⟨_, rfl⟩
  obtain ⟨b6, hb6⟩ : ∃ b, b = w4.heap.size := ⟨_, rfl⟩
  have g4 : Below w4.heap.size w4 W4 := by rw [hW4]; exact bl_alloc _ _
  have g34 := bl_trans hb4 g4
  have x6 : Bx W4 b6 24 #[.slice q1 x1 d1] := by rw [hW4, hb6]; exact Bx.new _ _ _
  have G4 := Lib.hid (bl_trans G3.out g34)
  have X04 := Lib.hid (X03.out.below g34)
  have X54 := Lib.hid (X53.out.below g34)
  have LN4 := Lib.hid (LN3.out.below g34)
  have F14 := Lib.hid (hf1.below g4)
  have X64 := Lib.hid x6
  have HW4 := Lib.hid (And.intro hb6.symm hW4.symm)
  have HS4 : Hid (W3.heap.size ≤ W4.heap.size) := g34.size
  have HX1 := Lib.hid hx1
  have HP2 := Lib.hid (HRP.out W4 (HSL.out.below G4.out))
  clear hb4 hW4 hb6 g4 g34 x6 hf1 hx1 HP1 c5 X03 X53 LN3
  go_upto_region 5 with fail
  rw [HW4.out.1, HW4.out.2]
  have c0 := X04.out.cell (i := 0) rfl
  go_wp2_with fail
  refine HP2.out.mono ?_
  rintro e w5 ⟨q2, x2, d2, rfl, hf2, hx2, hb7⟩
  obtain ⟨W5, hW5⟩ : ∃ W, W = w5.alloc (.cells #[.slice q2 x2 d2] 24) := ⟨_, rfl⟩
  obtain ⟨b8, hb8⟩ : ∃ b, b = w5.heap.size := ⟨_, rfl⟩
  have g5 : Below w5.heap.size w5 W5 := by rw [hW5]; exact bl_alloc _ _
  have g45 := bl_trans hb7 g5
  have x8 : Bx W5 b8 24 #[.slice q2 x2 d2] := by rw [hW5, hb8]; exact Bx.new _ _ _
  have G5 := Lib.hid (bl_trans G4.out g45)
  have X05 := Lib.hid (X04.out.below g45)
  have X55 := Lib.hid (X54.out.below g45)
  have X65 := Lib.hid (X64.out.below g45)
  have LN5 := Lib.hid (LN4.out.below g45)
  have F15 := Lib.hid (F14.out.below g45)
  have F25 := Lib.hid (hf2.below g5)
  have X85 := Lib.hid x8
  have HW5 := Lib.hid (And.intro hb8.symm hW5.symm)
  have HS5 : Hid (W4.heap.size ≤ W5.heap.size) := g45.size
  have HP3 := Lib.hid (HPW.out (some ⟨g, 0, none⟩) cap W5 (LN5.out.nat HD.out))
  clear hb7 hW5 hb8 g5 g45 x8 hf2 hx2 HP2 c0 X04 X54 X64 LN4 F14
  go_upto_region 6 with fail
  rw [HW5.out.1, HW5.out.2]
  have c5 := X55.out.cell (i := 0) rfl
  go_wp2_with fail
  refine HP3.out.mono ?_
  rintro e w6 ⟨q3, x3, d3, rfl, hf3, hx3, hb9⟩
  obtain ⟨W6, hW6⟩ : ∃ W, W = w6.alloc (.cells #[.slice q3 x3 d3] 24) := ⟨_, rfl⟩
  obtain ⟨b10, hb10⟩ : ∃ b, b = w6.heap.size := ⟨_, rfl⟩
  have g6 : Below w6.heap.size w6 W6 := by rw [hW6]; exact bl_alloc _ _
  have g56 := bl_trans hb9 g6
  have x10 : Bx W6 b10 24 #[.slice q3 x3 d3] := by rw [hW6, hb10]; exact Bx.new _ _ _
  have G6 := Lib.hid (bl_trans G5.out g56)
  have X06 := Lib.hid (X05.out.below g56)
  have X56 := Lib.hid (X55.out.below g56)
  have X66 := Lib.hid (X65.out.below g56)
  have X86 := Lib.hid (X85.out.below g56)
  have LN6 := Lib.hid (LN5.out.below g56)
  have F16 := Lib.hid (F15.out.below g56)
  have F26 := Lib.hid (F25.out.below g56)
  have F36 := Lib.hid (hf3.below g6)
  have X106 := Lib.hid x10
  have HX3 := Lib.hid hx3
  have HW6 := Lib.hid (And.intro hb10.symm hW6.symm)
  have HSA := Lib.hid (fnat_same F16.out F26.out HM.out (by decide))
  -- the first power's digits lie below the third's
  have H13 : Hid (∀ b, blk q1 = some b → b < W5.heap.size) := by
    obtain ⟨k, _, ho⟩ := fnat_own F15.out
    exact fun b e => ((own_d ho).2.2 b e).1
  clear hb9 hW6 hb10 g6 g56 x10 hf3 hx3 HP3 c5 X05 X55 X65 X85 LN5 F15 F25
  go_upto_region 7 with fail
  rw [HW6.out.1, HW6.out.2]
  have c6 := X66.out.cell (i := 0) rfl
  have c8 := X86.out.cell (i := 0) rfl
  go_wp2_with fail
  refine HSA.out.mono ?_
  rintro e w7 ⟨rfl, hb7⟩
  have G7 := Lib.hid (bl_trans G6.out hb7)
  have X07 := Lib.hid (X06.out.below hb7)
  have X57 := Lib.hid (X56.out.below hb7)
  have X67 := Lib.hid (X66.out.below hb7)
  have X107 := Lib.hid (X106.out.below hb7)
  have LN7 := Lib.hid (LN6.out.below hb7)
  have F17 := Lib.hid (F16.out.below hb7)
  have F37 := Lib.hid (F36.out.below hb7)
  have HK1 := Lib.hid (keptn_any p c l _ g cap w7 (HSL.out.below G7.out) (by have := HLE.out; omega) LN7.out)
  clear hb7 HSA c6 c8 X06 X56 X66 X86 X106 LN6 F16 F26 F36
  have c0 := X07.out.cell (i := 0) rfl
  have c5 := X57.out.cell (i := 0) rfl
  go_wp2_with fail
  refine HK1.out.mono ?_
  rintro e w8 ⟨rfl, hb8⟩
  have G8 := Lib.hid (bl_trans G7.out hb8)
  have X08 := Lib.hid (X07.out.below hb8)
  have X58 := Lib.hid (X57.out.below hb8)
  have X68 := Lib.hid (X67.out.below hb8)
  have X108 := Lib.hid (X107.out.below hb8)
  have LN8 := Lib.hid (LN7.out.below hb8)
  have F18 := Lib.hid (F17.out.below hb8)
  have F38 := Lib.hid (F37.out.below hb8)
  have HAP := Lib.hid (apart2_any q1 q3 x1 x3 d1 d3 _ _ _ _ w8 F18.out F38.out HX1.out HX3.out H13.out)
  clear hb8 HK1 c0 c5 X07 X57 X67 X107 LN7 F17 F37
  have c6 := X68.out.cell (i := 0) rfl
  have c10 := X108.out.cell (i := 0) rfl
  go_wp2_with fail
  refine HAP.out.mono ?_
  rintro e w9 ⟨rfl, hb9⟩
  obtain ⟨W8, hW8⟩ : ∃ W, W = (w8.alloc (.cells #[.slice q1 x1 d1, .slice q3 x3 d3] 24)).alloc (.cells #[.slice (some ⟨w8.heap.size, 0, none⟩) 2 2] 38) := ⟨_, rfl⟩
  rw [← hW8] at hb9
  have g8 : Below w8.heap.size w8 W8 := by rw [hW8]; exact bl_trans (bl_alloc _ _) (bl_alloc _ _)
  have X09 := Lib.hid (box_two X08.out F18.out F38.out (Nat.le_refl _) g8 hb9)
  have X59 := Lib.hid (box_two X58.out F18.out F38.out (Nat.le_refl _) g8 hb9)
  obtain ⟨k1, _, o1⟩ := fnat_own F18.out
  obtain ⟨k3, _, o3⟩ := fnat_own F38.out
  have hs3 := HS3.out
  have hs4 := HS4.out
  have hs5 := HS5.out
  have hg3 := G3.out.size
  have hg8 := G8.out.size
  have hglt := GLT.out
  have G9 : Hid (Below w.heap.size w w9) := (G8.out.trans (g8.mono hg8)).trans (hb9.below (by have := g8.size; omega) fun b s => by
    rcases s with s | s | s
    · have := ((own_d o1).2.2 b s).2.1; omega
    · have := ((own_d o3).2.2 b s).2.1; omega
    · omega)
  have LN9 : Hid (LentL w9 _ g cap l) := ⟨LN8.out.1, LN8.out.2.1, row_but (own_below LN8.out.2.2 g8) hb9 (fun b e s => by
    simp only [Value.ownBlock, Option.some.injEq] at e
    subst e
    rcases s with s | s | s
    · have := ((own_d o1).2.2 _ s).2.1; omega
    · have := ((own_d o3).2.2 _ s).2.1; omega
    · have := LN8.out.lt.2; omega)⟩
  have HK2 := Lib.hid (keptn_any p c l _ g cap w9 (HSL.out.below G9.out) (by have := HLE.out; omega) LN9.out)
  clear hb9 hW8 g8 o1 o3 hs3 hs4 hs5 hg3 hg8 hglt HAP c6 c10 X08 X58 X68 X108 LN8 F18 F38
  have c0 := X09.out.cell (i := 0) rfl
  have c5 := X59.out.cell (i := 0) rfl
  go_wp2_with fail
  refine HK2.out.mono ?_
  rintro e w10 ⟨rfl, hb10⟩
  have G10 := Lib.hid (bl_trans G9.out hb10)
  have HAW := Lib.hid (awake_any w10 (tabIs_below HTAB.out G10.out))
  clear hb10 HK2 c0 c5
  go_wp2_with fail
  refine HAW.out.mono ?_
  rintro e w11 ⟨rfl, hb11⟩
  have HB := Lib.hid (bl_trans G10.out hb11)
  clear hb11 HAW
  go_wp2
  go_ret
  exact ⟨rfl, HB.out⟩
theorem powers_true (p : Option Addr) (c : Nat) (l : List Nat) (z : Int) (w : World) (htab : Lib.TabIs Tryz.prog w "internal/strconv.uint64pow10" .u64 Lib.pow10Tab)
    (hl : l.length ≤ 9223372036854775807) (hin : NatIn w w.heap.size (.agg #[.slice p l.length c]) l) :
    Calls Tryz.prog 4 #[.agg #[.slice p l.length c], .int .i64 z] w fun e w' => e = .returned (.bool true) ∧ Below w.heap.size w w' := by
  by_cases hout : 3 < l.length ∨ 40 < z
  · exact powers_out p c l z w htab hl hout
  · exact powers_in p c l z w htab hin (by omega) (by omega)
end Go.Proofs.YtcahnkocfbcchaaGreatDoor
