/- TreeKinds, walked. -/
/- TreeKinds, a closed statement, no condition: nodes of each kind with none to three kids, each with each other part there and not; kids in each order, groups in each order; names of each sort; trees as deep and as great as may be, and more, are told by the program as by the document. The frame. -/
import Derived.Test.YtjpccmiaimkmbaaGreatKv
import Derived.Test.YtjpccmiaimkmbaaGreatRows
import Derived.ProofKit
import Derived.OpenShut
import Derived.SizedLaws
import Derived.Carry
import Derived.Lib.SmallJoins

namespace Go.Proofs.YtjpccmiaimkmbaaGreat
open Go.RowKit Tnr Tnt

theorem and1 (z : Int) (h : 0 ≤ z) (h2 : z < 2147483648) : ∃ x : Nat, bits BinOp.and .i64 z 1 = ((x : Nat) : Int) ∧ x ≤ 1 := by
  have hm : bits BinOp.and .i64 z 1 = z % 2 := bits_mask .i64 31 (by decide) (fun n h0 h1 => by rw [IntKind.wrap_i64]; omega) 1 (by decide) z h h2
  exact ⟨(z % 2).toNat, by rw [hm]; omega, by omega⟩
def kW (wp : World) (C0 C1 C2 C3 C4 C5 : Array Value) : World := (((((wp.alloc (.cells C0 28)).alloc (.cells C1 28)).alloc (.cells C2 51)).alloc (.cells C3 51)).alloc (.cells C4 28)).alloc (.cells C5 28)
theorem three_nodes (wp : World) (kd z3 w4 z5 a6 a7 za zb o3 o5 o6 o7 : Int) (b8 ob : Bool) (x y : Nat) (hx : x ≤ 1) (hy : y ≤ 1) (hk : 0 ≤ kd ∧ kd < 256) (C0 C1 C4 : Array Value) (V : World)
    (hV : V = kW wp C0 C1 #[.int .i64 za, .int .i64 zb] #[.int .i64 5, .int .i64 9] C4 #[.int .u8 kd, .slice none 0 0, .slice none 0 0, .int .i64 z3, .int .i64 0, .int .i64 (-1), .int .u8 a6, .int .u8 a7, .bool b8,
      .int .u8 kd, .slice (some ⟨wp.heap.size + 1 + 1, 0, none⟩) x 1, .slice none 0 0, .int .i64 z3, .int .i64 w4, .int .i64 z5, .int .u8 a6, .int .u8 a7, .bool b8,
      .int .u8 kd, .slice (some ⟨wp.heap.size + 1 + 1 + 1, 0, none⟩) y 1, .slice none 0 0, .int .i64 o3, .int .i64 0, .int .i64 o5, .int .u8 o6, .int .u8 o7, .bool ob]) :
    Below wp.heap.size wp V ∧ ∃ xs : List NV, xs.length = 3 ∧ SlN V (some ⟨wp.heap.size + 1 + 1 + 1 + 1 + 1, 0, none⟩) xs ∧ ∀ X ∈ xs, FwN X.nd := by
  obtain ⟨w1, h1⟩ : ∃ W, W = wp.alloc (.cells C0 28) := ⟨_, rfl⟩
  obtain ⟨w2, h2⟩ : ∃ W, W = w1.alloc (.cells C1 28) := ⟨_, rfl⟩
  obtain ⟨w3, h3⟩ : ∃ W, W = w2.alloc (.cells #[.int .i64 za, .int .i64 zb] 51) := ⟨_, rfl⟩
  obtain ⟨w4', h4⟩ : ∃ W, W = w3.alloc (.cells #[.int .i64 5, .int .i64 9] 51) := ⟨_, rfl⟩
  obtain ⟨w5, h5⟩ : ∃ W, W = w4'.alloc (.cells C4 28) := ⟨_, rfl⟩
  have s1 : w1.heap.size = wp.heap.size + 1 := by rw [h1]; simp
  have s2 : w2.heap.size = wp.heap.size + 1 + 1 := by rw [h2, ← s1]; simp
  have s3 : w3.heap.size = wp.heap.size + 1 + 1 + 1 := by rw [h3, ← s2]; simp
  have s4 : w4'.heap.size = wp.heap.size + 1 + 1 + 1 + 1 := by rw [h4, ← s3]; simp
  have s5 : w5.heap.size = wp.heap.size + 1 + 1 + 1 + 1 + 1 := by rw [h5, ← s4]; simp
  have b1 : Below wp.heap.size wp w1 := by rw [h1]; exact bl_alloc _ _
  have b2 : Below w1.heap.size w1 w2 := by rw [h2]; exact bl_alloc _ _
  have b3 : Below w2.heap.size w2 w3 := by rw [h3]; exact bl_alloc _ _
  have b4 : Below w3.heap.size w3 w4' := by rw [h4]; exact bl_alloc _ _
  have b5 : Below w4'.heap.size w4' w5 := by rw [h5]; exact bl_alloc _ _
  have eV : V = w5.alloc (.cells #[.int .u8 kd, .slice none 0 0, .slice none 0 0, .int .i64 z3, .int .i64 0, .int .i64 (-1), .int .u8 a6, .int .u8 a7, .bool b8,
      .int .u8 kd, .slice (some ⟨wp.heap.size + 1 + 1, 0, none⟩) x 1, .slice none 0 0, .int .i64 z3, .int .i64 w4, .int .i64 z5, .int .u8 a6, .int .u8 a7, .bool b8,
      .int .u8 kd, .slice (some ⟨wp.heap.size + 1 + 1 + 1, 0, none⟩) y 1, .slice none 0 0, .int .i64 o3, .int .i64 0, .int .i64 o5, .int .u8 o6, .int .u8 o7, .bool ob] 28) := by rw [hV, h5, h4, h3, h2, h1]; rfl
  have b6 : Below w5.heap.size w5 V := by rw [eV]; exact bl_alloc _ _
  have hR1 : Bx V (wp.heap.size + 1 + 1) 51 #[.int .i64 za, .int .i64 zb] := by
    have h : Bx w3 (wp.heap.size + 1 + 1) 51 #[.int .i64 za, .int .i64 zb] := by rw [h3, ← s2]; exact Bx.new _ _ _
    exact ((h.below b4).below b5).below b6
  have hR2 : Bx V (wp.heap.size + 1 + 1 + 1) 51 #[.int .i64 5, .int .i64 9] := by
    have h : Bx w4' (wp.heap.size + 1 + 1 + 1) 51 #[.int .i64 5, .int .i64 9] := by rw [h4, ← s3]; exact Bx.new _ _ _
    exact (h.below b5).below b6
  have hRow := Bx.new w5 28 #[.int .u8 kd, .slice none 0 0, .slice none 0 0, .int .i64 z3, .int .i64 0, .int .i64 (-1), .int .u8 a6, .int .u8 a7, .bool b8,
      .int .u8 kd, .slice (some ⟨wp.heap.size + 1 + 1, 0, none⟩) x 1, .slice none 0 0, .int .i64 z3, .int .i64 w4, .int .i64 z5, .int .u8 a6, .int .u8 a7, .bool b8,
      .int .u8 kd, .slice (some ⟨wp.heap.size + 1 + 1 + 1, 0, none⟩) y 1, .slice none 0 0, .int .i64 o3, .int .i64 0, .int .i64 o5, .int .u8 o6, .int .u8 o7, .bool ob]
  rw [← eV, s5] at hRow
  refine ⟨bl_trans (bl_trans (bl_trans (bl_trans (bl_trans b1 b2) b3) b4) b5) b6, ?_⟩
  have lx : (([(za, zb)] : List R).take x).length = x := by rw [List.length_take]; show min x 1 = x; omega
  have ly : (([(5, 9)] : List R).take y).length = y := by rw [List.length_take]; show min y 1 = y; omega
  have one : ∀ (g : Nat) (u v : Int) (k : Nat), Bx V g 51 #[.int .i64 u, .int .i64 v] → SlR V (some ⟨g, 0, none⟩) (([(u, v)] : List R).take k) := by
    intro g u v k h
    match k with
    | 0 => exact .inl rfl
    | k + 1 =>
      right
      refine ⟨g, 0, rfl, fun i hi => ?_⟩
      have hi0 : i = 0 := by rw [List.length_take] at hi; have : ([(u, v)] : List R).length = 1 := rfl; omega
      subst hi0
      exact ⟨h.cell rfl, h.cell rfl⟩
  refine ⟨[⟨⟨kd, [], [], z3, 0, -1, a6, a7, b8⟩, none, 0, none, 0⟩, ⟨⟨kd, ([(za, zb)] : List R).take x, [], z3, w4, z5, a6, a7, b8⟩, some ⟨wp.heap.size + 1 + 1, 0, none⟩, 1, none, 0⟩, ⟨⟨kd, ([(5, 9)] : List R).take y, [], o3, 0, o5, o6, o7, ob⟩, some ⟨wp.heap.size + 1 + 1 + 1, 0, none⟩, 1, none, 0⟩], rfl, ⟨fun X hX => ?_, .inr ⟨_, 0, rfl, fun i hi => ?_⟩⟩, fun X hX => ?_⟩
  · simp only [List.mem_cons, List.not_mem_nil, or_false] at hX
    rcases hX with rfl | rfl | rfl
    · exact ⟨.inl rfl, .inl rfl, fun _ => rfl, fun _ => rfl, Nat.le_refl _, Nat.le_refl _⟩
    · exact ⟨one _ _ _ _ hR1, .inl rfl, fun h => (by cases h), fun _ => rfl, by show (([(za, zb)] : List R).take x).length ≤ 1; omega, Nat.le_refl _⟩
    · exact ⟨one _ _ _ _ hR2, .inl rfl, fun h => (by cases h), fun _ => rfl, by show (([(5, 9)] : List R).take y).length ≤ 1; omega, Nat.le_refl _⟩
  · have hi3 : i = 0 ∨ i = 1 ∨ i = 2 := by have : i < 3 := hi; omega
    rcases hi3 with rfl | rfl | rfl
    · exact ⟨hRow.cell rfl, hRow.cell rfl, hRow.cell rfl, hRow.cell rfl, hRow.cell rfl, hRow.cell rfl, hRow.cell rfl, hRow.cell rfl, hRow.cell rfl⟩
    · refine ⟨hRow.cell rfl, ?_, hRow.cell rfl, hRow.cell rfl, hRow.cell rfl, hRow.cell rfl, hRow.cell rfl, hRow.cell rfl, hRow.cell rfl⟩
      show _ = some (Value.slice _ (([(za, zb)] : List R).take x).length 1)
      rw [lx]; exact hRow.cell rfl
    · refine ⟨hRow.cell rfl, ?_, hRow.cell rfl, hRow.cell rfl, hRow.cell rfl, hRow.cell rfl, hRow.cell rfl, hRow.cell rfl, hRow.cell rfl⟩
      show _ = some (Value.slice _ (([(5, 9)] : List R).take y).length 1)
      rw [ly]; exact hRow.cell rfl
  · simp only [List.mem_cons, List.not_mem_nil, or_false] at hX
    rcases hX with rfl | rfl | rfl
    · exact ⟨Nat.zero_le _, Nat.zero_le _, hk.1, hk.2⟩
    · exact ⟨Nat.zero_le _, by show (([(za, zb)] : List R).take x).length ≤ 5000; omega, hk.1, hk.2⟩
    · exact ⟨Nat.zero_le _, by show (([(5, 9)] : List R).take y).length ≤ 5000; omega, hk.1, hk.2⟩
theorem size_one : ∀ (ts : List TV), (∀ t ∈ ts, t.ys.length = 1) → sizeT ts = ts.length
  | [], _ => rfl
  | t :: ts, h => by
    rw [sizeT_cons, size_one ts fun x hx => h x (List.mem_cons_of_mem _ hx), h t List.mem_cons_self, List.length_cons]; omega
def OneT (ts : List TV) : Prop := ∀ t ∈ ts, t.ys.length = 1 ∧ ∀ y ∈ t.ys, FwN y.nd
set_option maxHeartbeats 12800000 in
set_option maxRecDepth 100000 in
theorem treeKinds_any (w : World) : Calls Tryz.prog 4 #[] w fun e w' => e = .returned (.bool true) ∧ Below w.heap.size w w' := by
  obtain ⟨k0, kinf, kz0, kz1, kz2⟩ := info_parts info_tree
  have HBW : Hid (Below w.heap.size w w) := Below.refl _ _
  go_enter Tryz.func4, Tryz.ntmps4
  go_wp2_with fail
  refine (hset_all _ _).mono ?_
  rintro e u1 ⟨x1, rfl, hx1, hf1, hb1⟩
  have HBu1 := Lib.hid (bl_trans HBW.out hb1)
  have HJ1 := Lib.hid (joinW0 x1 w.heap.size u1 hx1 hf1 HBu1.out.size)
  clear hx1 hf1 hb1
  go_wp2_with fail
  refine HJ1.out.mono ?_
  rintro e u2 ⟨q1, m1, c1, ys1, rfl, ht1, rfl, hb2⟩
  have HBu2 := Lib.hid (bl_trans HBu1.out hb2)
  have HT1 := Lib.hid ht1
  clear ht1 hb2
  obtain ⟨u3, hu3⟩ : ∃ W, W = u2.alloc (.cells #[.slice q1 1 c1, .slice none 0 0] 34) := ⟨_, rfl⟩
  obtain ⟨b1, hb1⟩ : ∃ b, b = u2.heap.size := ⟨_, rfl⟩
  have hbau3 : Below u2.heap.size u2 u3 := by rw [hu3]; exact bl_alloc _ _
  have hbxu3 : Bx u3 b1 34 #[.slice q1 1 c1, .slice none 0 0] := by rw [hu3, hb1]; exact Bx.new u2 _ _
  have HWu3 := Lib.hid (And.intro hu3.symm hb1.symm)
  have HBu3 := Lib.hid (bl_trans HBu2.out hbau3)
  have HT1_u3 := Lib.hid (HT1.out.below hbau3)
  have HX1 := Lib.hid hbxu3
  clear hu3 hb1 hbau3 hbxu3
  go_wp2
  rw [HWu3.out.2, HWu3.out.1]
  go_loopw [2] (fun iv wr => ∃ (kd : Nat), kd ≤ 15 ∧ iv = .int .i64 (kd : Nat) ∧ Hid (Bx wr b1 34 #[.slice q1 1 c1, .slice none 0 0]) ∧ Hid (TW wr w.heap.size q1 1 c1 ys1) ∧ Hid (Below w.heap.size w wr)) (fun iv _ => 15 - (intOf iv).toNat)
  case atStart => exact ⟨0, by omega, rfl, HX1.out, HT1_u3.out, HBu3.out⟩
  case round =>
    obtain ⟨kd, hkd, rfl, HXA, HTA, HBA⟩ := hrel
    rename World => wa
    by_cases hkl : kd < 15
    · have hkI : ((kd : Nat) : Int) < 15 := by omega
      have HKD := Lib.hid hkl
      clear hkd hkl
      go_wp2
      go_loopw [3] (fun iv wr => ∃ (kn : Nat), kn ≤ 4 ∧ iv = .int .i64 (kn : Nat) ∧ Hid (Bx wr b1 34 #[.slice q1 1 c1, .slice none 0 0]) ∧ Hid (TW wr w.heap.size q1 1 c1 ys1) ∧ Hid (Below w.heap.size w wr)) (fun iv _ => 4 - (intOf iv).toNat)
      case atStart => exact ⟨0, by omega, rfl, HXA.out, HTA.out, HBA.out⟩
      case round =>
        obtain ⟨kn, hkn, rfl, HXB, HTB, HBB⟩ := hrel
        rename World => wb
        by_cases hnl : kn < 4
        · have hnI : ((kn : Nat) : Int) < 4 := by omega
          have HKN := Lib.hid hnl
          clear hkn hnl
          go_wp2
          go_loopw [4, 5] (fun lv iv wr => ∃ (i : Nat) (q : Option Addr) (cq : Nat) (ts : List TV), i ≤ kn ∧ lv = .slice q i cq ∧ iv = .int .i64 (i : Nat) ∧ Hid (i = ts.length) ∧ Hid ((Value.slice q i cq).ownBlock ≠ some b1) ∧ Hid (OwnT wr w.heap.size (.slice q i cq) ts) ∧ Hid (OneT ts) ∧ Hid (Bx wr b1 34 #[.slice q1 1 c1, .slice none 0 0]) ∧ Hid (TW wr w.heap.size q1 1 c1 ys1) ∧ Hid (Below w.heap.size w wr)) (fun _ iv _ => kn - (intOf iv).toNat)
          case atStart => exact ⟨0, none, 0, [], Nat.zero_le _, rfl, rfl, rfl, by show (Value.slice none 0 0).ownBlock ≠ _; simp [Value.ownBlock], ownT_nil _ _, fun t ht => by simp at ht, HXB.out, HTB.out, HBB.out⟩
          case round =>
            obtain ⟨i, q, cq, ts, hi, rfl, rfl, HIT, HNB, HOT, HOS, HXC, HTC, HBC⟩ := hrel
            rename World => wc
            by_cases hil : i < kn
            · have hiI : ((i : Nat) : Int) < ((kn : Nat) : Int) := by omega
              have HIL := Lib.hid hil
              obtain ⟨r0, r1⟩ := two HXC.out
              have HROW := Lib.hid (ownT_row HOT.out HIT.out)
              have hi4 : i ≤ 4 := by have := HKN.out; omega
              clear hi hil
              go_wp2_with (at_builtin; refine wpList_append_lies _ rfl _ _ 29 rfl w.heap.size 34 k0 (.agg #[.slice none 0 0, .slice none 0 0]) 2 48 Tryz.underlying29 kinf kz0 kz1 kz2 rfl (by decide) (.slice q i cq) i _ rfl (HROW.out.alloc _) ⟨wc.heap.size, 0, none⟩ 1 1 [.slice q1 1 c1, .slice none 0 0] rfl rfl (cells_nine wc [.slice q1 1 c1, .slice none 0 0] _) (by simp [Value.oneCell']) (by decide) (by simp only [maxLen]; omega) (by omega) (by have := HBC.out.size; simp; omega) _ rfl ?_)
              intro gg cap w9 hown hgrow hat hlt
              have hbl := bl_alloc wc (.cells #[.slice q1 1 c1, .slice none 0 0] 34)
              have hl1 : ys1.length = 1 := HTC.out.len.symm
              have hot9 : OwnT w9 w.heap.size (.slice (some ⟨gg, 0, none⟩) (i + 1) cap) (ts ++ [tv q1 c1 ys1]) := by
                refine OwnT.more (t := tv q1 c1 ys1) (HOT.out.below hbl) HIT.out ?_ ?_ hgrow
                · show OwnN _ _ (.slice q1 ys1.length c1) ys1
                  rw [hl1]; exact HTC.out.own.below hbl
                · show w9.ownsRow _ _ 2 (.slice (some ⟨gg, 0, none⟩) (i + 1) cap) (i + 1) (ts.flatMap encT ++ [.slice q1 ys1.length c1, .slice none 0 0])
                  rw [hl1]; exact hown
              have hne1 : (Value.slice q i cq).ownBlock ≠ some b1 := HNB.out
              have HNN : Hid ((Value.slice (some ⟨gg, 0, none⟩) (i + 1) cap).ownBlock ≠ some b1) := by
                show (Value.slice (some ⟨gg, 0, none⟩) (i + 1) cap).ownBlock ≠ some b1
                simp only [Value.ownBlock, ne_eq, Option.some.injEq]
                intro e
                subst e
                rcases hat with h | h
                · exact HNB.out h
                · have := HXC.out.lt
                  first | (rw [World.size_alloc] at h; omega) | omega | (simp at h; omega)
              have hx9 : Bx w9 b1 34 #[.slice q1 1 c1, .slice none 0 0] := (HXC.out.below hbl).kept hgrow (Ne.symm hne1)
              have ht9 : TW w9 w.heap.size q1 1 c1 ys1 := ⟨HTC.out.len, HTC.out.le, (HTC.out.own.below hbl).beside (HROW.out.alloc _) hgrow (by decide) (by decide) (by decide), HTC.out.few⟩
              have hb9 : Below w.heap.size w w9 := (HBC.out.trans (hbl.mono HBC.out.size)).grown hgrow (HBC.out.trans (hbl.mono HBC.out.size)).size (fun g e => (HROW.out.lt g e).1)
              have hos9 : OneT (ts ++ [tv q1 c1 ys1]) := by
                intro t ht
                rcases List.mem_append.1 ht with ht | ht
                · exact HOS.out t ht
                · rw [List.mem_singleton.1 ht]; exact ⟨hl1, HTC.out.few⟩
              have hk9 : i + 1 = (ts ++ [tv q1 c1 ys1]).length := by rw [List.length_append, ← HIT.out]; rfl
              have HO9 := Lib.hid hot9
              have HX9 := Lib.hid hx9
              have HT9 := Lib.hid ht9
              have HB9 := Lib.hid hb9
              have HS9 := Lib.hid hos9
              have HK9 := Lib.hid hk9
              clear hown hgrow hat hlt hbl hl1 hot9 hx9 ht9 hb9 hos9 hk9 hne1 r0 r1 hi4
              go_wp2
              go_roundw
              case rel => exact ⟨i + 1, some ⟨gg, 0, none⟩, cap, _, by have := HIL.out; omega, rfl, by go_num, HK9.out, HNN.out, HO9.out, HS9.out, HX9.out, HT9.out, HB9.out⟩
              case measure => have := HIL.out; simp [intOf]; omega
            · have hge : ((kn : Nat) : Int) ≤ ((i : Nat) : Int) := by omega
              have HI4 : Hid (i ≤ 4) := by have := HKN.out; show i ≤ 4; omega
              have HOT0 := HOT
              have HOS0 := HOS
              clear hi hil
              go_wp2
              clear hge
              try generalize decide (i < kn) = dz
              try generalize decide (((i : Nat) : Int) < ((kn : Nat) : Int)) = dz2
              go_loopw [6] (fun iv wr => ∃ (p : Nat), p ≤ 64 ∧ iv = .int .i64 (p : Nat) ∧ Hid (OwnT wr w.heap.size (.slice q i cq) ts) ∧ Hid (Bx wr b1 34 #[.slice q1 1 c1, .slice none 0 0]) ∧ Hid (TW wr w.heap.size q1 1 c1 ys1) ∧ Hid (Below w.heap.size w wr)) (fun iv _ => 64 - (intOf iv).toNat)
              case atStart => exact ⟨0, by omega, rfl, HOT.out, HXC.out, HTC.out, HBC.out⟩
              case round =>
                obtain ⟨p, hp, rfl, HOP, HXP, HTP, HBP⟩ := hrel
                rename World => wp
                by_cases hpl : p < 64
                · have hpI : ((p : Nat) : Int) < 64 := by omega
                  have HPL := Lib.hid hpl
                  obtain ⟨x8, h8, hx8⟩ := and1 (((p : Nat) : Int) / 8) (by omega) (by omega)
                  have hx8I : ((x8 : Nat) : Int) ≤ 1 := by omega
                  obtain ⟨y32, h32, hy32⟩ : ∃ y : Nat, ((p : Nat) : Int) / 32 = ((y : Nat) : Int) ∧ y ≤ 1 := ⟨p / 32, by omega, by omega⟩
                  have hy32I : ((y32 : Nat) : Int) ≤ 1 := by omega
                  have hwk : IntKind.u8.wrap ((kd : Nat) : Int) = ((kd : Nat) : Int) := by have := HKD.out; rw [show IntKind.u8.wrap ((kd : Nat) : Int) = ((kd : Nat) : Int) % 256 from rfl]; omega
                  clear hp hpl
                  go_upto_region 27 with fail
                  generalize ha6 : bits BinOp.and IntKind.i64 ((p : Nat) : Int) 3 % 256 = a6
                  generalize ha7 : (bits BinOp.and IntKind.i64 (((p : Nat) : Int) / 4) 7).tmod 6 % 256 = a7
                  generalize hb8 : decide (0 < bits BinOp.and IntKind.i64 ((p : Nat) : Int) 32) = b8
                  generalize hz3 : bits BinOp.and IntKind.i64 (((p : Nat) : Int) / 2) 1 = z3
                  generalize hw4 : wrap64 (bits BinOp.and IntKind.i64 (((p : Nat) : Int) / 4) 3 - 1) = w4
                  generalize hz5 : bits BinOp.and IntKind.i64 ((p : Nat) : Int) 5 = z5
                  generalize ho6 : bits BinOp.and IntKind.i64 ((p : Nat) : Int) 1 % 256 = o6
                  generalize hza : bits BinOp.and IntKind.i64 ((p : Nat) : Int) 1 = za
                  generalize ho3 : bits BinOp.and IntKind.i64 (((p : Nat) : Int) / 16) 1 = o3
                  generalize ho5 : bits BinOp.and IntKind.i64 (-((p : Nat) : Int) / 2) 1 = o5
                  generalize ho7 : bits BinOp.and IntKind.i64 (((p : Nat) : Int) / 4) 1 % 256 = o7
                  generalize hob : decide (0 < x8) = ob
                  clear ha6 ha7 hb8 hz3 hw4 hz5 ho6 hza ho3 ho5 ho7 hob
                  obtain ⟨V, hV⟩ : ∃ V, V = kW wp #[.int .u8 ((kd : Nat) : Int), .slice none 0 0, .slice none 0 0, .int .i64 z3, .int .i64 0, .int .i64 (-1), .int .u8 a6, .int .u8 a7, .bool b8] #[.int .u8 ((kd : Nat) : Int), .slice (some ⟨wp.heap.size + 1 + 1, 0, none⟩) x8 1, .slice none 0 0, .int .i64 z3, .int .i64 w4, .int .i64 z5, .int .u8 a6, .int .u8 a7, .bool b8] #[.int .i64 za, .int .i64 z3] #[.int .i64 5, .int .i64 9] #[.int .u8 ((kd : Nat) : Int), .slice (some ⟨wp.heap.size + 1 + 1 + 1, 0, none⟩) y32 1, .slice none 0 0, .int .i64 o3, .int .i64 0, .int .i64 o5, .int .u8 o6, .int .u8 o7, .bool ob] #[.int .u8 ((kd : Nat) : Int), .slice none 0 0, .slice none 0 0, .int .i64 z3, .int .i64 0, .int .i64 (-1), .int .u8 a6, .int .u8 a7, .bool b8,
                    .int .u8 ((kd : Nat) : Int), .slice (some ⟨wp.heap.size + 1 + 1, 0, none⟩) x8 1, .slice none 0 0, .int .i64 z3, .int .i64 w4, .int .i64 z5, .int .u8 a6, .int .u8 a7, .bool b8,
                    .int .u8 ((kd : Nat) : Int), .slice (some ⟨wp.heap.size + 1 + 1 + 1, 0, none⟩) y32 1, .slice none 0 0, .int .i64 o3, .int .i64 0, .int .i64 o5, .int .u8 o6, .int .u8 o7, .bool ob] := ⟨_, rfl⟩
                  obtain ⟨hbV, xs, hxl, hxs, hxf⟩ := three_nodes wp ((kd : Nat) : Int) z3 w4 z5 a6 a7 za z3 o3 o5 o6 o7 b8 ob x8 y32 hx8 hy32 (by have := HKD.out; omega) _ _ _ V hV
                  unfold kW at hV
                  rw [← hV]
                  obtain ⟨b5, hb5⟩ : ∃ b, b = wp.heap.size + 1 + 1 + 1 + 1 + 1 := ⟨_, rfl⟩
                  rw [← hb5] at hxs ⊢
                  have HXS := Lib.hid (And.intro hxs (And.intro hxl hxf))
                  have HOV := Lib.hid (HOP.out.below hbV)
                  have HXV := Lib.hid (HXP.out.below hbV)
                  have HTV := Lib.hid (HTP.out.below hbV)
                  have HBV := Lib.hid (bl_trans HBP.out hbV)
                  obtain ⟨z3m, hz3m, hz32⟩ : ∃ z : Nat, ((p : Nat) : Int).tmod 3 = ((z : Nat) : Int) ∧ z ≤ 2 := ⟨p % 3, rfl, by omega⟩
                  have hz3I : ((z3m : Nat) : Int) ≤ 2 := by omega
                  clear hV hbV hxs hxl hxf hb5 h8 hx8I h32 hy32I hwk hx8 hy32
                  go_wp2
                  go_loopw [11] (fun iv wr => ∃ (e : Nat), e ≤ 3 ∧ iv = .int .i64 (e : Nat) ∧ Hid (SlN wr (some ⟨b5, 0, none⟩) xs) ∧ Hid (OwnT wr w.heap.size (.slice q i cq) ts) ∧ Hid (Bx wr b1 34 #[.slice q1 1 c1, .slice none 0 0]) ∧ Hid (TW wr w.heap.size q1 1 c1 ys1) ∧ Hid (Below w.heap.size w wr)) (fun iv _ => 3 - (intOf iv).toNat)
                  case atStart => exact ⟨0, by omega, rfl, HXS.out.1, HOV.out, HXV.out, HTV.out, HBV.out⟩
                  case round =>
                    obtain ⟨e, he, rfl, HSN, HOE, HXE, HTE, HBE⟩ := hrel
                    rename World => we
                    by_cases hel : e < 3
                    · have heI : ((e : Nat) : Int) < 3 := by omega
                      have HEL := Lib.hid hel
                      have hex : e < xs.length := by rw [HXS.out.2.1]; exact hel
                      obtain ⟨bq, oq, hbo, hc, hin⟩ := HSN.out.at hex
                      simp only [Option.some.injEq, Addr.mk.injEq, and_true] at hbo
                      obtain ⟨rfl, rfl⟩ := hbo
                      have hfw := HXS.out.2.2 _ (gn_mem hex)
                      obtain ⟨X, hX⟩ : ∃ X, X = gn xs e := ⟨_, rfl⟩
                      rw [← hX] at hc hin hfw
                      obtain ⟨p1, p2, e1, y1, y2, y3, hslt⟩ := HOE.out.form
                      simp only [Value.slice.injEq] at e1
                      obtain ⟨rfl, y4, rfl⟩ := e1
                      have HJ := joinW X q i cq ts w.heap.size we hin hfw HIT.out hslt (fun t ht => (HOS0.out t ht).2) (by have := HI4.out; omega) (by rw [size_one ts fun t ht => (HOS0.out t ht).1, ← HIT.out]; have := HI4.out; omega) HBE.out.size
                      rw [size_one ts fun t ht => (HOS0.out t ht).1, ← HIT.out] at HJ
                      obtain ⟨s1, hs1⟩ : ∃ s, s = X.nd.set.length := ⟨_, rfl⟩
                      obtain ⟨s2, hs2⟩ : ∃ s, s = X.nd.kids.length := ⟨_, rfl⟩
                      rw [show (encN X).toArray = #[.int .u8 X.nd.kind, .slice X.ps X.nd.set.length X.cs, .slice X.pk X.nd.kids.length X.ck, .int .i64 X.nd.group, .int .i64 X.nd.mn, .int .i64 X.nd.mx, .int .u8 X.nd.mode, .int .u8 X.nd.spot, .bool X.nd.neg] from rfl, ← hs1, ← hs2] at HJ
                      obtain ⟨c0, c1, c2, c3, c4, c5, c6, c7, c8⟩ := hc
                      rw [← hs1] at c1
                      rw [← hs2] at c2
                      rw [Nat.zero_add] at c0 c1 c2 c3 c4 c5 c6 c7 c8
                      have HJJ := Lib.hid HJ
                      clear HJ y1 y2 y3 y4 hslt hX hin hfw hs1 hs2 hex he hel
                      go_wp2_with fail
                      refine HJJ.out.mono ?_
                      rintro e9 wf ⟨qf, mf, cf, ysf, rfl, htf, rfl, hbf⟩
                      clear c0 c1 c2 c3 c4 c5 c6 c7 c8
                      have HTF := Lib.hid htf
                      have HSF := Lib.hid (HSN.out.below hbf)
                      have HOF := Lib.hid (HOE.out.below hbf)
                      have HXF := Lib.hid (HXE.out.below hbf)
                      have HTE2 := Lib.hid (HTE.out.below hbf)
                      have HBF := Lib.hid (bl_trans HBE.out hbf)
                      obtain ⟨f1, hf1⟩ : ∃ W, W = wf.alloc (.cells #[.slice qf (i + 1) cf, .slice none 0 0] 34) := ⟨_, rfl⟩
                      obtain ⟨b12, hb12⟩ : ∃ b, b = wf.heap.size := ⟨_, rfl⟩
                      have hbl : Below wf.heap.size wf f1 := by rw [hf1]; exact bl_alloc _ _
                      have hx12 : Bx f1 b12 34 #[.slice qf (i + 1) cf, .slice none 0 0] := by rw [hf1, hb12]; exact Bx.new _ _ _
                      obtain ⟨g, hg⟩ : ∃ b, b = b12 + 1 := ⟨_, rfl⟩
                      have hsz1 : f1.heap.size = g := by rw [hf1, hg, hb12]; simp
                      obtain ⟨v0, hv0⟩ : ∃ W, W = f1.setCell ⟨b12, 1, none⟩ (.slice (some ⟨g, 0, none⟩) z3m 2) := ⟨_, rfl⟩
                      have hx0 : Bx v0 b12 34 #[.slice qf (i + 1) cf, .slice (some ⟨g, 0, none⟩) z3m 2] := by rw [hv0]; exact hx12.set 1 _
                      obtain ⟨v1, hv1⟩ : ∃ W, W = (wf.alloc (.cells #[.slice qf (i + 1) cf, .slice (some ⟨g, 0, none⟩) z3m 2] 34)).alloc (.cells #[.string ⟨#[]⟩, .string ⟨#[120]⟩] 9) := ⟨_, rfl⟩
                      obtain ⟨v2, hv2⟩ : ∃ W, W = wf.alloc (.cells #[.slice qf (i + 1) cf, .slice (some ⟨g, 0, none⟩) z3m 2] 34) := ⟨_, rfl⟩
                      have hb2 : Below wf.heap.size wf v2 := by rw [hv2]; exact bl_alloc _ _
                      have hs2 : v2.heap.size = g := by rw [hv2, hg, hb12]; simp
                      have hb3 : Below v2.heap.size v2 v1 := by rw [hv1, ← hv2]; exact bl_alloc _ _
                      have hxg : Bx v1 g 9 #[.string ⟨#[]⟩, .string ⟨#[120]⟩] := by rw [hv1, ← hv2, ← hs2]; exact Bx.new _ _ _
                      have hxb : Bx v1 b12 34 #[.slice qf (i + 1) cf, .slice (some ⟨g, 0, none⟩) z3m 2] := Bx.below (by rw [hv2, hb12]; exact Bx.new _ _ _) hb3
                      have hb4 := bl_trans hb2 hb3
                      have hsx : SlX v1 (some ⟨g, 0, none⟩) (([⟨#[]⟩, ⟨#[120]⟩] : List ByteArray).take z3m) := slX_box (l := [⟨#[]⟩, ⟨#[120]⟩]) hxg z3m
                      have HTL := Lib.hid ((HTF.out.below hb4).ts.tells (some ⟨g, 0, none⟩) z3m 2 _ (by rw [List.length_take]; show z3m = min z3m 2; omega) (by omega) hsx)
                      have HXB := Lib.hid hxb
                      have HS4 := Lib.hid (HSF.out.below hb4)
                      have HO4 := Lib.hid (HOF.out.below hb4)
                      have HX4 := Lib.hid (HXF.out.below hb4)
                      have HT4 := Lib.hid (HTE2.out.below hb4)
                      have HB4 := Lib.hid (bl_trans HBF.out hb4)
                      have HV4 := Lib.hid (And.intro hb12.symm (And.intro hg.symm hv1.symm))
                      clear hf1 hb12 hbl hx12 hg hsz1 hv0 hx0 hv1 hv2 hb2 hs2 hb3 hxg hxb hb4 hsx htf hbf f1 v0 v2
                      go_upto_region 32 with fail
                      rw [HV4.out.1, HV4.out.2.1, HV4.out.2.2]
                      obtain ⟨r0, r1⟩ := two HXB.out
                      go_wp2_with fail
                      refine HTL.out.mono ?_
                      rintro e10 v5 ⟨rfl, hb5⟩
                      have HS5 := Lib.hid (HS4.out.below hb5)
                      have HO5 := Lib.hid (HO4.out.below hb5)
                      have HX5 := Lib.hid (HX4.out.below hb5)
                      have HT5 := Lib.hid (HT4.out.below hb5)
                      have HB5 := Lib.hid (bl_trans HB4.out hb5)
                      clear hb5 r0 r1
                      go_wp2
                      go_roundw
                      case rel => exact ⟨e + 1, by have := HEL.out; omega, by go_num, HS5.out, HO5.out, HX5.out, HT5.out, HB5.out⟩
                      case measure => have := HEL.out; simp [intOf]; omega
                    · have hge : (3 : Int) ≤ ((e : Nat) : Int) := by omega
                      clear hel he hz3m hz3I
                      go_wp2
                      go_roundw
                      case rel => exact ⟨p + 1, by have := HPL.out; omega, by go_num, HOE.out, HXE.out, HTE.out, HBE.out⟩
                      case measure => have := HPL.out; simp [intOf]; omega
                · have hge : (64 : Int) ≤ ((p : Nat) : Int) := by omega
                  clear hpl hp
                  go_wp2
                  go_roundw
                  case rel => exact ⟨kn + 1, by have := HKN.out; omega, by go_num, HXP.out, HTP.out, HBP.out⟩
                  case measure => have := HKN.out; simp [intOf]; omega
        · have hge : (4 : Int) ≤ ((kn : Nat) : Int) := by omega
          clear hnl hkn
          go_wp2
          go_roundw
          case rel => exact ⟨kd + 1, by have := HKD.out; omega, by go_num, HXB.out, HTB.out, HBB.out⟩
          case measure => have := HKD.out; simp [intOf]; omega
    · have hge : (15 : Int) ≤ ((kd : Nat) : Int) := by omega
      have HOR := Lib.hid (orders_any wa)
      have HBZ := HBA
      clear hkl hkd HXA HTA HBA
      go_wp2_with fail
      refine HOR.out.mono ?_
      rintro e v1 ⟨rfl, hb1⟩
      have HEN := Lib.hid (ends_any v1)
      have HB1 := Lib.hid (bl_trans HBZ.out hb1)
      clear hb1
      go_wp2_with fail
      refine HEN.out.mono ?_
      rintro e v2 ⟨rfl, hb2⟩
      have HAW := Lib.hid (awake_any v2)
      have HB2 := Lib.hid (bl_trans HB1.out hb2)
      clear hb2
      go_wp2_with fail
      refine HAW.out.mono ?_
      rintro e v3 ⟨rfl, hb3⟩
      have HB3 := Lib.hid (bl_trans HB2.out hb3)
      clear hb3 hge
      go_wp2
      go_ret
      exact ⟨rfl, HB3.out⟩
end Go.Proofs.YtjpccmiaimkmbaaGreat


namespace Go.Proofs.YtjpccmiaimkmbaaGreat
open Go.ChangeShapes Go.WideShapes Go.ChangeAt Go.RowKit Go.Deep Tnr Tnt

theorem own : ownKnob Tryz.prog.godebug = none := by kernel_rfl
set_option maxRecDepth 100000 in
theorem kinds_lifted (os : Os) (started : os.Started) (H : Type) (enc : TypeId × Value → H) :
    ReturnsInHanded {} Tryz.checked os 4 .any (Rows.treeKindsSpec.pre6 enc Tryz.prog Tryz.f4 Rows.treeKindsRow.domain false) (Rows.treeKindsSpec.post enc Tryz.prog Tryz.f4 false true false false) := by
  refine returnsInHanded_of_change_sized (C := Tryz.checked) own started (by kernel_rfl) Tryz.func4
    (ChangeSpec.witness6 (enc := enc) (C := Tryz.checked) false ⟨#[], #[], []⟩ 8 (by kernel_rfl) (by kernel_rfl) (by kernel_rfl) (by kernel_rfl)) ?_
  intro W base args ds gs before hval0 hW hcnd hsz _
  have hval : ∀ (j : Nat) t v, Tryz.f4.params[j]? = some t → args[j]? = some v → Value.okWide Tryz.prog W .any base t v := hval0
  have hW' := hW
  obtain ⟨p, q, hA0, hV, rfl, hfz, hnd⟩ := hW
  have hA : DataW.TrodAll enc Tryz.prog W 0 (fun _ => true) true Tryz.f4.params.toList args.toList ds p := hA0
  rw [Tryz.params4] at hA hval
  obtain ⟨rfl, rfl, rfl⟩ := trodAll_none hA
  obtain ⟨rfl, rfl⟩ := trodVars_none hV
  have key := treeKinds_any W
  clear hA0 hval0
  simp only [List.append_nil] at hW'
  refine key.mono fun e W' ⟨he, bel⟩ => ?_
  subst he
  refine ⟨_, rfl, _, _, _, [], [], [], hW', ?_, ?_, rfl, bel.frame _, fun h => by cases h⟩
  · exact trodAll_mk1 (shut_bool Tryz.underlying4 _)
  · exact trodAll_mk0

theorem treeKinds_holds : Rows.TreeKindsSaid :=
  OpenClaim.holds_of_wide 4 Tryz.f4 rfl rfl rfl rfl rfl rfl rfl ⟨rfl, rfl, rfl, rfl, rfl⟩ rfl rfl rfl rfl rfl (by kernel_rfl) Tryz.func4 (by kernel_rfl)
    (of_decide_eq_true (by kernel_rfl)) (by unfold Func.isWrapper; first | (rw [if_pos (by decide +kernel)]; kernel_rfl) | (rw [if_neg (by decide +kernel)]; exact ⟨rfl, rfl⟩))
    (fun os started H enc _ => kinds_lifted os started H enc)
end Go.Proofs.YtjpccmiaimkmbaaGreat

