/- TreeKinds: ends, walked. -/
import Derived.Test.YtjpccmiaimkmbaaGreatKu
import Derived.Test.YtjpccmiaimkmbaaGreatKw
import Derived.Test.YtjpccmiaimkmbaaGreatKy
import Derived.Test.YtjpccmiaimkmbaaGreatFl
import Derived.Test.YtjpccmiaimkmbaaGreatLj
import Derived.Laws.MakeOwn

namespace Go.Proofs.YtjpccmiaimkmbaaGreat
open Go.RowKit Tnr Tnt

def NML : List ByteArray := [⟨#[]⟩, ⟨#[97]⟩, ⟨#[97, 49]⟩, ⟨#[49, 97]⟩, ⟨#[36, 95]⟩, ⟨#[97, 45, 98]⟩, ⟨#[97, 32, 98]⟩, ⟨#[195, 169]⟩, ⟨#[97, 97, 97, 97, 97, 97, 97, 97, 97, 97, 97, 97, 97, 97, 97, 97, 97, 97, 97, 97, 97, 97, 97, 97, 97, 97, 97, 97, 97, 97, 97, 97, 97, 97, 97, 97, 97, 97, 97, 97]⟩, ⟨#[97, 97, 97, 97, 97, 97, 97, 97, 97, 97, 97, 97, 97, 97, 97, 97, 97, 97, 97, 97, 97, 97, 97, 97, 97, 97, 97, 97, 97, 97, 97, 97, 97, 97, 97, 97, 97, 97, 97, 97, 97]⟩, ⟨#[90, 57]⟩]
theorem nml_box {w : World} {b : Nat} {T : TypeId} (h : Bx w b T #[.string ⟨#[]⟩, .string ⟨#[97]⟩, .string ⟨#[97, 49]⟩, .string ⟨#[49, 97]⟩, .string ⟨#[36, 95]⟩, .string ⟨#[97, 45, 98]⟩, .string ⟨#[97, 32, 98]⟩, .string ⟨#[195, 169]⟩, .string ⟨#[97, 97, 97, 97, 97, 97, 97, 97, 97, 97, 97, 97, 97, 97, 97, 97, 97, 97, 97, 97, 97, 97, 97, 97, 97, 97, 97, 97, 97, 97, 97, 97, 97, 97, 97, 97, 97, 97, 97, 97]⟩, .string ⟨#[97, 97, 97, 97, 97, 97, 97, 97, 97, 97, 97, 97, 97, 97, 97, 97, 97, 97, 97, 97, 97, 97, 97, 97, 97, 97, 97, 97, 97, 97, 97, 97, 97, 97, 97, 97, 97, 97, 97, 97, 97]⟩, .string ⟨#[90, 57]⟩]) {i : Nat} (hi : i < 11) : w.cell? ⟨b, i, none⟩ = some (.string (gb NML i)) := by
  refine h.cell ?_
  rw [gb_get (show i < NML.length from hi)]
  rw [show (#[.string ⟨#[]⟩, .string ⟨#[97]⟩, .string ⟨#[97, 49]⟩, .string ⟨#[49, 97]⟩, .string ⟨#[36, 95]⟩, .string ⟨#[97, 45, 98]⟩, .string ⟨#[97, 32, 98]⟩, .string ⟨#[195, 169]⟩, .string ⟨#[97, 97, 97, 97, 97, 97, 97, 97, 97, 97, 97, 97, 97, 97, 97, 97, 97, 97, 97, 97, 97, 97, 97, 97, 97, 97, 97, 97, 97, 97, 97, 97, 97, 97, 97, 97, 97, 97, 97, 97]⟩, .string ⟨#[97, 97, 97, 97, 97, 97, 97, 97, 97, 97, 97, 97, 97, 97, 97, 97, 97, 97, 97, 97, 97, 97, 97, 97, 97, 97, 97, 97, 97, 97, 97, 97, 97, 97, 97, 97, 97, 97, 97, 97, 97]⟩, .string ⟨#[90, 57]⟩] : Array Value) = (NML.map Value.string).toArray from rfl]
  simp
theorem TW.block {w : World} {B : Nat} {q : Option Addr} {m cq : Nat} {ys : List NV} (h : TW w B q m cq ys) (hm : 0 < m) : ∃ g cs, q = some ⟨g, 0, none⟩ ∧ B ≤ g ∧ w.heap[g]? = some (.cells cs 28 (0, 0)) := by
  have hr := h.own.row
  rw [← h.len] at hr
  rcases hr.2 with ⟨_, h0⟩ | ⟨g, cap, cur, e, hb, hg, _⟩
  · omega
  · simp only [Value.slice.injEq] at e
    exact ⟨g, cur, e.1, hb, hg⟩
theorem TW.cell3 {w : World} {B g m cq : Nat} {ys : List NV} (h : TW w B (some ⟨g, 0, none⟩) m cq ys) {i : Nat} (hi : i < m) : ∃ z, w.cell? ⟨g, i * 9 + 3, none⟩ = some (.int .i64 z) := by
  obtain ⟨b, off, e, hc, _⟩ := h.ts.sl.at (show i < ys.length by rw [← h.len]; exact hi)
  simp only [Option.some.injEq, Addr.mk.injEq, and_true] at e
  obtain ⟨rfl, rfl⟩ := e
  have := hc.2.2.2.1
  rw [Nat.zero_add] at this
  exact ⟨_, this⟩
theorem join_atom (b c : Nat) (q : Option Addr) (m cq : Nat) (ys : List NV) (B : Nat) (w : World) {T : TypeId} (h : TW w B q m cq ys) (hb : Bx w b T #[.slice q m cq, .slice none 0 0]) (hl : m ≤ 4000) (hB : B ≤ w.heap.size) :
    Calls Tryz.prog 10 #[.agg #[.int .u8 6, .slice none 0 0, .slice none 0 0, .int .i64 0, .int .i64 0, .int .i64 0, .int .u8 0, .int .u8 0, .bool false], .slice (some ⟨b, 0, none⟩) 1 c] w (WPost (m + 1) B w) :=
  joinW1 ⟨⟨6, [], [], 0, 0, 0, 0, 0, false⟩, none, 0, none, 0⟩ b c q m cq ys B w ⟨.inl rfl, .inl rfl, fun _ => rfl, fun _ => rfl, Nat.le_refl _, Nat.le_refl _⟩ (by unfold FwN; simp) h hb hl hB
theorem join_alt (p : Option Addr) (m c : Nat) (ts : List TV) (B : Nat) (w : World) (hm : m = ts.length) (hp : SlT w p ts) (ht : ∀ t ∈ ts, ∀ y ∈ t.ys, FwN y.nd) (hmm : m ≤ 5000) (hsz : sizeT ts + 1 ≤ 5000) (hB : B ≤ w.heap.size) :
    Calls Tryz.prog 10 #[.agg #[.int .u8 4, .slice none 0 0, .slice none 0 0, .int .i64 0, .int .i64 0, .int .i64 0, .int .u8 0, .int .u8 0, .bool false], .slice p m c] w (WPost (sizeT ts + 1) B w) :=
  joinW ⟨⟨4, [], [], 0, 0, 0, 0, 0, false⟩, none, 0, none, 0⟩ p m c ts B w ⟨.inl rfl, .inl rfl, fun _ => rfl, fun _ => rfl, Nat.le_refl _, Nat.le_refl _⟩ (by unfold FwN; simp) hm hp ht hmm hsz hB
theorem size_two : ∀ (ts : List TV), (∀ t ∈ ts, t.ys.length = 2) → sizeT ts = 2 * ts.length
  | [], _ => rfl
  | t :: ts, h => by
    rw [sizeT_cons, size_two ts fun x hx => h x (List.mem_cons_of_mem _ hx), h t List.mem_cons_self, List.length_cons]; omega
theorem info_textz7 : (Tryz.prog.info? 9).map (fun i => (i.zero, i.size, i.bytes)) = some (some (.string ⟨#[]⟩), 1, 16) := by kernel_rfl
theorem slX_made (w : World) (n : Nat) (T : TypeId) : SlX (w.alloc (.cells (madeCells #[.string ⟨#[]⟩] n) T)) (some ⟨w.heap.size, 0, none⟩) (List.replicate n ⟨#[]⟩) := by
  right
  refine ⟨w.heap.size, 0, rfl, fun i hi => ?_⟩
  rw [List.length_replicate] at hi
  rw [Nat.zero_add, World.cell?_alloc_at _ _ _ _ rfl, gb_get (by rw [List.length_replicate]; exact hi), List.getElem_replicate]
  simp [madeCells, hi, Nat.mod_one]
def TwoT (ts : List TV) : Prop := ∀ t ∈ ts, t.ys.length = 2 ∧ ∀ y ∈ t.ys, FwN y.nd
set_option maxHeartbeats 12800000 in
set_option maxRecDepth 100000 in
theorem ends_any (w : World) : Calls Tryz.prog 23 #[] w fun e w' => e = .returned (.bool true) ∧ Below w.heap.size w w' := by
  obtain ⟨i0, hinf, hz0, hz1, hz2⟩ := info_parts info_node
  obtain ⟨j0, jinf, jz0, jz1, jz2⟩ := info_parts info_intz
  obtain ⟨k0, kinf, kz0, kz1, kz2⟩ := info_parts info_tree
  obtain ⟨g0, hg0⟩ : ∃ b, b = w.heap.size := ⟨_, rfl⟩
  obtain ⟨W1, hW1⟩ : ∃ W, W = w.alloc (.cells #[.string ⟨#[]⟩, .string ⟨#[97]⟩, .string ⟨#[97, 49]⟩, .string ⟨#[49, 97]⟩, .string ⟨#[36, 95]⟩, .string ⟨#[97, 45, 98]⟩, .string ⟨#[97, 32, 98]⟩, .string ⟨#[195, 169]⟩, .string ⟨#[97, 97, 97, 97, 97, 97, 97, 97, 97, 97, 97, 97, 97, 97, 97, 97, 97, 97, 97, 97, 97, 97, 97, 97, 97, 97, 97, 97, 97, 97, 97, 97, 97, 97, 97, 97, 97, 97, 97, 97]⟩, .string ⟨#[97, 97, 97, 97, 97, 97, 97, 97, 97, 97, 97, 97, 97, 97, 97, 97, 97, 97, 97, 97, 97, 97, 97, 97, 97, 97, 97, 97, 97, 97, 97, 97, 97, 97, 97, 97, 97, 97, 97, 97, 97]⟩, .string ⟨#[90, 57]⟩] 9) := ⟨_, rfl⟩
  have hb1 : Below w.heap.size w W1 := by rw [hW1]; exact bl_alloc _ _
  have hx1 : Bx W1 g0 9 #[.string ⟨#[]⟩, .string ⟨#[97]⟩, .string ⟨#[97, 49]⟩, .string ⟨#[49, 97]⟩, .string ⟨#[36, 95]⟩, .string ⟨#[97, 45, 98]⟩, .string ⟨#[97, 32, 98]⟩, .string ⟨#[195, 169]⟩, .string ⟨#[97, 97, 97, 97, 97, 97, 97, 97, 97, 97, 97, 97, 97, 97, 97, 97, 97, 97, 97, 97, 97, 97, 97, 97, 97, 97, 97, 97, 97, 97, 97, 97, 97, 97, 97, 97, 97, 97, 97, 97]⟩, .string ⟨#[97, 97, 97, 97, 97, 97, 97, 97, 97, 97, 97, 97, 97, 97, 97, 97, 97, 97, 97, 97, 97, 97, 97, 97, 97, 97, 97, 97, 97, 97, 97, 97, 97, 97, 97, 97, 97, 97, 97, 97, 97]⟩, .string ⟨#[90, 57]⟩] := by rw [hW1, hg0]; exact Bx.new _ _ _
  have HW1 := Lib.hid (And.intro hW1.symm hg0.symm)
  have HB1 := Lib.hid hb1
  have HX1 := Lib.hid hx1
  clear hg0 hW1 hb1 hx1
  go_enter Tryz.func23, Tryz.ntmps23
  go_upto_region 2 with fail
  rw [HW1.out.2, HW1.out.1]
  go_wp2
  go_loopw [2] (fun iv wr => ∃ (i : Nat), i ≤ 11 ∧ iv = .int .i64 (i : Nat) ∧ Hid (Bx wr g0 9 #[.string ⟨#[]⟩, .string ⟨#[97]⟩, .string ⟨#[97, 49]⟩, .string ⟨#[49, 97]⟩, .string ⟨#[36, 95]⟩, .string ⟨#[97, 45, 98]⟩, .string ⟨#[97, 32, 98]⟩, .string ⟨#[195, 169]⟩, .string ⟨#[97, 97, 97, 97, 97, 97, 97, 97, 97, 97, 97, 97, 97, 97, 97, 97, 97, 97, 97, 97, 97, 97, 97, 97, 97, 97, 97, 97, 97, 97, 97, 97, 97, 97, 97, 97, 97, 97, 97, 97]⟩, .string ⟨#[97, 97, 97, 97, 97, 97, 97, 97, 97, 97, 97, 97, 97, 97, 97, 97, 97, 97, 97, 97, 97, 97, 97, 97, 97, 97, 97, 97, 97, 97, 97, 97, 97, 97, 97, 97, 97, 97, 97, 97, 97]⟩, .string ⟨#[90, 57]⟩]) ∧ Hid (Below w.heap.size w wr)) (fun iv _ => 11 - (intOf iv).toNat)
  case atStart => exact ⟨0, by omega, rfl, HX1.out, HB1.out⟩
  case round =>
    obtain ⟨i, hi, rfl, HXO, HBO⟩ := hrel
    rename World => wo
    by_cases hil : i < 11
    · have hI : ((i : Nat) : Int) < 11 := by omega
      have HIL := Lib.hid hil
      clear hi hil
      go_wp2
      go_loopw [3] (fun kv wr => ∃ (k : Nat), k ≤ 11 ∧ kv = .int .i64 (k : Nat) ∧ Hid (Bx wr g0 9 #[.string ⟨#[]⟩, .string ⟨#[97]⟩, .string ⟨#[97, 49]⟩, .string ⟨#[49, 97]⟩, .string ⟨#[36, 95]⟩, .string ⟨#[97, 45, 98]⟩, .string ⟨#[97, 32, 98]⟩, .string ⟨#[195, 169]⟩, .string ⟨#[97, 97, 97, 97, 97, 97, 97, 97, 97, 97, 97, 97, 97, 97, 97, 97, 97, 97, 97, 97, 97, 97, 97, 97, 97, 97, 97, 97, 97, 97, 97, 97, 97, 97, 97, 97, 97, 97, 97, 97]⟩, .string ⟨#[97, 97, 97, 97, 97, 97, 97, 97, 97, 97, 97, 97, 97, 97, 97, 97, 97, 97, 97, 97, 97, 97, 97, 97, 97, 97, 97, 97, 97, 97, 97, 97, 97, 97, 97, 97, 97, 97, 97, 97, 97]⟩, .string ⟨#[90, 57]⟩]) ∧ Hid (Below w.heap.size w wr)) (fun kv _ => 11 - (intOf kv).toNat)
      case atStart => exact ⟨0, by omega, rfl, HXO.out, HBO.out⟩
      case round =>
        obtain ⟨k, hk, rfl, HXQ, HB⟩ := hrel
        rename World => wq
        by_cases hkl : k < 11
        · have hK : ((k : Nat) : Int) < 11 := by omega
          have HIK := Lib.hid (And.intro HIL.out hkl)
          clear hk hkl
          go_wp2_with fail
          refine (hgrp_all _ _).mono ?_
          rintro e u1 ⟨x1, rfl, hx1, hf1, hb1⟩
          have HBu1 := Lib.hid (bl_trans HB.out hb1)
          have HXQ_u1 := Lib.hid (HXQ.out.below hb1)
          have HN1 := Lib.hid hx1
          have HF1 := Lib.hid hf1
          clear hx1 hf1 hb1
          go_wp2_with fail
          refine (hset_all _ _).mono ?_
          rintro e u2 ⟨x2, rfl, hx2, hf2, hb2⟩
          have HBu2 := Lib.hid (bl_trans HBu1.out hb2)
          have HXQ_u2 := Lib.hid (HXQ_u1.out.below hb2)
          have HN1_u2 := Lib.hid (HN1.out.below hb2)
          have HJ2 := Lib.hid (joinW0 x2 w.heap.size u2 hx2 hf2 HBu2.out.size)
          clear hx2 hf2 hb2
          go_wp2_with fail
          refine HJ2.out.mono ?_
          rintro e u3 ⟨q3, m3, c3, ys3, rfl, ht3, rfl, hb3⟩
          have HBu3 := Lib.hid (bl_trans HBu2.out hb3)
          have HXQ_u3 := Lib.hid (HXQ_u2.out.below hb3)
          have HN1_u3 := Lib.hid (HN1_u2.out.below hb3)
          have HT3 := Lib.hid ht3
          clear ht3 hb3
          obtain ⟨u4, hu4⟩ : ∃ W, W = u3.alloc (.cells #[.slice q3 1 c3, .slice none 0 0] 34) := ⟨_, rfl⟩
          obtain ⟨b3, hb3⟩ : ∃ b, b = u3.heap.size := ⟨_, rfl⟩
          have hbau4 : Below u3.heap.size u3 u4 := by rw [hu4]; exact bl_alloc _ _
          have hbxu4 : Bx u4 b3 34 #[.slice q3 1 c3, .slice none 0 0] := by rw [hu4, hb3]; exact Bx.new u3 _ _
          have HWu4 := Lib.hid (And.intro hu4.symm hb3.symm)
          have HBu4 := Lib.hid (bl_trans HBu3.out hbau4)
          have HXQ_u4 := Lib.hid (HXQ_u3.out.below hbau4)
          have HN1_u4 := Lib.hid (HN1_u3.out.below hbau4)
          have HT3_u4 := Lib.hid (HT3.out.below hbau4)
          have HX3 := Lib.hid hbxu4
          clear hu4 hb3 hbau4 hbxu4
          have HJ4 := Lib.hid (joinW1 x1 b3 1 q3 1 c3 ys3 w.heap.size u4 HN1_u4.out HF1.out HT3_u4.out HX3.out (by omega) HBu4.out.size)
          go_wp2_with fail
          rw [HWu4.out.2, HWu4.out.1]
          refine HJ4.out.mono ?_
          rintro e u5 ⟨q5, m5, c5, ys5, rfl, ht5, rfl, hb5⟩
          have HBu5 := Lib.hid (bl_trans HBu4.out hb5)
          have HXQ_u5 := Lib.hid (HXQ_u4.out.below hb5)
          have HT5 := Lib.hid ht5
          clear ht5 hb5
          obtain ⟨u6, hu6⟩ : ∃ W, W = u5.alloc (.cells #[.slice q5 2 c5, .slice none 0 0] 34) := ⟨_, rfl⟩
          obtain ⟨b4, hb4⟩ : ∃ b, b = u5.heap.size := ⟨_, rfl⟩
          have hbau6 : Below u5.heap.size u5 u6 := by rw [hu6]; exact bl_alloc _ _
          have hbxu6 : Bx u6 b4 34 #[.slice q5 2 c5, .slice none 0 0] := by rw [hu6, hb4]; exact Bx.new u5 _ _
          have HWu6 := Lib.hid (And.intro hu6.symm hb4.symm)
          have HBu6 := Lib.hid (bl_trans HBu5.out hbau6)
          have HXQ_u6 := Lib.hid (HXQ_u5.out.below hbau6)
          have HT5_u6 := Lib.hid (HT5.out.below hbau6)
          have HX4 := Lib.hid hbxu6
          clear hu6 hb4 hbau6 hbxu6
          go_upto_region 9 with fail
          rw [HWu6.out.2, HWu6.out.1]
          have hTd := HT5_u6.out.below (bl_drew u6)
          have hXd := HX4.out.below (bl_drew u6)
          refine end9_all b4 w.heap.size q5 2 c5 u6.drew.heap.size (by rfl) (by rfl) (two hXd).1 (two hXd).2 hgrp_all (joinB hTd (by omega) (bl_trans HBu6.out (bl_drew u6)).size) rfl ?_ _
          intro f b5 qu7 mu7 cu7 y u7 hv hk hzb hbl hbl2 hy2 hbx hbx2
          obtain ⟨rfl, ysu7, htw⟩ := treeW_of (hk 3 (by decide) (by decide)) hv
          have htw2 : TW u7 w.heap.size qu7 3 cu7 ysu7 := by rw [hy2]; exact htw.off2 hbx _ _
          have hbn := bl_trans (bl_drew u6) hbl2
          have hz5 : w.heap.size ≤ b5 := Nat.le_trans (bl_trans HBu6.out (bl_drew u6)).size hzb
          have HZ5 := Lib.hid hz5
          have HBu7 := Lib.hid (bl_trans HBu6.out hbn)
          have HXQ_u7 := Lib.hid (HXQ_u6.out.below hbn)
          have HT7 := Lib.hid htw2
          have HX7 := Lib.hid hbx2
          clear hv hk hzb hbl hbl2 hy2 hbx hbx2 htw htw2 hbn hTd hXd hz5
          generalize f 0 = f0, f 1 = f1, f 2 = f2
          simp only [putL, List.foldl, Act.put, sb0, sb1, sb2]
          clear f
          obtain ⟨gq, cs7, rfl, hgB, hgb⟩ := HT7.out.block (by omega)
          obtain ⟨z1, hc1⟩ := HT7.out.cell3 (show 1 < 3 by omega)
          have hne5 : b5 ≠ gq := bx_apart HX7.out hgb (by decide)
          have hneq : g0 ≠ gq := bx_apart HXQ_u7.out hgb (by decide)
          have hgq : gq < u7.heap.size := lt_of_block hgb
          have fr1 : u7.frozen? ⟨gq, 1 * 9 + 3, none⟩ = false := by simp [World.frozen?, hgb]
          obtain ⟨u8, hu8⟩ : ∃ W, W = u7.setCell ⟨gq, 1 * 9 + 3, none⟩ (.int .i64 2) := ⟨_, rfl⟩
          have ht8 : TW u8 w.heap.size (some ⟨gq, 0, none⟩) 3 cu7 (regroup ysu7 1 2) := by rw [hu8]; exact HT7.out.regroup 1 (by omega) 2
          have hx8 : Bx u8 b5 34 #[.slice (some ⟨gq, 0, none⟩) 3 cu7, .slice none 0 0] := by rw [hu8]; exact HX7.out.other (a := ⟨gq, 1 * 9 + 3, none⟩) hne5 _
          have hq8 : Bx u8 g0 9 #[.string ⟨#[]⟩, .string ⟨#[97]⟩, .string ⟨#[97, 49]⟩, .string ⟨#[49, 97]⟩, .string ⟨#[36, 95]⟩, .string ⟨#[97, 45, 98]⟩, .string ⟨#[97, 32, 98]⟩, .string ⟨#[195, 169]⟩, .string ⟨#[97, 97, 97, 97, 97, 97, 97, 97, 97, 97, 97, 97, 97, 97, 97, 97, 97, 97, 97, 97, 97, 97, 97, 97, 97, 97, 97, 97, 97, 97, 97, 97, 97, 97, 97, 97, 97, 97, 97, 97]⟩, .string ⟨#[97, 97, 97, 97, 97, 97, 97, 97, 97, 97, 97, 97, 97, 97, 97, 97, 97, 97, 97, 97, 97, 97, 97, 97, 97, 97, 97, 97, 97, 97, 97, 97, 97, 97, 97, 97, 97, 97, 97, 97, 97]⟩, .string ⟨#[90, 57]⟩] := by rw [hu8]; exact HXQ_u7.out.other (a := ⟨gq, 1 * 9 + 3, none⟩) hneq _
          have hb8 : Below w.heap.size w u8 := by rw [hu8]; exact HBu7.out.setCell (p := ⟨gq, 1 * 9 + 3, none⟩) hgB _
          obtain ⟨r0, r1⟩ := two HX7.out
          have HU8 := Lib.hid hu8.symm
          have HQ8 := Lib.hid hq8
          have HX8 := Lib.hid hx8
          have HT8 := Lib.hid ht8
          have HB8 := Lib.hid hb8
          have HNE := Lib.hid (And.intro hne5 (And.intro hneq hgB))
          clear ht8 hx8 hq8 hb8 hne5 hneq hgB hu8
          go_upto_region 11 with fail
          rw [HU8.out]
          clear hc1 fr1 hgb hgq r0 r1
          obtain ⟨_, cs8, hge, _, hgb⟩ := HT8.out.block (by omega)
          simp only [Option.some.injEq, Addr.mk.injEq, and_true] at hge
          subst hge
          obtain ⟨z2, hc2⟩ := HT8.out.cell3 (show 2 < 3 by omega)
          have hgq : gq < u8.heap.size := lt_of_block hgb
          have fr2 : u8.frozen? ⟨gq, 2 * 9 + 3, none⟩ = false := by simp [World.frozen?, hgb]
          obtain ⟨u9, hu9⟩ : ∃ W, W = u8.setCell ⟨gq, 2 * 9 + 3, none⟩ (.int .i64 1) := ⟨_, rfl⟩
          obtain ⟨ys9, hys9⟩ : ∃ y, y = regroup (regroup ysu7 1 2) 2 1 := ⟨_, rfl⟩
          have ht9 : TW u9 w.heap.size (some ⟨gq, 0, none⟩) 3 cu7 ys9 := by rw [hu9, hys9]; exact HT8.out.regroup 2 (by omega) 1
          have hx9 : Bx u9 b5 34 #[.slice (some ⟨gq, 0, none⟩) 3 cu7, .slice none 0 0] := by rw [hu9]; exact HX8.out.other (a := ⟨gq, 2 * 9 + 3, none⟩) HNE.out.1 _
          have hq9 : Bx u9 g0 9 #[.string ⟨#[]⟩, .string ⟨#[97]⟩, .string ⟨#[97, 49]⟩, .string ⟨#[49, 97]⟩, .string ⟨#[36, 95]⟩, .string ⟨#[97, 45, 98]⟩, .string ⟨#[97, 32, 98]⟩, .string ⟨#[195, 169]⟩, .string ⟨#[97, 97, 97, 97, 97, 97, 97, 97, 97, 97, 97, 97, 97, 97, 97, 97, 97, 97, 97, 97, 97, 97, 97, 97, 97, 97, 97, 97, 97, 97, 97, 97, 97, 97, 97, 97, 97, 97, 97, 97]⟩, .string ⟨#[97, 97, 97, 97, 97, 97, 97, 97, 97, 97, 97, 97, 97, 97, 97, 97, 97, 97, 97, 97, 97, 97, 97, 97, 97, 97, 97, 97, 97, 97, 97, 97, 97, 97, 97, 97, 97, 97, 97, 97, 97]⟩, .string ⟨#[90, 57]⟩] := by rw [hu9]; exact HQ8.out.other (a := ⟨gq, 2 * 9 + 3, none⟩) HNE.out.2.1 _
          have hb9 : Below w.heap.size w u9 := by rw [hu9]; exact HB8.out.setCell (p := ⟨gq, 2 * 9 + 3, none⟩) HNE.out.2.2 _
          obtain ⟨r0, r1⟩ := two HX8.out
          have HU9 := Lib.hid hu9.symm
          have HQ9 := Lib.hid hq9
          have HX9 := Lib.hid hx9
          have HT9 := Lib.hid ht9.ts
          have HB9 := Lib.hid hb9
          clear ht9 hx9 hq9 hb9 hu9 hys9
          go_upto_region 12 with fail
          rw [HU9.out]
          clear hc2 fr2 hgb hgq r0 r1
          have hXd := HX9.out.below (bl_drew u9)
          have hQd := HQ9.out.below (bl_drew u9)
          refine end12_all g0 i k b5 (gb NML i) (gb NML k) (by rfl) (by rfl) (by rfl) (by rfl) (by rfl) HIK.out.1 HIK.out.2 (nml_box hQd HIK.out.1) (nml_box hQd HIK.out.2) hXd HZ5.out ?_ _
          intro f y ge hbl hge hne
          have hbl2 : Below u9.heap.size u9 y := bl_trans (bl_drew u9) hbl
          have hx10 := HX9.out.below hbl2
          have hq10 := HQ9.out.below hbl2
          obtain ⟨v0, hv0⟩ : ∃ W, W = y.setCell ⟨b5, 1, none⟩ (.slice (some ⟨ge, 0, none⟩) 2 2) := ⟨_, rfl⟩
          have hx11 : Bx v0 b5 34 #[.slice (some ⟨gq, 0, none⟩) 3 cu7, .slice (some ⟨ge, 0, none⟩) 2 2] := by rw [hv0]; exact hx10.set 1 _
          have ht11 : TS v0 (some ⟨gq, 0, none⟩) 3 cu7 ys9 := by rw [hv0]; exact (HT9.out.below hbl2).off1 hx10 1 _
          have hg11 : Bx v0 ge 9 #[.string (gb NML i), .string (gb NML k)] := by rw [hv0]; exact hge.other (a := ⟨b5, 1, none⟩) hne _
          have hq11 : Bx v0 g0 9 #[.string ⟨#[]⟩, .string ⟨#[97]⟩, .string ⟨#[97, 49]⟩, .string ⟨#[49, 97]⟩, .string ⟨#[36, 95]⟩, .string ⟨#[97, 45, 98]⟩, .string ⟨#[97, 32, 98]⟩, .string ⟨#[195, 169]⟩, .string ⟨#[97, 97, 97, 97, 97, 97, 97, 97, 97, 97, 97, 97, 97, 97, 97, 97, 97, 97, 97, 97, 97, 97, 97, 97, 97, 97, 97, 97, 97, 97, 97, 97, 97, 97, 97, 97, 97, 97, 97, 97]⟩, .string ⟨#[97, 97, 97, 97, 97, 97, 97, 97, 97, 97, 97, 97, 97, 97, 97, 97, 97, 97, 97, 97, 97, 97, 97, 97, 97, 97, 97, 97, 97, 97, 97, 97, 97, 97, 97, 97, 97, 97, 97, 97, 97]⟩, .string ⟨#[90, 57]⟩] := by rw [hv0]; exact hq10.other (a := ⟨b5, 1, none⟩) (bx_apart hq10 hx10 (by decide)) _
          have hb11 : Below w.heap.size w v0 := by rw [hv0]; exact (HB9.out.trans (hbl2.mono HB9.out.size)).setCell (p := ⟨b5, 1, none⟩) HZ5.out _
          have hs11 : SlX v0 (some ⟨ge, 0, none⟩) ([gb NML i, gb NML k].take 2) := slX_box (l := [gb NML i, gb NML k]) hg11 2
          have HTL := Lib.hid (ht11.tells (some ⟨ge, 0, none⟩) 2 2 [gb NML i, gb NML k] rfl (Nat.le_refl _) hs11)
          have HX11 := Lib.hid hx11
          have HQ11 := Lib.hid hq11
          have HB11 := Lib.hid hb11
          rw [← hv0]
          clear hbl hge hne hbl2 hx10 hq10 hv0 hx11 ht11 hg11 hq11 hb11 hs11 hXd hQd
          generalize f 0 = f0, f 1 = f1, f 2 = f2, f 3 = f3, f 4 = f4, f 5 = f5, f 6 = f6, f 7 = f7
          simp only [putL, List.foldl, Act.put, sb0, sb1, sb2]
          clear f
          obtain ⟨r0, r1⟩ := two HX11.out
          go_wp2_with fail
          refine HTL.out.mono ?_
          rintro e v1 ⟨rfl, hb12⟩
          have HQ12 := Lib.hid (HQ11.out.below hb12)
          have HB12 := Lib.hid (bl_trans HB11.out hb12)
          clear hb12 r0 r1
          go_wp2
          go_roundw
          case rel => exact ⟨k + 1, by have := HIK.out.2; omega, by go_num, HQ12.out, HB12.out⟩
          case measure => have := HIK.out.2; simp [intOf]; omega
        · obtain rfl : k = 11 := by omega
          clear hkl hk
          go_wp2
          go_roundw
          case rel => exact ⟨i + 1, by have := HIL.out; omega, by go_num, HXQ.out, HB.out⟩
          case measure => have := HIL.out; simp [intOf]; omega
    · have hge : (11 : Int) ≤ ((i : Nat) : Int) := by omega
      have HB0 := HBO
      clear hil hi HXO HBO HX1 HB1 HW1
      go_upto_region 15 with fail
      clear hge
      go_wp2_with fail
      refine (hset_all _ _).mono ?_
      rintro e d1 ⟨x1, rfl, hx1, hf1, hb1⟩
      have HBd1 := Lib.hid (bl_trans HB0.out hb1)
      have HJ1 := Lib.hid (joinW0 x1 w.heap.size d1 hx1 hf1 HBd1.out.size)
      clear hx1 hf1 hb1
      go_wp2_with fail
      refine HJ1.out.mono ?_
      rintro e d2 ⟨q2, m2, c2, ys2, rfl, ht2, rfl, hb2⟩
      have HBd2 := Lib.hid (bl_trans HBd1.out hb2)
      have HT2 := Lib.hid ht2
      clear ht2 hb2
      obtain ⟨d3, hd3⟩ : ∃ W, W = d2.alloc (.cells #[.slice q2 1 c2, .slice none 0 0] 34) := ⟨_, rfl⟩
      obtain ⟨b6, hb6⟩ : ∃ b, b = d2.heap.size := ⟨_, rfl⟩
      have hbad3 : Below d2.heap.size d2 d3 := by rw [hd3]; exact bl_alloc _ _
      have hbxd3 : Bx d3 b6 34 #[.slice q2 1 c2, .slice none 0 0] := by rw [hd3, hb6]; exact Bx.new d2 _ _
      have HWd3 := Lib.hid (And.intro hd3.symm hb6.symm)
      have HBd3 := Lib.hid (bl_trans HBd2.out hbad3)
      have HT2_d3 := Lib.hid (HT2.out.below hbad3)
      have HX3 := Lib.hid hbxd3
      clear hd3 hb6 hbad3 hbxd3
      have hb6 : w.heap.size ≤ b6 := by rw [← HWd3.out.2]; exact HBd2.out.size
      have HB6 := Lib.hid hb6
      clear hb6
      go_wp2
      rw [HWd3.out.2, HWd3.out.1]
      go_loopw [7] (fun nv wr => ∃ (n : Nat) (q : Option Addr) (cq : Nat) (ys : List NV), n ≤ 63 ∧ nv = .int .i64 (n : Nat) ∧ Hid (Bx wr b6 34 #[.slice q (n + 1) cq, .slice none 0 0]) ∧ Hid (TW wr w.heap.size q (n + 1) cq ys) ∧ Hid (Below w.heap.size w wr)) (fun nv _ => 63 - (intOf nv).toNat)
      case atStart => exact ⟨0, q2, c2, ys2, by omega, rfl, HX3.out, HT2_d3.out, HBd3.out⟩
      case round =>
        obtain ⟨n, q, cq, ys, hn, rfl, HXR, HTR, HBR⟩ := hrel
        rename World => wr
        by_cases hnl : n < 63
        · have hnI : ((n : Nat) : Int) < 63 := by omega
          have HNL := Lib.hid hnl
          obtain ⟨r0, r1⟩ := two HXR.out
          clear hn hnl
          by_cases h56 : (56 : Int) < ((n : Nat) : Int)
          · have HTL := Lib.hid (HTR.out.ts.tells none 0 0 [] rfl (Nat.le_refl _) (slX_nil _ _))
            go_wp2_with fail
            refine HTL.out.mono ?_
            rintro e wt ⟨rfl, hbt⟩
            have HXS := Lib.hid (HXR.out.below hbt)
            have HTT := Lib.hid (HTR.out.below hbt)
            have HBT := Lib.hid (bl_trans HBR.out hbt)
            clear hbt r0 r1
            obtain ⟨r0, r1⟩ := two HXS.out
            obtain ⟨bb, hbb⟩ : ∃ b, b = wt.heap.size := ⟨_, rfl⟩
            obtain ⟨e1, he1⟩ : ∃ W, W = wt.alloc (.cells #[.slice q (n + 1) cq, .slice none 0 0] 34) := ⟨_, rfl⟩
            have hbe : Below wt.heap.size wt e1 := by rw [he1]; exact bl_alloc _ _
            have hxe : Bx e1 bb 34 #[.slice q (n + 1) cq, .slice none 0 0] := by rw [he1, hbb]; exact Bx.new _ _ _
            have HJE := Lib.hid (join_atom bb 1 q (n + 1) cq ys w.heap.size e1 (HTT.out.below hbe) hxe (by omega) (bl_trans HBT.out hbe).size)
            have HXE := Lib.hid (HXS.out.below hbe)
            have HBE := Lib.hid (bl_trans HBT.out hbe)
            have HWE := Lib.hid (And.intro hbb.symm he1.symm)
            clear hbb he1 hbe hxe
            go_wp2_with fail
            rw [HWE.out.1, HWE.out.2]
            refine HJE.out.mono ?_
            rintro e e2 ⟨q5, m5, c5, ys5, rfl, ht5, rfl, hb5⟩
            clear r0 r1
            have hx5 := HXE.out.below hb5
            obtain ⟨r0, r1⟩ := two hx5
            have f0 := hx5.free 0
            have f1 := hx5.free 1
            have hlt := hx5.lt
            have HXN : Hid (Bx ((e2.setCell ⟨b6, 0, none⟩ (.slice q5 (n + 1 + 1) c5)).setCell ⟨b6, 1, none⟩ (.slice none 0 0)) b6 34 #[.slice q5 (n + 1 + 1) c5, .slice none 0 0]) := (hx5.set 0 _).set 1 _
            have HTN : Hid (TW ((e2.setCell ⟨b6, 0, none⟩ (.slice q5 (n + 1 + 1) c5)).setCell ⟨b6, 1, none⟩ (.slice none 0 0)) w.heap.size q5 (n + 1 + 1) c5 ys5) := ht5.off2 hx5 _ _
            have HBN : Hid (Below w.heap.size w ((e2.setCell ⟨b6, 0, none⟩ (.slice q5 (n + 1 + 1) c5)).setCell ⟨b6, 1, none⟩ (.slice none 0 0))) := ((bl_trans HBE.out hb5).setCell (p := ⟨b6, 0, none⟩) HB6.out _).setCell (p := ⟨b6, 1, none⟩) HB6.out _
            clear hx5 ht5 hb5
            go_wp2
            go_roundw
            case rel => exact ⟨n + 1, q5, c5, ys5, by have := HNL.out; omega, by go_num, HXN.out, HTN.out, HBN.out⟩
            case measure => have := HNL.out; simp [intOf]; omega
          · have h56' : ((n : Nat) : Int) ≤ 56 := by omega
            clear h56 r0 r1
            obtain ⟨r0, r1⟩ := two HXR.out
            obtain ⟨bb, hbb⟩ : ∃ b, b = wr.heap.size := ⟨_, rfl⟩
            obtain ⟨e1, he1⟩ : ∃ W, W = wr.alloc (.cells #[.slice q (n + 1) cq, .slice none 0 0] 34) := ⟨_, rfl⟩
            have hbe : Below wr.heap.size wr e1 := by rw [he1]; exact bl_alloc _ _
            have hxe : Bx e1 bb 34 #[.slice q (n + 1) cq, .slice none 0 0] := by rw [he1, hbb]; exact Bx.new _ _ _
            have HJE := Lib.hid (join_atom bb 1 q (n + 1) cq ys w.heap.size e1 (HTR.out.below hbe) hxe (by omega) (bl_trans HBR.out hbe).size)
            have HXE := Lib.hid (HXR.out.below hbe)
            have HBE := Lib.hid (bl_trans HBR.out hbe)
            have HWE := Lib.hid (And.intro hbb.symm he1.symm)
            clear hbb he1 hbe hxe
            go_wp2_with fail
            rw [HWE.out.1, HWE.out.2]
            refine HJE.out.mono ?_
            rintro e e2 ⟨q5, m5, c5, ys5, rfl, ht5, rfl, hb5⟩
            clear r0 r1
            have hx5 := HXE.out.below hb5
            obtain ⟨r0, r1⟩ := two hx5
            have f0 := hx5.free 0
            have f1 := hx5.free 1
            have hlt := hx5.lt
            have HXN : Hid (Bx ((e2.setCell ⟨b6, 0, none⟩ (.slice q5 (n + 1 + 1) c5)).setCell ⟨b6, 1, none⟩ (.slice none 0 0)) b6 34 #[.slice q5 (n + 1 + 1) c5, .slice none 0 0]) := (hx5.set 0 _).set 1 _
            have HTN : Hid (TW ((e2.setCell ⟨b6, 0, none⟩ (.slice q5 (n + 1 + 1) c5)).setCell ⟨b6, 1, none⟩ (.slice none 0 0)) w.heap.size q5 (n + 1 + 1) c5 ys5) := ht5.off2 hx5 _ _
            have HBN : Hid (Below w.heap.size w ((e2.setCell ⟨b6, 0, none⟩ (.slice q5 (n + 1 + 1) c5)).setCell ⟨b6, 1, none⟩ (.slice none 0 0))) := ((bl_trans HBE.out hb5).setCell (p := ⟨b6, 0, none⟩) HB6.out _).setCell (p := ⟨b6, 1, none⟩) HB6.out _
            clear hx5 ht5 hb5
            go_wp2
            go_roundw
            case rel => exact ⟨n + 1, q5, c5, ys5, by have := HNL.out; omega, by go_num, HXN.out, HTN.out, HBN.out⟩
            case measure => have := HNL.out; simp [intOf]; omega
        · have hge : (63 : Int) ≤ ((n : Nat) : Int) := by omega
          have HBD := HBR
          clear hnl hn HXR HTR HBR
          go_wp2
          clear hge
          obtain ⟨f1, hf1⟩ : ∃ W, W = wr.alloc (.cells #[.slice none 0 0, .slice none 0 0] 34) := ⟨_, rfl⟩
          obtain ⟨b8, hb8⟩ : ∃ b, b = wr.heap.size := ⟨_, rfl⟩
          have hbaf1 : Below wr.heap.size wr f1 := by rw [hf1]; exact bl_alloc _ _
          have hbxf1 : Bx f1 b8 34 #[.slice none 0 0, .slice none 0 0] := by rw [hf1, hb8]; exact Bx.new wr _ _
          have HWf1 := Lib.hid (And.intro hf1.symm hb8.symm)
          have HBf1 := Lib.hid (bl_trans HBD.out hbaf1)
          have HX8 := Lib.hid hbxf1
          clear hf1 hb8 hbaf1 hbxf1
          have hb8 : w.heap.size ≤ b8 := by rw [← HWf1.out.2]; exact HBD.out.size
          have HB8 := Lib.hid hb8
          have HW8 : Hid (WS f1 w.heap.size b8 none 0 0 []) := ⟨HX8.out, ownN_nil _ _, rfl, rfl, fun x hx => by simp at hx⟩
          clear hb8
          rw [HWf1.out.2, HWf1.out.1]
          go_loopw [9] (fun nv wr => ∃ (n : Nat) (q : Option Addr) (cq : Nat) (ys : List NV), n ≤ 4002 ∧ nv = .int .i64 (n : Nat) ∧ Hid (WS wr w.heap.size b8 q n cq ys) ∧ Hid (Below w.heap.size w wr)) (fun nv _ => 4002 - (intOf nv).toNat)
          case atStart => exact ⟨0, none, 0, [], by omega, rfl, HW8.out, HBf1.out⟩
          case round =>
            obtain ⟨n, q, cq, ys, hn, rfl, HWR, HBR⟩ := hrel
            rename World => wr
            by_cases hnl : n < 4002
            · have hnI : ((n : Nat) : Int) < 4002 := by omega
              have HNL := Lib.hid hnl
              clear hn hnl
              go_upto_region 26 with fail
              refine wp_region_L (S := (fun (V : World) => V.cell? ⟨b8, 0, none⟩ = some (.slice q n cq))) (S2 := (fun (V : World) => V.cell? ⟨b8, 0, none⟩ = some (.slice q n cq))) 6 6 (by kernel_rfl) ?_
              have HWD := Lib.hid (HWR.out.below (bl_drew wr))
              have HBD2 := Lib.hid (bl_trans HBR.out (bl_drew wr))
              have hS : (fun (V : World) => V.cell? ⟨b8, 0, none⟩ = some (.slice q n cq)) wr.drew := (two HWD.out.box).1
              have hS2 := hS
              obtain ⟨wd, hwd⟩ : ∃ W, W = wr.drew := ⟨_, rfl⟩
              rw [← hwd] at HWD HBD2 hS hS2 ⊢
              clear hwd
              refine anyL_take1 (i := 0) (oi := ⟨some 82, Op.fieldAddr 34 (.tmp 8) 0, 0, "law.go:161", #[], none⟩) (u := ?_) rfl (by kernel_rfl) (fun _ _ _ h => h) (Or.inl ⟨by kernel_rfl, ?_⟩) ⟨fun _ => hS, fun _ => hS2⟩ ?_
              rotate_left
              focus (intro w hSw; (try dsimp only at hSw); go_simp; with_reducible rfl)
              try simp only [Act.put, sb0, sb1, sb2]
              refine anyL_take1 (i := 1) (oi := ⟨some 83, Op.load 31 (.tmp 82), 31, "law.go:161", #[⟨0, .data⟩], none⟩) (u := ?_) rfl (by kernel_rfl) (fun _ _ _ h => h) (Or.inl ⟨by kernel_rfl, ?_⟩) ⟨fun _ => hS, fun _ => hS2⟩ ?_
              rotate_left
              focus (intro w hSw; (try dsimp only at hSw); go_simp; with_reducible rfl)
              try simp only [Act.put, sb0, sb1, sb2]
              refine anyL_one (i := 2) (o := ⟨some 84, Op.call ⟨.value (.func 20), #[.const (.int .i64 97)], #[3]⟩, 28, "law.go:161", #[], none⟩) (by kernel_rfl) rfl (fun K hK => ?_)
              go_simp
              refine (set6_own _ _).mono ?_
              rintro e v1 ⟨g, rfl, hg1, hgx, hb1⟩
              have HW1 := Lib.hid (HWD.out.below hb1)
              have HB1 := Lib.hid (bl_trans HBD2.out hb1)
              have HG1 := Lib.hid (And.intro (Nat.le_trans HBD2.out.size hg1) hgx)
              have hS1 : (fun (V : World) => V.cell? ⟨b8, 0, none⟩ = some (.slice q n cq)) v1 := (two HW1.out.box).1
              refine hK.out _ _ ⟨fun _ => hS1, fun _ => hS1⟩ ?_
              clear hK K hS hS2 hg1 hgx hb1
              have hS := hS1
              have hS2 := hS1
              clear hS1
              try simp only [Act.put, sb0, sb1, sb2]
              rw [show (encN (leafV 97 g)).toArray = #[.int .u8 2, .slice (some ⟨g, 0, none⟩) 1 1, .slice none 0 0, .int .i64 0, .int .i64 0, .int .i64 0, .int .u8 0, .int .u8 0, .bool false] from rfl]
              refine anyL_one (i := 3) (o := ⟨some 85, Op.buildSlice 31 1 #[(0, .tmp 84)], 31, "law.go:161", #[⟨2, .data⟩], none⟩) (by kernel_rfl) rfl (fun K hK => ?_)
              go_simp
              obtain ⟨v2, hv2⟩ : ∃ W, W = v1.alloc (.cells #[.int .u8 2, .slice (some ⟨g, 0, none⟩) 1 1, .slice none 0 0, .int .i64 0, .int .i64 0, .int .i64 0, .int .u8 0, .int .u8 0, .bool false] 28) := ⟨_, rfl⟩
              have hbl : Below v1.heap.size v1 v2 := by rw [hv2]; exact bl_alloc _ _
              have HC2 : Hid (∀ i u, (encN (leafV 97 g))[i]? = some u → v2.cell? ((⟨v1.heap.size, 0, none⟩ : Addr).add i) = some u) := by rw [hv2]; exact cells_nine v1 (encN (leafV 97 g)) _
              rw [← hv2]
              have HW2 := Lib.hid (HW1.out.below hbl)
              have HB2 := Lib.hid (bl_trans HB1.out hbl)
              have HG2 := Lib.hid (And.intro HG1.out.1 (HG1.out.2.below hbl))
              have hSv2 : (fun (V : World) => V.cell? ⟨b8, 0, none⟩ = some (.slice q n cq)) v2 := (two HW2.out.box).1
              refine hK.out _ _ ⟨fun _ => hSv2, fun _ => hSv2⟩ ?_
              clear hK K hS hS2 hv2 hbl
              have hS := hSv2
              have hS2 := hSv2
              clear hSv2
              try simp only [Act.put, sb0, sb1, sb2]
              refine anyL_one (i := 4) (o := ⟨some 86, Op.call { callee := Callee.builtin Builtin.append, args := #[.tmp 83, .tmp 85], argTypes := #[31, 31] }, 31, "law.go:161", #[⟨1, .data⟩, ⟨3, .data⟩, ⟨2, .chain⟩], none⟩) (by kernel_rfl) rfl (fun K hK => ?_)
              have HROW := Lib.hid (ownN_row HW2.out.own HW2.out.len)
              refine step_append_lies _ rfl _ _ 31 rfl w.heap.size 28 i0 (.agg #[.int .u8 0, .slice none 0 0, .slice none 0 0, .int .i64 0, .int .i64 0, .int .i64 0, .int .u8 0, .int .u8 0, .bool false]) 9 88 Tryz.underlying31 hinf hz0 hz1 hz2 rfl (by decide) (.slice q n cq) n _ rfl HROW.out ⟨v1.heap.size, 0, none⟩ 1 1 (encN (leafV 97 g)) rfl rfl HC2.out (by simp [encN, Value.oneCell']) (by decide) (by simp only [maxLen]; have := HNL.out; omega) (by have := HNL.out; omega) HB2.out.size _ rfl ?_
              intro gg cap w9 hown hgrow hat hlt
              have HWN := Lib.hid (HW2.out.more HG2.out.2 HG2.out.1 hown hgrow)
              have kB := HW2.out.box.kept hgrow (Ne.symm (row_ne HW2.out.own.row HW2.out.box (by decide)))
              have hB9 : Below w.heap.size w w9 := HB2.out.grown hgrow HB2.out.size (fun g e => (HROW.out.lt g e).1)
              have HBN := Lib.hid (hB9.setCell (p := ⟨b8, 0, none⟩) HB8.out (.slice (some ⟨gg, 0, none⟩) (n + 1) cap))
              have hS9 : (fun (V : World) => V.cell? ⟨b8, 0, none⟩ = some (.slice q n cq)) w9 := (two kB).1
              obtain ⟨t0, _⟩ := two kB
              have ft0 := kB.free 0
              have hltb := kB.lt
              refine hK.out _ _ ⟨fun _ => hS9, fun _ => hS9⟩ ?_
              clear hK K hS hS2 hown hgrow hat hlt kB hB9
              have hS := hS9
              have hS2 := hS9
              clear hS9
              try simp only [Act.put, sb0, sb1, sb2]
              refine anyL_take1 (i := 5) (oi := ⟨some 87, Op.fieldAddr 34 (.tmp 8) 0, 0, "law.go:161", #[⟨0, .phase⟩, ⟨1, .phase⟩, ⟨2, .phase⟩, ⟨3, .phase⟩, ⟨4, .phase⟩], none⟩) (u := ?_) rfl (by kernel_rfl) (fun _ _ _ h => h) (Or.inl ⟨by kernel_rfl, ?_⟩) ⟨fun _ => hS, fun _ => hS2⟩ ?_
              rotate_left
              focus (intro w hSw; (try dsimp only at hSw); go_simp; with_reducible rfl)
              try simp only [Act.put, sb0, sb1, sb2]
              refine anyL_one (i := 6) (o := ⟨none, Op.store 31 (.tmp 87) (.tmp 86), 0, "law.go:161", #[⟨5, .data⟩, ⟨4, .data⟩, ⟨4, .chain⟩, ⟨0, .phase⟩, ⟨1, .phase⟩, ⟨2, .phase⟩, ⟨3, .phase⟩, ⟨4, .phase⟩], none⟩) (by kernel_rfl) rfl (fun K hK => ?_)
              go_simp
              refine hK.out _ _ ⟨fun h => absurd h (by decide), fun h => absurd h (by decide)⟩ ?_
              clear hK K hS hS2
              try simp only [Act.put, sb0, sb1, sb2]
              refine anyL_done (by kernel_rfl) (show onlyN _ .normal _ _ from ?_) _
              dsimp only [onlyN]
              go_wp2
              go_roundw
              case rel => exact ⟨n + 1, some ⟨gg, 0, none⟩, cap, _, by have := HNL.out; omega, by go_num, HWN.out, HBN.out⟩
              case measure => have := HNL.out; simp [intOf]; omega
            · obtain ⟨N, hN⟩ : ∃ N, N = n := ⟨_, rfl⟩
              have hge : (4002 : Int) ≤ ((n : Nat) : Int) := by omega
              have HN : Hid (n = 4002) := by show n = 4002; omega
              have HBW := HBR
              have HWW := HWR
              clear hnl hn HWR HBR hN N HW8 HX8 HBf1 HWf1
              go_wp2
              clear hge
              have hq : 0 < n := by have := HN.out; omega
              obtain ⟨gq, hgq0⟩ : ∃ g, q = some ⟨g, 0, none⟩ := by
                have hr := ownN_row HWW.out.own HWW.out.len
                rcases hr.2 with ⟨_, h0⟩ | ⟨g, cp, cur, e, _⟩
                · omega
                · simp only [Value.slice.injEq] at e
                  exact ⟨g, e.1⟩
              subst hgq0
              obtain ⟨cqn, hcqn⟩ : ∃ c : Nat, c = cq := ⟨_, rfl⟩
              have hcq : n ≤ cq ∧ cq ≤ 9223372036854775807 := by
                obtain ⟨p, c, e, h1, h2, _⟩ := HWW.out.own.form
                simp only [Value.slice.injEq] at e
                have := HWW.out.len
                omega
              have HCQ := Lib.hid hcq
              clear hq hcqn hcq cqn
              go_loopw [10] (fun iv wr => ∃ (m : Nat), 3997 ≤ m ∧ m ≤ 4002 ∧ iv = .int .i64 (m : Nat) ∧ Hid (WS wr w.heap.size b8 (some ⟨gq, 0, none⟩) n cq ys) ∧ Hid (Below w.heap.size w wr)) (fun iv _ => 4002 - (intOf iv).toNat)
              case atStart => exact ⟨3997, by omega, by omega, rfl, HWW.out, HBW.out⟩
              case round =>
                obtain ⟨m, hm0, hm, rfl, HWR, HBR⟩ := hrel
                rename World => wm
                by_cases hml : m < 4002
                · have hmI : ((m : Nat) : Int) < 4002 := by omega
                  have hm0I : (3997 : Int) ≤ ((m : Nat) : Int) := by omega
                  have hmc : ((m : Nat) : Int) ≤ ((cq : Nat) : Int) := by have := HCQ.out; have := HN.out; omega
                  have hcqI : ((cq : Nat) : Int) ≤ 9223372036854775807 := by have := HCQ.out; omega
                  have HM := Lib.hid (And.intro hm0 hml)
                  obtain ⟨r0, r1⟩ := two HWR.out.box
                  have hlt8 := HWR.out.box.lt
                  clear hm0 hm hml
                  obtain ⟨va, hva⟩ : ∃ W, W = wm.alloc (.cells #[] 28) := ⟨_, rfl⟩
                  have hba : Below wm.heap.size wm va := by rw [hva]; exact bl_alloc _ _
                  have hrow0 : va.ownsRow w.heap.size 28 9 (.slice (some ⟨wm.heap.size, 0, none⟩) 0 0) 0 [] := by rw [hva]; exact World.ownsRow_lit wm #[] 0 HBR.out.size (by simp [maxLen]) rfl
                  have hk0 : va.heap[wm.heap.size]? = some (.cells #[] 28 (0, 0)) := by rw [hva]; exact heap_alloc_new wm _
                  have hnc : ∀ j u, ((ys.take m).flatMap encN)[j]? = some u → va.cell? ((⟨gq, 0, none⟩ : Addr).add j) = some u := by
                    intro j u hu
                    obtain ⟨_, _, e, _, _, _, hsl⟩ := HWR.out.own.form
                    simp only [Value.slice.injEq] at e
                    obtain ⟨rfl, _⟩ := e
                    rcases take_cells hsl m with h0 | ⟨b, off, e, h2⟩
                    · have h1 := HWR.out.len
                      have := HM.out; have := HN.out
                      rw [List.length_take] at h0; omega
                    · simp only [Option.some.injEq, Addr.mk.injEq, and_true] at e
                      obtain ⟨rfl, rfl⟩ := e
                      have e2 : ((⟨gq, 0, none⟩ : Addr).add j) = ⟨gq, 0 + j, none⟩ := by unfold Addr.add; simp; exact Eq.symm
                      rw [e2]
                      exact cell_below (h2 j u hu) hba
                  have hnl : ((ys.take m).flatMap encN).length = m * 9 := by rw [encN_length, List.length_take]; have := HWR.out.len; have := HM.out; have := HN.out; rw [Nat.min_eq_left (by omega)]
                  have HWA := Lib.hid (HWR.out.below hba)
                  have HBA := Lib.hid (bl_trans HBR.out hba)
                  have HR0 := Lib.hid (And.intro hrow0 (And.intro hk0 (And.intro hnc hnl)))
                  have HVA := Lib.hid hva.symm
                  clear hva hba hrow0 hk0 hnc hnl
                  go_wp2_with (at_builtin; (try rw [HVA.out]); refine wpList_append_lies _ rfl _ _ 31 rfl w.heap.size 28 i0 (.agg #[.int .u8 0, .slice none 0 0, .slice none 0 0, .int .i64 0, .int .i64 0, .int .i64 0, .int .u8 0, .int .u8 0, .bool false]) 9 88 Tryz.underlying31 hinf hz0 hz1 hz2 rfl (by decide) (.slice (some ⟨wm.heap.size, 0, none⟩) 0 0) 0 [] rfl HR0.out.1 ⟨gq, 0, none⟩ m cq ((ys.take m).flatMap encN) rfl HR0.out.2.2.2 HR0.out.2.2.1 encN_one (by have := HM.out; omega) (by simp only [maxLen]; have := HM.out; omega) (by have := HM.out; omega) HBA.out.size _ rfl ?_)
                  intro gg cap w9 hown hgrow hat hlt
                  try rw [Nat.zero_add] at hown
                  try rw [List.nil_append] at hown
                  try rw [Nat.zero_add]
                  have hne0 : (Value.slice (some ⟨gq, 0, none⟩) n cq).ownBlock ≠ some wm.heap.size := own_ne HWR.out.own.row (Nat.le_refl _)
                  have hw9 := HWA.out.side HR0.out.2.1 hne0 hgrow
                  have ho9 := copy_leaves HWA.out.own HWA.out.len HWA.out.bare (by have := HM.out; have := HN.out; omega) HR0.out.1 hown hgrow
                  have hb9 : Below w.heap.size w w9 := HBA.out.grown hgrow HBA.out.size (fun g e => by simp only [Value.ownBlock, Option.some.injEq] at e; subst e; exact HBR.out.size)
                  obtain ⟨e1, he1⟩ : ∃ W, W = w9.alloc (.cells #[.slice (some ⟨gg, 0, none⟩) m cap, .slice none 0 0] 34) := ⟨_, rfl⟩
                  obtain ⟨b11, hb11⟩ : ∃ b, b = w9.heap.size := ⟨_, rfl⟩
                  obtain ⟨e2, he2⟩ : ∃ W, W = e1.alloc (.cells #[.int .u8 3, .slice none 0 0, .slice none 0 0, .int .i64 0, .int .i64 0, .int .i64 0, .int .u8 0, .int .u8 0, .bool false] 28) := ⟨_, rfl⟩
                  obtain ⟨b12, hb12⟩ : ∃ b, b = b11 + 1 := ⟨_, rfl⟩
                  have hs1 : e1.heap.size = b12 := by rw [he1, hb12, hb11]; simp
                  have hbe1 : Below w9.heap.size w9 e1 := by rw [he1]; exact bl_alloc _ _
                  have hbe2 : Below e1.heap.size e1 e2 := by rw [he2]; exact bl_alloc _ _
                  have hbe := bl_trans hbe1 hbe2
                  have hx11 : Bx e1 b11 34 #[.slice (some ⟨gg, 0, none⟩) m cap, .slice none 0 0] := by rw [he1, hb11]; exact Bx.new _ _ _
                  have hx12 : Bx e2 b12 28 #[.int .u8 3, .slice none 0 0, .slice none 0 0, .int .i64 0, .int .i64 0, .int .i64 0, .int .u8 0, .int .u8 0, .bool false] := by rw [he2, ← hs1]; exact Bx.new _ _ _
                  have HLS : Hid (LS e2 w.heap.size b8 (some ⟨gq, 0, none⟩) n cq ys b11 b12 gg cap m 0 none 0) := ⟨hw9.below hbe, hx11.below hbe2, ho9.below hbe, hx12, ownZ_nil _ _, by omega, own_ne hw9.own.row (by omega)⟩
                  have HNB : Hid (b8 ≠ b11 ∧ (Value.slice (some ⟨gq, 0, none⟩) n cq).ownBlock ≠ some gg ∧ w.heap.size ≤ b11 ∧ w.heap.size ≤ b12) := by
                    refine ⟨?_, ?_, by have := hb9.size; omega, by have := hb9.size; omega⟩
                    · have := hw9.box.lt; omega
                    · intro e
                      simp only [Value.ownBlock, Option.some.injEq] at e hat
                      have h1 := (HWR.out.own.row.lt gq rfl).2
                      have h2 := HVA.out
                      rcases hat with h | h
                      · omega
                      · rw [← h2, World.size_alloc] at h; omega
                  have HB9 := Lib.hid (hb9.trans (hbe.mono hb9.size))
                  have HWE := Lib.hid (And.intro hb11.symm (And.intro he1.symm (And.intro hb12.symm he2.symm)))
                  clear hown hgrow hat hlt hne0 hw9 ho9 hb9 he1 hb11 he2 hb12 hs1 hbe1 hbe2 hbe hx11 hx12 r0 r1 hlt8
                  go_wp2
                  rw [HWE.out.1, HWE.out.2.1, HWE.out.2.2.1, HWE.out.2.2.2]
                  go_loopw [13] (fun jv wr => ∃ (j : Nat) (r : Option Addr) (cr : Nat), j ≤ m ∧ jv = .int .i64 (j : Nat) ∧ Hid (LS wr w.heap.size b8 (some ⟨gq, 0, none⟩) n cq ys b11 b12 gg cap m j r cr) ∧ Hid (Below w.heap.size w wr)) (fun jv _ => m - (intOf jv).toNat)
                  case atStart => exact ⟨0, none, 0, Nat.zero_le _, rfl, HLS.out, HB9.out⟩
                  case round =>
                    obtain ⟨j, r, cr, hj, rfl, HLR, HBJ⟩ := hrel
                    rename World => wj
                    by_cases hjm : j < m
                    · have hjI : ((j : Nat) : Int) < ((m : Nat) : Int) := by omega
                      have HJM := Lib.hid hjm
                      have n2 := (nine HLR.out.node).2.2.1
                      have HROW := Lib.hid (ownZ_row HLR.out.kids (upTo_length j).symm)
                      clear hj hjm
                      go_wp2_with (at_builtin; refine wpList_append_lies _ rfl _ _ 24 rfl w.heap.size 3 j0 (.int .i64 0) 1 8 Tryz.underlying24 jinf jz0 jz1 jz2 rfl (by decide) (.slice r j cr) j _ rfl (HROW.out.alloc _) ⟨wj.heap.size, 0, none⟩ 1 1 [.int .i64 ((j : Nat) : Int)] rfl rfl (cells_one_z _ _ _) (by simp [Value.oneCell']) (by decide) (by simp only [maxLen]; have := HJM.out; have := HM.out; omega) (by have := HJM.out; have := HM.out; omega) (by have := HBJ.out.size; simp; omega) _ rfl ?_)
                      intro g2 cap2 wk hown hgrow hat hlt
                      have hbl := bl_alloc wj (.cells #[.int .i64 ((j : Nat) : Int)] 3)
                      have HLK := Lib.hid ((HLR.out.below hbl).kid hown hgrow)
                      have kN := (HLR.out.below hbl).node.kept hgrow (Ne.symm (row_ne (HROW.out.alloc _) (HLR.out.below hbl).node (by decide)))
                      have m2 := (nine kN).2.2.1
                      have fz2 := kN.free 2
                      have hltn := kN.lt
                      have hBk : Below w.heap.size w (wk.setCell ⟨b12, 2, none⟩ (.slice (some ⟨g2, 0, none⟩) (j + 1) cap2)) := ((HBJ.out.trans (hbl.mono HBJ.out.size)).grown hgrow (HBJ.out.trans (hbl.mono HBJ.out.size)).size (fun g e => (HROW.out.lt g e).1)).setCell (p := ⟨b12, 2, none⟩) HNB.out.2.2.2 _
                      have HBK := Lib.hid hBk
                      clear hown hgrow hat hlt hbl kN hBk n2
                      go_wp2
                      go_roundw
                      case rel => exact ⟨j + 1, some ⟨g2, 0, none⟩, cap2, by have := HJM.out; omega, by go_num, HLK.out, HBK.out⟩
                      case measure => have := HJM.out; simp [intOf]; omega
                    · obtain rfl : m = j := by omega
                      have hge : ((m : Nat) : Int) ≤ ((m : Nat) : Int) := Int.le_refl _
                      clear hj hjm
                      obtain ⟨n0, n1, n2, n3, n4, n5, n6, n7, n8⟩ := nine HLR.out.node
                      obtain ⟨r0, r1⟩ := two HLR.out.tree
                      obtain ⟨vb, hvb⟩ : ∃ W, W = wj.alloc (.cells #[.int .u8 3, .slice none 0 0, .slice r m cr, .int .i64 0, .int .i64 0, .int .i64 0, .int .u8 0, .int .u8 0, .bool false] 28) := ⟨_, rfl⟩
                      have hbv : Below wj.heap.size wj vb := by rw [hvb]; exact bl_alloc _ _
                      have hlen : m = (ys.take m).length := by rw [List.length_take]; have := HLR.out.ws.len; have := HM.out; have := HN.out; omega
                      have hcx : ∀ i u, (encN (wideV m r cr))[i]? = some u → vb.cell? ((⟨wj.heap.size, 0, none⟩ : Addr).add i) = some u := by
                        rw [enc_wide, hvb]; exact cells_nine wj _ _
                      have HLV := Lib.hid (HLR.out.below hbv)
                      have HBV := Lib.hid (bl_trans HBJ.out hbv)
                      have HROW := Lib.hid (ownN_row HLV.out.own hlen)
                      have HCX := Lib.hid hcx
                      have HLN := Lib.hid hlen
                      have HVB := Lib.hid hvb.symm
                      clear hvb hbv hlen hcx
                      go_wp2_with (at_builtin; (try rw [HVB.out]); refine wpList_append_lies _ rfl _ _ 31 rfl w.heap.size 28 i0 (.agg #[.int .u8 0, .slice none 0 0, .slice none 0 0, .int .i64 0, .int .i64 0, .int .i64 0, .int .u8 0, .int .u8 0, .bool false]) 9 88 Tryz.underlying31 hinf hz0 hz1 hz2 rfl (by decide) (.slice (some ⟨gg, 0, none⟩) m cap) m _ rfl HROW.out ⟨wj.heap.size, 0, none⟩ 1 1 (encN (wideV m r cr)) rfl rfl HCX.out (by simp [enc_wide, Value.oneCell']) (by decide) (by simp only [maxLen]; have := HM.out; omega) (by have := HM.out; omega) HBV.out.size _ rfl ?_)
                      intro g3 cap3 wl hown hgrow hat hlt
                      have hkz : OwnZ vb w.heap.size (.slice (wideV m r cr).pk (wideV m r cr).nd.kids.length (wideV m r cr).ck) (wideV m r cr).nd.kids := by
                        show OwnZ vb w.heap.size (.slice r (upTo m).length cr) (upTo m)
                        rw [upTo_length]; exact HLV.out.kids
                      have hol : OwnN wl w.heap.size (.slice (some ⟨g3, 0, none⟩) (m + 1) cap3) (ys.take m ++ [wideV m r cr]) := HLV.out.own.more HLN.out (ownR_nil _ _) hkz hown hgrow
                      obtain ⟨cso, hco⟩ : ∃ cs, vb.heap[gg]? = some (.cells cs 28 (0, 0)) := by
                        rcases HROW.out.2 with ⟨e, _⟩ | ⟨g', cp, cur, e, _, hh, _⟩
                        · cases e
                        · simp only [Value.slice.injEq, Option.some.injEq, Addr.mk.injEq] at e
                          obtain ⟨⟨rfl, _⟩, _⟩ := e
                          exact ⟨_, hh⟩
                      have hwl := HLV.out.ws.side hco HNB.out.2.1 hgrow
                      have hxl : Bx wl b11 34 #[.slice (some ⟨gg, 0, none⟩) m cap, .slice none 0 0] := HLV.out.tree.kept hgrow (Ne.symm (row_ne HROW.out HLV.out.tree (by decide)))
                      have hbl : Below w.heap.size w wl := HBV.out.grown hgrow HBV.out.size (fun g e => (HROW.out.lt g e).1)
                      obtain ⟨x0, x1⟩ := two hxl
                      have fx0 := hxl.free 0
                      have hltx := hxl.lt
                      obtain ⟨wz, hwz⟩ : ∃ W, W = wl.setCell ⟨b11, 0, none⟩ (.slice (some ⟨g3, 0, none⟩) (m + 1) cap3) := ⟨_, rfl⟩
                      have HXZ : Hid (Bx wz b11 34 #[.slice (some ⟨g3, 0, none⟩) (m + 1) cap3, .slice none 0 0]) := by show Bx _ _ _ _; rw [hwz]; exact hxl.set 0 _
                      have HOZ : Hid (OwnN wz w.heap.size (.slice (some ⟨g3, 0, none⟩) (m + 1) cap3) (ys.take m ++ [wideV m r cr])) := by show OwnN _ _ _ _; rw [hwz]; exact hol.offK hxl (by decide) (by decide) (by decide)
                      have HWZ : Hid (WS wz w.heap.size b8 (some ⟨gq, 0, none⟩) n cq ys) := by show WS _ _ _ _ _ _ _; rw [hwz]; exact hwl.far hxl HNB.out.1
                      have HBZ : Hid (Below w.heap.size w wz) := by show Below _ _ _; rw [hwz]; exact hbl.setCell (p := ⟨b11, 0, none⟩) HNB.out.2.2.1 _
                      have HWZE := Lib.hid hwz.symm
                      clear hown hgrow hat hlt hkz hol hco hwl hxl hbl hwz n0 n1 n2 n3 n4 n5 n6 n7 n8 r0 r1
                      go_upto_region 37 with fail
                      rw [HWZE.out]
                      clear x0 x1 fx0 hltx
                      have hxd := HXZ.out.below (bl_drew wz)
                      have hod := HOZ.out.below (bl_drew wz)
                      have hnd : nds (ys.take m ++ [wideV m r cr]) = wideN m := wide_nds HWZ.out.nds (by have := HM.out; have := HN.out; omega) r cr
                      have hln : m + 1 = (ys.take m ++ [wideV m r cr]).length := by rw [List.length_append, ← HLN.out]; rfl
                      have hsn : ∀ V, Below wz.drew.heap.size wz.drew V → SlN V (some ⟨g3, 0, none⟩) (ys.take m ++ [wideV m r cr]) := fun V hV => (th_own hln (hod.below hV) hnd).nodes
                      have hfew : Few (ys.take m ++ [wideV m r cr]) := few_nds hnd (wide_few (by have := HM.out; omega))
                      obtain ⟨rb, hrb⟩ : ∃ b, b = decide (((m : Nat) : Int) < 4000) := ⟨_, rfl⟩
                      obtain ⟨jx, dx, hjd, hqq, hdd, hrr⟩ : ∃ jx dx : Nat, (jx = 0 ∧ dx = 2 ∨ jx = 1 ∧ dx = 0) ∧ IntKind.i64.wrap (((m : Nat) : Int) / 4000) = ((jx : Nat) : Int) ∧ deepT (wideN m) = dx ∧ rightN (wideN m) [] = rb := by
                        by_cases h4 : m < 4000
                        · refine ⟨0, 2, .inl ⟨rfl, rfl⟩, ?_, deep_wide (by have := HM.out; omega) h4, ?_⟩
                          · rw [show ((m : Nat) : Int) / 4000 = 0 by omega]; rfl
                          · rw [hrb, right_wide (by have := HM.out; omega) h4, decide_eq_true (by omega)]
                        · have := HM.out
                          refine ⟨1, 0, .inr ⟨rfl, rfl⟩, ?_, deep_wide_no (by omega), ?_⟩
                          · rw [show ((m : Nat) : Int) / 4000 = 1 by omega]; rfl
                          · rw [hrb, right_wide_no (by omega), decide_eq_false (by omega)]
                      refine end37_wp m b11 (some ⟨g3, 0, none⟩) (m + 1) cap3 jx dx rb (by rfl) (by rfl) (by rfl) (two hxd).1 (two hxd).2 hrb.symm hqq hjd (fun V hV => ?_) (fun V hV => ?_) ?_ _
                      · refine (rightT_any (some ⟨g3, 0, none⟩) (m + 1) cap3 _ none 0 0 [] V hln (by have := HM.out; omega) (hsn V hV) hfew (wide_in hnd) rfl (Nat.le_refl _) (slX_nil _ _)).mono ?_
                        rintro e w' ⟨rfl, h⟩
                        exact ⟨by rw [rightT_nds, hnd, hrr], h⟩
                      · refine (deepT_any (some ⟨g3, 0, none⟩) (m + 1) cap3 _ (.slice none 0 0) V hln (by have := HM.out; omega) (hsn V hV) hfew).mono ?_
                        rintro e w' ⟨rfl, h⟩
                        exact ⟨by rw [hnd, hdd], h⟩
                      intro f y hk hb
                      have e14 : f 14 = .bool false := hk 14 (by decide) (by decide)
                      rw [e14]
                      have hbz := bl_trans (bl_drew wz) hb
                      have HWN := Lib.hid (HWZ.out.below hbz)
                      have HBN := Lib.hid (bl_trans HBZ.out hbz)
                      clear hk hb e14 hbz hxd hod hnd hln hsn hfew hrb hjd hqq hdd hrr
                      generalize f 0 = f0, f 1 = f1, f 2 = f2, f 3 = f3, f 4 = f4, f 5 = f5, f 6 = f6, f 7 = f7, f 8 = f8, f 9 = f9, f 10 = f10, f 11 = f11, f 12 = f12, f 13 = f13
                      simp only [putL, List.foldl, Act.put, sb0, sb1, sb2]
                      clear f
                      go_wp2
                      go_roundw
                      case rel => exact ⟨m + 1, by have := HM.out; omega, by have := HM.out; omega, by go_num, HWN.out, HBN.out⟩
                      case measure => have := HM.out; simp [intOf]; omega
                · have hge : (4002 : Int) ≤ ((m : Nat) : Int) := by omega
                  have HBE := HBR
                  clear hml hm hm0 HWR HBR HWW HBW
                  go_wp2
                  clear hge
                  go_loopw [14, 15] (fun lv iv wr => ∃ (n k : Nat) (q : Option Addr) (cq : Nat) (ts : List TV), 1 ≤ n ∧ n ≤ 23 ∧ lv = .slice q k cq ∧ iv = .int .i64 (n : Nat) ∧ Hid (n = k + 1) ∧ Hid (k = ts.length) ∧ Hid (OwnT wr w.heap.size (.slice q k cq) ts) ∧ Hid (TwoT ts) ∧ Hid (Below w.heap.size w wr)) (fun _ iv _ => 23 - (intOf iv).toNat)
                  case atStart => exact ⟨1, 0, none, 0, [], by omega, by omega, rfl, rfl, rfl, rfl, ownT_nil _ _, fun t ht => by simp at ht, HBE.out⟩
                  case round =>
                    obtain ⟨n, k, q, cq, ts, hn1, hn, rfl, rfl, HNK, HKT, HOT, HTS, HBR⟩ := hrel
                    rename World => wr
                    by_cases hnl : n < 23
                    · have hnI : ((n : Nat) : Int) < 23 := by omega
                      have HNL := Lib.hid hnl
                      clear hn hnl
                      go_wp2_with fail
                      refine (hgrp_all _ _).mono ?_
                      rintro e u1 ⟨x1, rfl, hx1, hf1, hb1⟩
                      have HBu1 := Lib.hid (bl_trans HBR.out hb1)
                      have HOT_u1 := Lib.hid (HOT.out.below hb1)
                      have HN1 := Lib.hid hx1
                      have HF1 := Lib.hid hf1
                      clear hx1 hf1 hb1
                      go_wp2_with fail
                      refine (hset_all _ _).mono ?_
                      rintro e u2 ⟨x2, rfl, hx2, hf2, hb2⟩
                      have HBu2 := Lib.hid (bl_trans HBu1.out hb2)
                      have HOT_u2 := Lib.hid (HOT_u1.out.below hb2)
                      have HN1_u2 := Lib.hid (HN1.out.below hb2)
                      have HJ2 := Lib.hid (joinW0 x2 w.heap.size u2 hx2 hf2 HBu2.out.size)
                      clear hx2 hf2 hb2
                      go_wp2_with fail
                      refine HJ2.out.mono ?_
                      rintro e u3 ⟨q3, m3, c3, ys3, rfl, ht3, rfl, hb3⟩
                      have HBu3 := Lib.hid (bl_trans HBu2.out hb3)
                      have HOT_u3 := Lib.hid (HOT_u2.out.below hb3)
                      have HN1_u3 := Lib.hid (HN1_u2.out.below hb3)
                      have HT3 := Lib.hid ht3
                      clear ht3 hb3
                      obtain ⟨u4, hu4⟩ : ∃ W, W = u3.alloc (.cells #[.slice q3 1 c3, .slice none 0 0] 34) := ⟨_, rfl⟩
                      obtain ⟨b3, hb3⟩ : ∃ b, b = u3.heap.size := ⟨_, rfl⟩
                      have hbau4 : Below u3.heap.size u3 u4 := by rw [hu4]; exact bl_alloc _ _
                      have hbxu4 : Bx u4 b3 34 #[.slice q3 1 c3, .slice none 0 0] := by rw [hu4, hb3]; exact Bx.new u3 _ _
                      have HWu4 := Lib.hid (And.intro hu4.symm hb3.symm)
                      have HBu4 := Lib.hid (bl_trans HBu3.out hbau4)
                      have HOT_u4 := Lib.hid (HOT_u3.out.below hbau4)
                      have HN1_u4 := Lib.hid (HN1_u3.out.below hbau4)
                      have HT3_u4 := Lib.hid (HT3.out.below hbau4)
                      have HX3 := Lib.hid hbxu4
                      clear hu4 hb3 hbau4 hbxu4
                      have HJ4 := Lib.hid (joinW1 x1 b3 1 q3 1 c3 ys3 w.heap.size u4 HN1_u4.out HF1.out HT3_u4.out HX3.out (by omega) HBu4.out.size)
                      go_wp2_with fail
                      rw [HWu4.out.2, HWu4.out.1]
                      refine HJ4.out.mono ?_
                      rintro e u5 ⟨q5, m5, c5, ys5, rfl, ht5, rfl, hb5⟩
                      have HBu5 := Lib.hid (bl_trans HBu4.out hb5)
                      have HOT_u5 := Lib.hid (HOT_u4.out.below hb5)
                      have HT5 := Lib.hid ht5
                      clear ht5 hb5
                      have HROW := Lib.hid (ownT_row HOT_u5.out HKT.out)
                      have hkI : k ≤ 22 := by have := HNK.out; have := HNL.out; omega
                      go_wp2_with (at_builtin; refine wpList_append_lies _ rfl _ _ 29 rfl w.heap.size 34 k0 (.agg #[.slice none 0 0, .slice none 0 0]) 2 48 Tryz.underlying29 kinf kz0 kz1 kz2 rfl (by decide) (.slice q k cq) k _ rfl (HROW.out.alloc _) ⟨u5.heap.size, 0, none⟩ 1 1 [.slice q5 2 c5, .slice none 0 0] rfl rfl (cells_nine u5 [.slice q5 2 c5, .slice none 0 0] _) (by simp [Value.oneCell']) (by decide) (by simp only [maxLen]; omega) (by omega) (by have := HBu5.out.size; simp; omega) _ rfl ?_)
                      intro gg cap w9 hown hgrow hat hlt
                      have hbl := bl_alloc u5 (.cells #[.slice q5 2 c5, .slice none 0 0] 34)
                      have hl5 : ys5.length = 2 := HT5.out.len.symm
                      have hot9 : OwnT w9 w.heap.size (.slice (some ⟨gg, 0, none⟩) (k + 1) cap) (ts ++ [tv q5 c5 ys5]) := by
                        refine OwnT.more (t := tv q5 c5 ys5) (HOT_u5.out.below hbl) HKT.out ?_ ?_ hgrow
                        · show OwnN _ _ (.slice q5 ys5.length c5) ys5
                          rw [hl5]; exact HT5.out.own.below hbl
                        · show w9.ownsRow _ _ 2 (.slice (some ⟨gg, 0, none⟩) (k + 1) cap) (k + 1) (ts.flatMap encT ++ [.slice q5 ys5.length c5, .slice none 0 0])
                          rw [hl5]; exact hown
                      have hb9 : Below w.heap.size w w9 := (HBu5.out.trans (hbl.mono HBu5.out.size)).grown hgrow (HBu5.out.trans (hbl.mono HBu5.out.size)).size (fun g e => (HROW.out.lt g e).1)
                      have hts9 : TwoT (ts ++ [tv q5 c5 ys5]) := by
                        intro t ht
                        rcases List.mem_append.1 ht with ht | ht
                        · exact HTS.out t ht
                        · rw [List.mem_singleton.1 ht]; exact ⟨hl5, HT5.out.few⟩
                      have hk9 : k + 1 = (ts ++ [tv q5 c5 ys5]).length := by rw [List.length_append, ← HKT.out]; rfl
                      have hz9 : sizeT (ts ++ [tv q5 c5 ys5]) + 1 ≤ 5000 := by rw [size_two _ fun t ht => (hts9 t ht).1, ← hk9]; omega
                      obtain ⟨_, _, e9, y1, y2, y3, hsl9⟩ := hot9.form
                      simp only [Value.slice.injEq] at e9
                      obtain ⟨rfl, y4, rfl⟩ := e9
                      clear y1 y2 y3 y4
                      obtain ⟨ts9, hts⟩ : ∃ z, z = ts ++ [tv q5 c5 ys5] := ⟨_, rfl⟩
                      rw [← hts] at hot9 hts9 hk9 hz9 hsl9
                      have HJ9 := Lib.hid (join_alt (some ⟨gg, 0, none⟩) (k + 1) cap ts9 w.heap.size w9 hk9 hsl9 (fun t ht => (hts9 t ht).2) (by omega) hz9 hb9.size)
                      have HO9 := Lib.hid hot9
                      have HB9 := Lib.hid hb9
                      have HT9 := Lib.hid hts9
                      have HK9 := Lib.hid hk9
                      clear hown hgrow hat hlt hbl hot9 hb9 hts9 hk9 hz9 hsl9 hts hl5 hkI
                      go_wp2_with fail
                      refine HJ9.out.mono ?_
                      rintro e u7 ⟨q7, m7, c7, ys7, rfl, ht7, hm7, hb7⟩
                      have HBu7 := Lib.hid (bl_trans HB9.out hb7)
                      have HO9_u7 := Lib.hid (HO9.out.below hb7)
                      have HT7 := Lib.hid ht7
                      have HBS : Hid (w9.heap.size ≤ u7.heap.size) := hb7.size
                      clear ht7 hb7 hm7
                      obtain ⟨u8, hu8⟩ : ∃ W, W = u7.alloc (.cells #[.slice q7 m7 c7, .slice none 0 0] 34) := ⟨_, rfl⟩
                      obtain ⟨b16, hb16⟩ : ∃ b, b = u7.heap.size := ⟨_, rfl⟩
                      have hbau8 : Below u7.heap.size u7 u8 := by rw [hu8]; exact bl_alloc _ _
                      have hbxu8 : Bx u8 b16 34 #[.slice q7 m7 c7, .slice none 0 0] := by rw [hu8, hb16]; exact Bx.new u7 _ _
                      have HWu8 := Lib.hid (And.intro hu8.symm hb16.symm)
                      have HBu8 := Lib.hid (bl_trans HBu7.out hbau8)
                      have HO9_u8 := Lib.hid (HO9_u7.out.below hbau8)
                      have HT7_u8 := Lib.hid (HT7.out.below hbau8)
                      have HX8 := Lib.hid hbxu8
                      clear hu8 hb16 hbau8 hbxu8
                      have hb16 : w.heap.size ≤ b16 := by rw [← HWu8.out.2]; exact HBu7.out.size
                      go_upto_region 45 with fail
                      rw [HWu8.out.2, HWu8.out.1]
                      obtain ⟨r0, r1⟩ := two HX8.out
                      have f0 := HX8.out.free 0
                      have f1 := HX8.out.free 1
                      have hlt := HX8.out.lt
                      obtain ⟨l0, linf, lz0, lz1, lz2⟩ := info_parts info_textz7
                      have hmk : ∀ W : World, (Instr.makeSlice 32 (.int .i64 ((n : Nat) : Int)) (.int .i64 ((n : Nat) : Int))).run Tryz.prog W = .ok (.slice (some ⟨W.heap.size, 0, none⟩) n n) (W.alloc (.cells (madeCells #[.string ⟨#[]⟩] n) 9)) := fun W => by
                        have h := run_make (P := Tryz.prog) W 32 9 l0 (.string ⟨#[]⟩) Tryz.underlying32 linf lz0 .i64 .i64 ((n : Nat) : Int) ((n : Nat) : Int) (by omega) (Int.le_refl _) (by rw [lz2]; have := HNL.out; omega) (by have := HNL.out; omega)
                        rw [lz1, Int.toNat_natCast, Nat.mul_one] at h
                        exact h
                      clear linf lz0 lz1 lz2 l0
                      obtain ⟨g, hg⟩ : ∃ b, b = u8.heap.size := ⟨_, rfl⟩
                      obtain ⟨v0, hv0⟩ : ∃ W, W = u8.setCell ⟨b16, 1, none⟩ (.slice (some ⟨g, 0, none⟩) n n) := ⟨_, rfl⟩
                      obtain ⟨v1, hv1⟩ : ∃ W, W = v0.alloc (.cells (madeCells #[.string ⟨#[]⟩] n) 9) := ⟨_, rfl⟩
                      have hbv0 : Below v0.heap.size v0 v1 := by rw [hv1]; exact bl_alloc _ _
                      have hs0 : v0.heap.size = u8.heap.size := by rw [hv0, World.size_setCell]
                      have hsx : SlX v1 (some ⟨g, 0, none⟩) (List.replicate n ⟨#[]⟩) := by rw [hv1, hg, ← hs0]; exact slX_made v0 n _
                      have hx8 : Bx v0 b16 34 #[.slice q7 m7 c7, .slice (some ⟨g, 0, none⟩) n n] := by rw [hv0]; exact HX8.out.set 1 _
                      have hx9 := hx8.below hbv0
                      have ht9 : TS v1 q7 m7 c7 ys7 := TS.below (by rw [hv0]; exact HT7_u8.out.ts.off1 HX8.out 1 _) hbv0
                      have hot : OwnT v0 w.heap.size (.slice (some ⟨gg, 0, none⟩) (k + 1) cap) ts9 := by
                        rw [hv0]
                        have hc := HX8.out
                        have hT := HO9_u8.out
                        refine ⟨World.ownsRow.kept hT.row (show u8.grownBy (u8.setCell ⟨b16, 1, none⟩ (.slice (some ⟨g, 0, none⟩) n n)) (some b16) from ⟨rfl, rfl, rfl, by simp, fun k _ hne => Below.heap_setCell _ _ _ k (fun e => hne (by rw [e]))⟩) (.inr ?_), fun t ht => (hT.all t ht).offK hc (by decide) (by decide) (by decide)⟩
                        intro e
                        have h1 := (HO9.out.row.lt b16 e).2
                        have h2 := HWu8.out.2
                        have h3 := HBS.out
                        omega
                      have hb0 : Below w.heap.size w v0 := by rw [hv0]; exact HBu8.out.setCell (p := ⟨b16, 1, none⟩) hb16 _
                      have HTL := Lib.hid (ht9.tells (some ⟨g, 0, none⟩) n n (List.replicate n ⟨#[]⟩) (by rw [List.length_replicate]) (Nat.le_refl _) hsx)
                      have HX9 := Lib.hid hx9
                      have HO1 := Lib.hid (hot.below hbv0)
                      have HBV := Lib.hid (hb0.trans (hbv0.mono hb0.size))
                      have HV1 := Lib.hid (And.intro hg.symm (And.intro hv0.symm hv1.symm))
                      clear hg hv0 hv1 hbv0 hs0 hsx hx8 hx9 ht9 hot hb0 hb16
                      go_upto_region 46 with fail
                      rw [HV1.out.1, HV1.out.2.1, HV1.out.2.2]
                      clear r0 r1 f0 f1 hlt hmk
                      obtain ⟨r0, r1⟩ := two HX9.out
                      go_wp2_with fail
                      refine HTL.out.mono ?_
                      rintro e v2 ⟨rfl, hb2⟩
                      have HO2 := Lib.hid (HO1.out.below hb2)
                      have HB2 := Lib.hid (bl_trans HBV.out hb2)
                      clear hb2 r0 r1
                      go_wp2
                      go_roundw
                      case rel => exact ⟨n + 1, k + 1, some ⟨gg, 0, none⟩, cap, ts9, by omega, by have := HNL.out; omega, rfl, by go_num, by have := HNK.out; show n + 1 = k + 1 + 1; omega, HK9.out, HO2.out, HT9.out, HB2.out⟩
                      case measure => have := HNL.out; simp [intOf]; omega
                    · have hge : (23 : Int) ≤ ((n : Nat) : Int) := by omega
                      have HTL : Hid (∀ V : World, Calls Tryz.prog 21 #[.agg #[.slice none 0 0, .slice none 0 0]] V fun e w' => e = .returned (.bool true) ∧ Below V.heap.size V w') := fun V => TS.tells (ys := []) ⟨rfl, Nat.zero_le _, ⟨fun x hx => by simp at hx, .inl rfl⟩, fun x hx => by simp at hx, fun _ => rfl, Nat.le_refl _, by omega⟩ none 0 0 [] rfl (Nat.le_refl _) (slX_nil _ _)
                      have HBF := HBR
                      clear hnl hn hn1 HOT HTS HKT HNK HBR
                      go_wp2_with fail
                      refine (HTL.out _).mono ?_
                      rintro e wl ⟨rfl, hbl⟩
                      have HBL := Lib.hid (bl_trans HBF.out hbl)
                      clear hbl hge
                      go_wp2
                      go_ret
                      exact ⟨rfl, HBL.out⟩
end Go.Proofs.YtjpccmiaimkmbaaGreat
