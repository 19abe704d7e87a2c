/- The document's trees: the walk of Kind. -/
import Derived.Test.YtjpccmiaimkmbaaGreatJc
import Derived.Test.YtjpccmiaimkmbaaGreatLw
import Derived.Test.YtjpccmiaimkmbaaGreatRzh

namespace Go.Proofs.YtjpccmiaimkmbaaGreat
open Go.RowKit Tnr Tnt

def rkindN (d : Nd) : Bool :=
  if d.kind = 1 then decide (d.kids.length = 0) && (bareB (id (⟨d, none, 0, none, 0⟩ : NV)).nd)
  else if d.kind = 2 then decide (d.kids.length = 0) && (bareB (noSet (⟨d, none, 0, none, 0⟩ : NV)).nd && (decide (d.set.length ≤ 2000) && rightB d.set))
  else if d.kind = 3 then decide (2 ≤ d.kids.length) && (bareB (id (⟨d, none, 0, none, 0⟩ : NV)).nd)
  else if d.kind = 4 then decide (2 ≤ d.kids.length) && (bareB (id (⟨d, none, 0, none, 0⟩ : NV)).nd)
  else if d.kind = 5 then decide (d.kids.length = 1) && (bareB (noGroup (⟨d, none, 0, none, 0⟩ : NV)).nd)
  else if d.kind = 6 then decide (d.kids.length = 1) && (bareB (id (⟨d, none, 0, none, 0⟩ : NV)).nd)
  else if d.kind = 7 then decide (d.kids.length = 1) && (bareB (noTimes (⟨d, none, 0, none, 0⟩ : NV)).nd && (timesB d && (decide (1 ≤ d.mode) && decide (d.mode ≤ 3))))
  else if d.kind = 8 then decide (d.kids.length = 0) && (bareB (noGroup (⟨d, none, 0, none, 0⟩ : NV)).nd)
  else if d.kind = 9 then decide (d.kids.length = 0) && (bareB (noSpot (⟨d, none, 0, none, 0⟩ : NV)).nd && spotB d)
  else if d.kind = 10 then decide (d.kids.length = 1) && (bareB (noNot (⟨d, none, 0, none, 0⟩ : NV)).nd)
  else if d.kind = 11 then decide (d.kids.length = 1) && (bareB (noNot (⟨d, none, 0, none, 0⟩ : NV)).nd)
  else if d.kind = 12 then (decide (d.kids.length = 1) || decide (d.kids.length = 2)) && (bareB (noMode (⟨d, none, 0, none, 0⟩ : NV)).nd && (decide (d.mode = 1) || decide (d.mode = 2)))
  else if d.kind = 13 then decide (d.kids.length = 1) && (bareB (id (⟨d, none, 0, none, 0⟩ : NV)).nd)
  else false
set_option maxHeartbeats 3200000 in
set_option maxRecDepth 100000 in
theorem rkind_1 (x : NV) (w : World) (hI : NodeIn w x) (hf : x.nd.kids.length ≤ 1000000 ∧ x.nd.set.length ≤ 1000000) (hk : x.nd.kind = 1) :
    Calls Tryz.prog 135 #[.agg (encN x).toArray] w fun e w' => e = .returned (.bool (rkindN x.nd)) ∧ Below w.heap.size w w' := by
  obtain ⟨ls, lk, hls, hlk, h⟩ := node_lit2 x
  unfold NodeLit at h
  rw [h, hk]
  obtain ⟨gr, hgr⟩ : ∃ z, z = x.nd.group := ⟨_, rfl⟩
  obtain ⟨mn, hmn⟩ : ∃ z, z = x.nd.mn := ⟨_, rfl⟩
  obtain ⟨mx, hmx⟩ : ∃ z, z = x.nd.mx := ⟨_, rfl⟩
  obtain ⟨md, hmd⟩ : ∃ z, z = x.nd.mode := ⟨_, rfl⟩
  obtain ⟨sp, hsp⟩ : ∃ z, z = x.nd.spot := ⟨_, rfl⟩
  obtain ⟨ng, hng⟩ : ∃ z, z = x.nd.neg := ⟨_, rfl⟩
  rw [← hgr, ← hmn, ← hmx, ← hmd, ← hsp, ← hng]
  obtain ⟨bb, hbb⟩ : ∃ b : Bool, b = bareB (id x).nd := ⟨_, rfl⟩
  have HK : Hid (rkindN x.nd = (decide (lk = 0) && (bb))) := by
    show _ = _
    unfold rkindN
    rw [hk, hbb, hlk]; rfl
  have hA := Bx.new w 28 #[.int .u8 1, .slice x.ps ls x.cs, .slice x.pk lk x.ck, .int .i64 gr, .int .i64 mn, .int .i64 mx, .int .u8 md, .int .u8 sp, .bool ng]
  obtain ⟨W1, hW1⟩ : ∃ W, W = w.alloc (.cells #[.int .u8 1, .slice x.ps ls x.cs, .slice x.pk lk x.ck, .int .i64 gr, .int .i64 mn, .int .i64 mx, .int .u8 md, .int .u8 sp, .bool ng] 28) := ⟨_, rfl⟩
  have hs1 : W1.heap.size = w.heap.size + 1 := by rw [hW1, World.size_alloc]
  have hb1 : Below w.heap.size w W1 := by rw [hW1]; exact bl_alloc _ _
  rw [← hW1] at hA
  have hA2 := hA.below (bl_alloc W1 (.cells #[.int .u8 1, .slice x.ps ls x.cs, .slice x.pk lk x.ck, .int .i64 gr, .int .i64 mn, .int .i64 mx, .int .u8 md, .int .u8 sp, .bool ng] 28))
  obtain ⟨a0, _, a2, _, _, _, _, _, _⟩ := nine hA2
  rw [hW1] at a0 a2
  obtain ⟨W2, hW2⟩ : ∃ W, W = W1.alloc (.cells #[.int .u8 1, .slice x.ps ls x.cs, .slice x.pk lk x.ck, .int .i64 gr, .int .i64 mn, .int .i64 mx, .int .u8 md, .int .u8 sp, .bool ng] 28) := ⟨_, rfl⟩
  have hb2 : Below W1.heap.size W1 W2 := by rw [hW2]; exact bl_alloc _ _
  have hb02 : Below w.heap.size w W2 := bl_trans hb1 hb2
  have hB := Bx.new W1 28 #[.int .u8 1, .slice x.ps ls x.cs, .slice x.pk lk x.ck, .int .i64 gr, .int .i64 mn, .int .i64 mx, .int .u8 md, .int .u8 sp, .bool ng]
  rw [hs1] at hB
  obtain ⟨b0, b1, b2, b3, b4, b5, b6, b7, b8⟩ := nine hB
  rw [hW1] at b0 b1 b2 b3 b4 b5 b6 b7 b8
  have hbr := rbare_any (id x) W2
  rw [show (encN (id x)).toArray = #[.int .u8 1, .slice x.ps ls x.cs, .slice x.pk lk x.ck, .int .i64 gr, .int .i64 mn, .int .i64 mx, .int .u8 md, .int .u8 sp, .bool ng] from (by rw [show (id x : NV) = x from rfl, h, hk, ← hgr, ← hmn, ← hmx, ← hmd, ← hsp, ← hng]), ← hbb] at hbr
  have HBR := Lib.hid hbr
  have HA := Lib.hid (hA.below hb2)
  have HIN := Lib.hid (hI.below hb02)
  have HB02 := Lib.hid hb02
  have HWE : Hid ((w.alloc (.cells #[.int .u8 1, .slice x.ps ls x.cs, .slice x.pk lk x.ck, .int .i64 gr, .int .i64 mn, .int .i64 mx, .int .u8 md, .int .u8 sp, .bool ng] 28)).alloc (.cells #[.int .u8 1, .slice x.ps ls x.cs, .slice x.pk lk x.ck, .int .i64 gr, .int .i64 mn, .int .i64 mx, .int .u8 md, .int .u8 sp, .bool ng] 28) = W2) := by show _ = _; rw [hW2, hW1]
  have HLS := Lib.hid (And.intro hls hf)
  clear h hk hbb hA hW1 hs1 hb1 hA2 hW2 hb2 hb02 hB hbr hI hgr hmn hmx hmd hsp hng hls hlk hf
  by_cases h1 : lk = 0
  · have e1 : ((lk : Int) == 0) = true := by simp; omega
    have HH1 := Lib.hid h1
    clear h1
    go_enter Tryz.func135, Tryz.ntmps135
    go_wp2_with fail
    rw [HWE.out]
    refine (HBR.out).mono ?_
    rintro e w3 ⟨rfl, hb3⟩
    have HB3 := Lib.hid (bl_trans HB02.out hb3)
    have HA3 := Lib.hid (HA.out.below hb3)
    have HI3 := Lib.hid (HIN.out.below hb3)
    obtain ⟨d0, d1, d2, d3, d4, d5, d6, d7, d8⟩ := nine HA3.out
    clear hb3
    cases bb with
    | false =>
      have HF : Hid (rkindN x.nd = false) := by show _ = _; rw [HK.out]; simp
      go_wp2
      go_ret
      exact ⟨by rw [HF.out]; rfl, HB3.out⟩
    | true =>
      have HF : Hid (rkindN x.nd = true) := by show _ = _; rw [HK.out]; simp [HH1.out]
      go_wp2
      go_ret
      exact ⟨by rw [HF.out]; rfl, HB3.out⟩
  · have e1 : ((lk : Int) == 0) = false := by simp; omega
    have HF : Hid (rkindN x.nd = false) := by show _ = _; rw [HK.out]; simp [h1]
    clear h1
    go_enter Tryz.func135, Tryz.ntmps135
    go_wp2_with fail
    rw [HWE.out]
    go_ret
    exact ⟨by rw [HF.out]; rfl, HB02.out⟩
set_option maxHeartbeats 3200000 in
set_option maxRecDepth 100000 in
theorem rkind_2 (x : NV) (w : World) (hI : NodeIn w x) (hf : x.nd.kids.length ≤ 1000000 ∧ x.nd.set.length ≤ 1000000) (hk : x.nd.kind = 2) :
    Calls Tryz.prog 135 #[.agg (encN x).toArray] w fun e w' => e = .returned (.bool (rkindN x.nd)) ∧ Below w.heap.size w w' := by
  obtain ⟨ls, lk, hls, hlk, h⟩ := node_lit2 x
  unfold NodeLit at h
  rw [h, hk]
  obtain ⟨gr, hgr⟩ : ∃ z, z = x.nd.group := ⟨_, rfl⟩
  obtain ⟨mn, hmn⟩ : ∃ z, z = x.nd.mn := ⟨_, rfl⟩
  obtain ⟨mx, hmx⟩ : ∃ z, z = x.nd.mx := ⟨_, rfl⟩
  obtain ⟨md, hmd⟩ : ∃ z, z = x.nd.mode := ⟨_, rfl⟩
  obtain ⟨sp, hsp⟩ : ∃ z, z = x.nd.spot := ⟨_, rfl⟩
  obtain ⟨ng, hng⟩ : ∃ z, z = x.nd.neg := ⟨_, rfl⟩
  rw [← hgr, ← hmn, ← hmx, ← hmd, ← hsp, ← hng]
  obtain ⟨bb, hbb⟩ : ∃ b : Bool, b = bareB (noSet x).nd := ⟨_, rfl⟩
  have HK : Hid (rkindN x.nd = (decide (lk = 0) && (bb && (decide (ls ≤ 2000) && rightB x.nd.set)))) := by
    show _ = _
    unfold rkindN
    rw [hk, hbb, hlk, hls]; rfl
  have hA := Bx.new w 28 #[.int .u8 2, .slice x.ps ls x.cs, .slice x.pk lk x.ck, .int .i64 gr, .int .i64 mn, .int .i64 mx, .int .u8 md, .int .u8 sp, .bool ng]
  obtain ⟨W1, hW1⟩ : ∃ W, W = w.alloc (.cells #[.int .u8 2, .slice x.ps ls x.cs, .slice x.pk lk x.ck, .int .i64 gr, .int .i64 mn, .int .i64 mx, .int .u8 md, .int .u8 sp, .bool ng] 28) := ⟨_, rfl⟩
  have hs1 : W1.heap.size = w.heap.size + 1 := by rw [hW1, World.size_alloc]
  have hb1 : Below w.heap.size w W1 := by rw [hW1]; exact bl_alloc _ _
  rw [← hW1] at hA
  have hA2 := hA.below (bl_alloc W1 (.cells #[.int .u8 2, .slice x.ps ls x.cs, .slice x.pk lk x.ck, .int .i64 gr, .int .i64 mn, .int .i64 mx, .int .u8 md, .int .u8 sp, .bool ng] 28))
  obtain ⟨a0, _, a2, _, _, _, _, _, _⟩ := nine hA2
  rw [hW1] at a0 a2
  obtain ⟨W2, hW2⟩ : ∃ W, W = W1.alloc (.cells #[.int .u8 2, .slice none 0 0, .slice x.pk lk x.ck, .int .i64 gr, .int .i64 mn, .int .i64 mx, .int .u8 md, .int .u8 sp, .bool ng] 28) := ⟨_, rfl⟩
  have hb2 : Below W1.heap.size W1 W2 := by rw [hW2]; exact bl_alloc _ _
  have hb02 : Below w.heap.size w W2 := bl_trans hb1 hb2
  have hB := Bx.new W1 28 #[.int .u8 2, .slice none 0 0, .slice x.pk lk x.ck, .int .i64 gr, .int .i64 mn, .int .i64 mx, .int .u8 md, .int .u8 sp, .bool ng]
  rw [hs1] at hB
  obtain ⟨b0, b1, b2, b3, b4, b5, b6, b7, b8⟩ := nine hB
  rw [hW1] at b0 b1 b2 b3 b4 b5 b6 b7 b8
  have hbr := rbare_any (noSet x) W2
  rw [show (encN (noSet x)).toArray = #[.int .u8 2, .slice none 0 0, .slice x.pk lk x.ck, .int .i64 gr, .int .i64 mn, .int .i64 mx, .int .u8 md, .int .u8 sp, .bool ng] from (by unfold encN noSet; simp only [hlk, hgr, hmn, hmx, hmd, hsp, hng, hk]; try rfl), ← hbb] at hbr
  have HBR := Lib.hid hbr
  have HA := Lib.hid (hA.below hb2)
  have HIN := Lib.hid (hI.below hb02)
  have HB02 := Lib.hid hb02
  have HWE : Hid ((w.alloc (.cells #[.int .u8 2, .slice x.ps ls x.cs, .slice x.pk lk x.ck, .int .i64 gr, .int .i64 mn, .int .i64 mx, .int .u8 md, .int .u8 sp, .bool ng] 28)).alloc (.cells #[.int .u8 2, .slice none 0 0, .slice x.pk lk x.ck, .int .i64 gr, .int .i64 mn, .int .i64 mx, .int .u8 md, .int .u8 sp, .bool ng] 28) = W2) := by show _ = _; rw [hW2, hW1]
  have HLS := Lib.hid (And.intro hls hf)
  clear h hk hbb hA hW1 hs1 hb1 hA2 hW2 hb2 hb02 hB hbr hI hgr hmn hmx hmd hsp hng hls hlk hf
  by_cases h1 : lk = 0
  · have e1 : ((lk : Int) == 0) = true := by simp; omega
    have HH1 := Lib.hid h1
    clear h1
    go_enter Tryz.func135, Tryz.ntmps135
    go_wp2_with fail
    rw [HWE.out]
    refine (HBR.out).mono ?_
    rintro e w3 ⟨rfl, hb3⟩
    have HB3 := Lib.hid (bl_trans HB02.out hb3)
    have HA3 := Lib.hid (HA.out.below hb3)
    have HI3 := Lib.hid (HIN.out.below hb3)
    obtain ⟨d0, d1, d2, d3, d4, d5, d6, d7, d8⟩ := nine HA3.out
    clear hb3
    cases bb with
    | false =>
      have HF : Hid (rkindN x.nd = false) := by show _ = _; rw [HK.out]; simp
      go_wp2
      go_ret
      exact ⟨by rw [HF.out]; rfl, HB3.out⟩
    | true =>
      by_cases h2 : ls ≤ 2000
      · have e2 : decide ((ls : Int) ≤ 2000) = true := by simp; omega
        obtain ⟨rb, hrb⟩ : ∃ b : Bool, b = rightB x.nd.set := ⟨_, rfl⟩
        have HR := Lib.hid (rright_any x.ps x.cs ls x.nd.set w3 HLS.out.1 HI3.out.set (by have := HLS.out.2.2; omega))
        rw [← hrb] at HR HK
        have HH2 := Lib.hid h2
        clear hrb h2
        go_wp2_with fail
        refine (HR.out).mono ?_
        rintro e w4 ⟨rfl, hb4⟩
        have HB4 := Lib.hid (bl_trans HB3.out hb4)
        clear hb4
        have HF : Hid (rkindN x.nd = rb) := by show _ = _; rw [HK.out]; simp [HH2.out, HH1.out]
        go_wp2
        go_ret
        exact ⟨by rw [HF.out]; rfl, HB4.out⟩
      · have e2 : decide ((ls : Int) ≤ 2000) = false := by simp; omega
        have HF : Hid (rkindN x.nd = false) := by show _ = _; rw [HK.out]; simp; omega
        go_wp2
        go_ret
        exact ⟨by rw [HF.out]; rfl, HB3.out⟩
  · have e1 : ((lk : Int) == 0) = false := by simp; omega
    have HF : Hid (rkindN x.nd = false) := by show _ = _; rw [HK.out]; simp [h1]
    clear h1
    go_enter Tryz.func135, Tryz.ntmps135
    go_wp2_with fail
    rw [HWE.out]
    go_ret
    exact ⟨by rw [HF.out]; rfl, HB02.out⟩
set_option maxHeartbeats 3200000 in
set_option maxRecDepth 100000 in
theorem rkind_3 (x : NV) (w : World) (hI : NodeIn w x) (hf : x.nd.kids.length ≤ 1000000 ∧ x.nd.set.length ≤ 1000000) (hk : x.nd.kind = 3) :
    Calls Tryz.prog 135 #[.agg (encN x).toArray] w fun e w' => e = .returned (.bool (rkindN x.nd)) ∧ Below w.heap.size w w' := by
  obtain ⟨ls, lk, hls, hlk, h⟩ := node_lit2 x
  unfold NodeLit at h
  rw [h, hk]
  obtain ⟨gr, hgr⟩ : ∃ z, z = x.nd.group := ⟨_, rfl⟩
  obtain ⟨mn, hmn⟩ : ∃ z, z = x.nd.mn := ⟨_, rfl⟩
  obtain ⟨mx, hmx⟩ : ∃ z, z = x.nd.mx := ⟨_, rfl⟩
  obtain ⟨md, hmd⟩ : ∃ z, z = x.nd.mode := ⟨_, rfl⟩
  obtain ⟨sp, hsp⟩ : ∃ z, z = x.nd.spot := ⟨_, rfl⟩
  obtain ⟨ng, hng⟩ : ∃ z, z = x.nd.neg := ⟨_, rfl⟩
  rw [← hgr, ← hmn, ← hmx, ← hmd, ← hsp, ← hng]
  obtain ⟨bb, hbb⟩ : ∃ b : Bool, b = bareB (id x).nd := ⟨_, rfl⟩
  have HK : Hid (rkindN x.nd = (decide (2 ≤ lk) && (bb))) := by
    show _ = _
    unfold rkindN
    rw [hk, hbb, hlk]; rfl
  have hA := Bx.new w 28 #[.int .u8 3, .slice x.ps ls x.cs, .slice x.pk lk x.ck, .int .i64 gr, .int .i64 mn, .int .i64 mx, .int .u8 md, .int .u8 sp, .bool ng]
  obtain ⟨W1, hW1⟩ : ∃ W, W = w.alloc (.cells #[.int .u8 3, .slice x.ps ls x.cs, .slice x.pk lk x.ck, .int .i64 gr, .int .i64 mn, .int .i64 mx, .int .u8 md, .int .u8 sp, .bool ng] 28) := ⟨_, rfl⟩
  have hs1 : W1.heap.size = w.heap.size + 1 := by rw [hW1, World.size_alloc]
  have hb1 : Below w.heap.size w W1 := by rw [hW1]; exact bl_alloc _ _
  rw [← hW1] at hA
  have hA2 := hA.below (bl_alloc W1 (.cells #[.int .u8 3, .slice x.ps ls x.cs, .slice x.pk lk x.ck, .int .i64 gr, .int .i64 mn, .int .i64 mx, .int .u8 md, .int .u8 sp, .bool ng] 28))
  obtain ⟨a0, _, a2, _, _, _, _, _, _⟩ := nine hA2
  rw [hW1] at a0 a2
  obtain ⟨W2, hW2⟩ : ∃ W, W = W1.alloc (.cells #[.int .u8 3, .slice x.ps ls x.cs, .slice x.pk lk x.ck, .int .i64 gr, .int .i64 mn, .int .i64 mx, .int .u8 md, .int .u8 sp, .bool ng] 28) := ⟨_, rfl⟩
  have hb2 : Below W1.heap.size W1 W2 := by rw [hW2]; exact bl_alloc _ _
  have hb02 : Below w.heap.size w W2 := bl_trans hb1 hb2
  have hB := Bx.new W1 28 #[.int .u8 3, .slice x.ps ls x.cs, .slice x.pk lk x.ck, .int .i64 gr, .int .i64 mn, .int .i64 mx, .int .u8 md, .int .u8 sp, .bool ng]
  rw [hs1] at hB
  obtain ⟨b0, b1, b2, b3, b4, b5, b6, b7, b8⟩ := nine hB
  rw [hW1] at b0 b1 b2 b3 b4 b5 b6 b7 b8
  have hbr := rbare_any (id x) W2
  rw [show (encN (id x)).toArray = #[.int .u8 3, .slice x.ps ls x.cs, .slice x.pk lk x.ck, .int .i64 gr, .int .i64 mn, .int .i64 mx, .int .u8 md, .int .u8 sp, .bool ng] from (by rw [show (id x : NV) = x from rfl, h, hk, ← hgr, ← hmn, ← hmx, ← hmd, ← hsp, ← hng]), ← hbb] at hbr
  have HBR := Lib.hid hbr
  have HA := Lib.hid (hA.below hb2)
  have HIN := Lib.hid (hI.below hb02)
  have HB02 := Lib.hid hb02
  have HWE : Hid ((w.alloc (.cells #[.int .u8 3, .slice x.ps ls x.cs, .slice x.pk lk x.ck, .int .i64 gr, .int .i64 mn, .int .i64 mx, .int .u8 md, .int .u8 sp, .bool ng] 28)).alloc (.cells #[.int .u8 3, .slice x.ps ls x.cs, .slice x.pk lk x.ck, .int .i64 gr, .int .i64 mn, .int .i64 mx, .int .u8 md, .int .u8 sp, .bool ng] 28) = W2) := by show _ = _; rw [hW2, hW1]
  have HLS := Lib.hid (And.intro hls hf)
  clear h hk hbb hA hW1 hs1 hb1 hA2 hW2 hb2 hb02 hB hbr hI hgr hmn hmx hmd hsp hng hls hlk hf
  by_cases h1 : 2 ≤ lk
  · have e1 : decide (2 ≤ (lk : Int)) = true := by simp; omega
    have HH1 := Lib.hid h1
    clear h1
    go_enter Tryz.func135, Tryz.ntmps135
    go_wp2_with fail
    rw [HWE.out]
    refine (HBR.out).mono ?_
    rintro e w3 ⟨rfl, hb3⟩
    have HB3 := Lib.hid (bl_trans HB02.out hb3)
    have HA3 := Lib.hid (HA.out.below hb3)
    have HI3 := Lib.hid (HIN.out.below hb3)
    obtain ⟨d0, d1, d2, d3, d4, d5, d6, d7, d8⟩ := nine HA3.out
    clear hb3
    cases bb with
    | false =>
      have HF : Hid (rkindN x.nd = false) := by show _ = _; rw [HK.out]; simp
      go_wp2
      go_ret
      exact ⟨by rw [HF.out]; rfl, HB3.out⟩
    | true =>
      have HF : Hid (rkindN x.nd = true) := by show _ = _; rw [HK.out]; simp [HH1.out]
      go_wp2
      go_ret
      exact ⟨by rw [HF.out]; rfl, HB3.out⟩
  · have e1 : decide (2 ≤ (lk : Int)) = false := by simp; omega
    have HF : Hid (rkindN x.nd = false) := by show _ = _; rw [HK.out]; simp [h1]
    clear h1
    go_enter Tryz.func135, Tryz.ntmps135
    go_wp2_with fail
    rw [HWE.out]
    go_ret
    exact ⟨by rw [HF.out]; rfl, HB02.out⟩
set_option maxHeartbeats 3200000 in
set_option maxRecDepth 100000 in
theorem rkind_4 (x : NV) (w : World) (hI : NodeIn w x) (hf : x.nd.kids.length ≤ 1000000 ∧ x.nd.set.length ≤ 1000000) (hk : x.nd.kind = 4) :
    Calls Tryz.prog 135 #[.agg (encN x).toArray] w fun e w' => e = .returned (.bool (rkindN x.nd)) ∧ Below w.heap.size w w' := by
  obtain ⟨ls, lk, hls, hlk, h⟩ := node_lit2 x
  unfold NodeLit at h
  rw [h, hk]
  obtain ⟨gr, hgr⟩ : ∃ z, z = x.nd.group := ⟨_, rfl⟩
  obtain ⟨mn, hmn⟩ : ∃ z, z = x.nd.mn := ⟨_, rfl⟩
  obtain ⟨mx, hmx⟩ : ∃ z, z = x.nd.mx := ⟨_, rfl⟩
  obtain ⟨md, hmd⟩ : ∃ z, z = x.nd.mode := ⟨_, rfl⟩
  obtain ⟨sp, hsp⟩ : ∃ z, z = x.nd.spot := ⟨_, rfl⟩
  obtain ⟨ng, hng⟩ : ∃ z, z = x.nd.neg := ⟨_, rfl⟩
  rw [← hgr, ← hmn, ← hmx, ← hmd, ← hsp, ← hng]
  obtain ⟨bb, hbb⟩ : ∃ b : Bool, b = bareB (id x).nd := ⟨_, rfl⟩
  have HK : Hid (rkindN x.nd = (decide (2 ≤ lk) && (bb))) := by
    show _ = _
    unfold rkindN
    rw [hk, hbb, hlk]; rfl
  have hA := Bx.new w 28 #[.int .u8 4, .slice x.ps ls x.cs, .slice x.pk lk x.ck, .int .i64 gr, .int .i64 mn, .int .i64 mx, .int .u8 md, .int .u8 sp, .bool ng]
  obtain ⟨W1, hW1⟩ : ∃ W, W = w.alloc (.cells #[.int .u8 4, .slice x.ps ls x.cs, .slice x.pk lk x.ck, .int .i64 gr, .int .i64 mn, .int .i64 mx, .int .u8 md, .int .u8 sp, .bool ng] 28) := ⟨_, rfl⟩
  have hs1 : W1.heap.size = w.heap.size + 1 := by rw [hW1, World.size_alloc]
  have hb1 : Below w.heap.size w W1 := by rw [hW1]; exact bl_alloc _ _
  rw [← hW1] at hA
  have hA2 := hA.below (bl_alloc W1 (.cells #[.int .u8 4, .slice x.ps ls x.cs, .slice x.pk lk x.ck, .int .i64 gr, .int .i64 mn, .int .i64 mx, .int .u8 md, .int .u8 sp, .bool ng] 28))
  obtain ⟨a0, _, a2, _, _, _, _, _, _⟩ := nine hA2
  rw [hW1] at a0 a2
  obtain ⟨W2, hW2⟩ : ∃ W, W = W1.alloc (.cells #[.int .u8 4, .slice x.ps ls x.cs, .slice x.pk lk x.ck, .int .i64 gr, .int .i64 mn, .int .i64 mx, .int .u8 md, .int .u8 sp, .bool ng] 28) := ⟨_, rfl⟩
  have hb2 : Below W1.heap.size W1 W2 := by rw [hW2]; exact bl_alloc _ _
  have hb02 : Below w.heap.size w W2 := bl_trans hb1 hb2
  have hB := Bx.new W1 28 #[.int .u8 4, .slice x.ps ls x.cs, .slice x.pk lk x.ck, .int .i64 gr, .int .i64 mn, .int .i64 mx, .int .u8 md, .int .u8 sp, .bool ng]
  rw [hs1] at hB
  obtain ⟨b0, b1, b2, b3, b4, b5, b6, b7, b8⟩ := nine hB
  rw [hW1] at b0 b1 b2 b3 b4 b5 b6 b7 b8
  have hbr := rbare_any (id x) W2
  rw [show (encN (id x)).toArray = #[.int .u8 4, .slice x.ps ls x.cs, .slice x.pk lk x.ck, .int .i64 gr, .int .i64 mn, .int .i64 mx, .int .u8 md, .int .u8 sp, .bool ng] from (by rw [show (id x : NV) = x from rfl, h, hk, ← hgr, ← hmn, ← hmx, ← hmd, ← hsp, ← hng]), ← hbb] at hbr
  have HBR := Lib.hid hbr
  have HA := Lib.hid (hA.below hb2)
  have HIN := Lib.hid (hI.below hb02)
  have HB02 := Lib.hid hb02
  have HWE : Hid ((w.alloc (.cells #[.int .u8 4, .slice x.ps ls x.cs, .slice x.pk lk x.ck, .int .i64 gr, .int .i64 mn, .int .i64 mx, .int .u8 md, .int .u8 sp, .bool ng] 28)).alloc (.cells #[.int .u8 4, .slice x.ps ls x.cs, .slice x.pk lk x.ck, .int .i64 gr, .int .i64 mn, .int .i64 mx, .int .u8 md, .int .u8 sp, .bool ng] 28) = W2) := by show _ = _; rw [hW2, hW1]
  have HLS := Lib.hid (And.intro hls hf)
  clear h hk hbb hA hW1 hs1 hb1 hA2 hW2 hb2 hb02 hB hbr hI hgr hmn hmx hmd hsp hng hls hlk hf
  by_cases h1 : 2 ≤ lk
  · have e1 : decide (2 ≤ (lk : Int)) = true := by simp; omega
    have HH1 := Lib.hid h1
    clear h1
    go_enter Tryz.func135, Tryz.ntmps135
    go_wp2_with fail
    rw [HWE.out]
    refine (HBR.out).mono ?_
    rintro e w3 ⟨rfl, hb3⟩
    have HB3 := Lib.hid (bl_trans HB02.out hb3)
    have HA3 := Lib.hid (HA.out.below hb3)
    have HI3 := Lib.hid (HIN.out.below hb3)
    obtain ⟨d0, d1, d2, d3, d4, d5, d6, d7, d8⟩ := nine HA3.out
    clear hb3
    cases bb with
    | false =>
      have HF : Hid (rkindN x.nd = false) := by show _ = _; rw [HK.out]; simp
      go_wp2
      go_ret
      exact ⟨by rw [HF.out]; rfl, HB3.out⟩
    | true =>
      have HF : Hid (rkindN x.nd = true) := by show _ = _; rw [HK.out]; simp [HH1.out]
      go_wp2
      go_ret
      exact ⟨by rw [HF.out]; rfl, HB3.out⟩
  · have e1 : decide (2 ≤ (lk : Int)) = false := by simp; omega
    have HF : Hid (rkindN x.nd = false) := by show _ = _; rw [HK.out]; simp [h1]
    clear h1
    go_enter Tryz.func135, Tryz.ntmps135
    go_wp2_with fail
    rw [HWE.out]
    go_ret
    exact ⟨by rw [HF.out]; rfl, HB02.out⟩
set_option maxHeartbeats 3200000 in
set_option maxRecDepth 100000 in
theorem rkind_5 (x : NV) (w : World) (hI : NodeIn w x) (hf : x.nd.kids.length ≤ 1000000 ∧ x.nd.set.length ≤ 1000000) (hk : x.nd.kind = 5) :
    Calls Tryz.prog 135 #[.agg (encN x).toArray] w fun e w' => e = .returned (.bool (rkindN x.nd)) ∧ Below w.heap.size w w' := by
  obtain ⟨ls, lk, hls, hlk, h⟩ := node_lit2 x
  unfold NodeLit at h
  rw [h, hk]
  obtain ⟨gr, hgr⟩ : ∃ z, z = x.nd.group := ⟨_, rfl⟩
  obtain ⟨mn, hmn⟩ : ∃ z, z = x.nd.mn := ⟨_, rfl⟩
  obtain ⟨mx, hmx⟩ : ∃ z, z = x.nd.mx := ⟨_, rfl⟩
  obtain ⟨md, hmd⟩ : ∃ z, z = x.nd.mode := ⟨_, rfl⟩
  obtain ⟨sp, hsp⟩ : ∃ z, z = x.nd.spot := ⟨_, rfl⟩
  obtain ⟨ng, hng⟩ : ∃ z, z = x.nd.neg := ⟨_, rfl⟩
  rw [← hgr, ← hmn, ← hmx, ← hmd, ← hsp, ← hng]
  obtain ⟨bb, hbb⟩ : ∃ b : Bool, b = bareB (noGroup x).nd := ⟨_, rfl⟩
  have HK : Hid (rkindN x.nd = (decide (lk = 1) && (bb))) := by
    show _ = _
    unfold rkindN
    rw [hk, hbb, hlk]; rfl
  have hA := Bx.new w 28 #[.int .u8 5, .slice x.ps ls x.cs, .slice x.pk lk x.ck, .int .i64 gr, .int .i64 mn, .int .i64 mx, .int .u8 md, .int .u8 sp, .bool ng]
  obtain ⟨W1, hW1⟩ : ∃ W, W = w.alloc (.cells #[.int .u8 5, .slice x.ps ls x.cs, .slice x.pk lk x.ck, .int .i64 gr, .int .i64 mn, .int .i64 mx, .int .u8 md, .int .u8 sp, .bool ng] 28) := ⟨_, rfl⟩
  have hs1 : W1.heap.size = w.heap.size + 1 := by rw [hW1, World.size_alloc]
  have hb1 : Below w.heap.size w W1 := by rw [hW1]; exact bl_alloc _ _
  rw [← hW1] at hA
  have hA2 := hA.below (bl_alloc W1 (.cells #[.int .u8 5, .slice x.ps ls x.cs, .slice x.pk lk x.ck, .int .i64 gr, .int .i64 mn, .int .i64 mx, .int .u8 md, .int .u8 sp, .bool ng] 28))
  obtain ⟨a0, _, a2, _, _, _, _, _, _⟩ := nine hA2
  rw [hW1] at a0 a2
  obtain ⟨W2, hW2⟩ : ∃ W, W = W1.alloc (.cells #[.int .u8 5, .slice x.ps ls x.cs, .slice x.pk lk x.ck, .int .i64 0, .int .i64 mn, .int .i64 mx, .int .u8 md, .int .u8 sp, .bool ng] 28) := ⟨_, rfl⟩
  have hb2 : Below W1.heap.size W1 W2 := by rw [hW2]; exact bl_alloc _ _
  have hb02 : Below w.heap.size w W2 := bl_trans hb1 hb2
  have hB := Bx.new W1 28 #[.int .u8 5, .slice x.ps ls x.cs, .slice x.pk lk x.ck, .int .i64 0, .int .i64 mn, .int .i64 mx, .int .u8 md, .int .u8 sp, .bool ng]
  rw [hs1] at hB
  obtain ⟨b0, b1, b2, b3, b4, b5, b6, b7, b8⟩ := nine hB
  rw [hW1] at b0 b1 b2 b3 b4 b5 b6 b7 b8
  have hbr := rbare_any (noGroup x) W2
  rw [show (encN (noGroup x)).toArray = #[.int .u8 5, .slice x.ps ls x.cs, .slice x.pk lk x.ck, .int .i64 0, .int .i64 mn, .int .i64 mx, .int .u8 md, .int .u8 sp, .bool ng] from (by unfold encN noGroup; simp only [hls, hlk, hmn, hmx, hmd, hsp, hng, hk]; try rfl), ← hbb] at hbr
  have HBR := Lib.hid hbr
  have HA := Lib.hid (hA.below hb2)
  have HIN := Lib.hid (hI.below hb02)
  have HB02 := Lib.hid hb02
  have HWE : Hid ((w.alloc (.cells #[.int .u8 5, .slice x.ps ls x.cs, .slice x.pk lk x.ck, .int .i64 gr, .int .i64 mn, .int .i64 mx, .int .u8 md, .int .u8 sp, .bool ng] 28)).alloc (.cells #[.int .u8 5, .slice x.ps ls x.cs, .slice x.pk lk x.ck, .int .i64 0, .int .i64 mn, .int .i64 mx, .int .u8 md, .int .u8 sp, .bool ng] 28) = W2) := by show _ = _; rw [hW2, hW1]
  have HLS := Lib.hid (And.intro hls hf)
  clear h hk hbb hA hW1 hs1 hb1 hA2 hW2 hb2 hb02 hB hbr hI hgr hmn hmx hmd hsp hng hls hlk hf
  by_cases h1 : lk = 1
  · have e1 : ((lk : Int) == 1) = true := by simp; omega
    have HH1 := Lib.hid h1
    clear h1
    go_enter Tryz.func135, Tryz.ntmps135
    go_wp2_with fail
    rw [HWE.out]
    refine (HBR.out).mono ?_
    rintro e w3 ⟨rfl, hb3⟩
    have HB3 := Lib.hid (bl_trans HB02.out hb3)
    have HA3 := Lib.hid (HA.out.below hb3)
    have HI3 := Lib.hid (HIN.out.below hb3)
    obtain ⟨d0, d1, d2, d3, d4, d5, d6, d7, d8⟩ := nine HA3.out
    clear hb3
    cases bb with
    | false =>
      have HF : Hid (rkindN x.nd = false) := by show _ = _; rw [HK.out]; simp
      go_wp2
      go_ret
      exact ⟨by rw [HF.out]; rfl, HB3.out⟩
    | true =>
      have HF : Hid (rkindN x.nd = true) := by show _ = _; rw [HK.out]; simp [HH1.out]
      go_wp2
      go_ret
      exact ⟨by rw [HF.out]; rfl, HB3.out⟩
  · have e1 : ((lk : Int) == 1) = false := by simp; omega
    have HF : Hid (rkindN x.nd = false) := by show _ = _; rw [HK.out]; simp [h1]
    clear h1
    go_enter Tryz.func135, Tryz.ntmps135
    go_wp2_with fail
    rw [HWE.out]
    go_ret
    exact ⟨by rw [HF.out]; rfl, HB02.out⟩
set_option maxHeartbeats 3200000 in
set_option maxRecDepth 100000 in
theorem rkind_6 (x : NV) (w : World) (hI : NodeIn w x) (hf : x.nd.kids.length ≤ 1000000 ∧ x.nd.set.length ≤ 1000000) (hk : x.nd.kind = 6) :
    Calls Tryz.prog 135 #[.agg (encN x).toArray] w fun e w' => e = .returned (.bool (rkindN x.nd)) ∧ Below w.heap.size w w' := by
  obtain ⟨ls, lk, hls, hlk, h⟩ := node_lit2 x
  unfold NodeLit at h
  rw [h, hk]
  obtain ⟨gr, hgr⟩ : ∃ z, z = x.nd.group := ⟨_, rfl⟩
  obtain ⟨mn, hmn⟩ : ∃ z, z = x.nd.mn := ⟨_, rfl⟩
  obtain ⟨mx, hmx⟩ : ∃ z, z = x.nd.mx := ⟨_, rfl⟩
  obtain ⟨md, hmd⟩ : ∃ z, z = x.nd.mode := ⟨_, rfl⟩
  obtain ⟨sp, hsp⟩ : ∃ z, z = x.nd.spot := ⟨_, rfl⟩
  obtain ⟨ng, hng⟩ : ∃ z, z = x.nd.neg := ⟨_, rfl⟩
  rw [← hgr, ← hmn, ← hmx, ← hmd, ← hsp, ← hng]
  obtain ⟨bb, hbb⟩ : ∃ b : Bool, b = bareB (id x).nd := ⟨_, rfl⟩
  have HK : Hid (rkindN x.nd = (decide (lk = 1) && (bb))) := by
    show _ = _
    unfold rkindN
    rw [hk, hbb, hlk]; rfl
  have hA := Bx.new w 28 #[.int .u8 6, .slice x.ps ls x.cs, .slice x.pk lk x.ck, .int .i64 gr, .int .i64 mn, .int .i64 mx, .int .u8 md, .int .u8 sp, .bool ng]
  obtain ⟨W1, hW1⟩ : ∃ W, W = w.alloc (.cells #[.int .u8 6, .slice x.ps ls x.cs, .slice x.pk lk x.ck, .int .i64 gr, .int .i64 mn, .int .i64 mx, .int .u8 md, .int .u8 sp, .bool ng] 28) := ⟨_, rfl⟩
  have hs1 : W1.heap.size = w.heap.size + 1 := by rw [hW1, World.size_alloc]
  have hb1 : Below w.heap.size w W1 := by rw [hW1]; exact bl_alloc _ _
  rw [← hW1] at hA
  have hA2 := hA.below (bl_alloc W1 (.cells #[.int .u8 6, .slice x.ps ls x.cs, .slice x.pk lk x.ck, .int .i64 gr, .int .i64 mn, .int .i64 mx, .int .u8 md, .int .u8 sp, .bool ng] 28))
  obtain ⟨a0, _, a2, _, _, _, _, _, _⟩ := nine hA2
  rw [hW1] at a0 a2
  obtain ⟨W2, hW2⟩ : ∃ W, W = W1.alloc (.cells #[.int .u8 6, .slice x.ps ls x.cs, .slice x.pk lk x.ck, .int .i64 gr, .int .i64 mn, .int .i64 mx, .int .u8 md, .int .u8 sp, .bool ng] 28) := ⟨_, rfl⟩
  have hb2 : Below W1.heap.size W1 W2 := by rw [hW2]; exact bl_alloc _ _
  have hb02 : Below w.heap.size w W2 := bl_trans hb1 hb2
  have hB := Bx.new W1 28 #[.int .u8 6, .slice x.ps ls x.cs, .slice x.pk lk x.ck, .int .i64 gr, .int .i64 mn, .int .i64 mx, .int .u8 md, .int .u8 sp, .bool ng]
  rw [hs1] at hB
  obtain ⟨b0, b1, b2, b3, b4, b5, b6, b7, b8⟩ := nine hB
  rw [hW1] at b0 b1 b2 b3 b4 b5 b6 b7 b8
  have hbr := rbare_any (id x) W2
  rw [show (encN (id x)).toArray = #[.int .u8 6, .slice x.ps ls x.cs, .slice x.pk lk x.ck, .int .i64 gr, .int .i64 mn, .int .i64 mx, .int .u8 md, .int .u8 sp, .bool ng] from (by rw [show (id x : NV) = x from rfl, h, hk, ← hgr, ← hmn, ← hmx, ← hmd, ← hsp, ← hng]), ← hbb] at hbr
  have HBR := Lib.hid hbr
  have HA := Lib.hid (hA.below hb2)
  have HIN := Lib.hid (hI.below hb02)
  have HB02 := Lib.hid hb02
  have HWE : Hid ((w.alloc (.cells #[.int .u8 6, .slice x.ps ls x.cs, .slice x.pk lk x.ck, .int .i64 gr, .int .i64 mn, .int .i64 mx, .int .u8 md, .int .u8 sp, .bool ng] 28)).alloc (.cells #[.int .u8 6, .slice x.ps ls x.cs, .slice x.pk lk x.ck, .int .i64 gr, .int .i64 mn, .int .i64 mx, .int .u8 md, .int .u8 sp, .bool ng] 28) = W2) := by show _ = _; rw [hW2, hW1]
  have HLS := Lib.hid (And.intro hls hf)
  clear h hk hbb hA hW1 hs1 hb1 hA2 hW2 hb2 hb02 hB hbr hI hgr hmn hmx hmd hsp hng hls hlk hf
  by_cases h1 : lk = 1
  · have e1 : ((lk : Int) == 1) = true := by simp; omega
    have HH1 := Lib.hid h1
    clear h1
    go_enter Tryz.func135, Tryz.ntmps135
    go_wp2_with fail
    rw [HWE.out]
    refine (HBR.out).mono ?_
    rintro e w3 ⟨rfl, hb3⟩
    have HB3 := Lib.hid (bl_trans HB02.out hb3)
    have HA3 := Lib.hid (HA.out.below hb3)
    have HI3 := Lib.hid (HIN.out.below hb3)
    obtain ⟨d0, d1, d2, d3, d4, d5, d6, d7, d8⟩ := nine HA3.out
    clear hb3
    cases bb with
    | false =>
      have HF : Hid (rkindN x.nd = false) := by show _ = _; rw [HK.out]; simp
      go_wp2
      go_ret
      exact ⟨by rw [HF.out]; rfl, HB3.out⟩
    | true =>
      have HF : Hid (rkindN x.nd = true) := by show _ = _; rw [HK.out]; simp [HH1.out]
      go_wp2
      go_ret
      exact ⟨by rw [HF.out]; rfl, HB3.out⟩
  · have e1 : ((lk : Int) == 1) = false := by simp; omega
    have HF : Hid (rkindN x.nd = false) := by show _ = _; rw [HK.out]; simp [h1]
    clear h1
    go_enter Tryz.func135, Tryz.ntmps135
    go_wp2_with fail
    rw [HWE.out]
    go_ret
    exact ⟨by rw [HF.out]; rfl, HB02.out⟩
set_option maxHeartbeats 3200000 in
set_option maxRecDepth 100000 in
theorem rkind_7 (x : NV) (w : World) (hI : NodeIn w x) (hf : x.nd.kids.length ≤ 1000000 ∧ x.nd.set.length ≤ 1000000) (hk : x.nd.kind = 7) :
    Calls Tryz.prog 135 #[.agg (encN x).toArray] w fun e w' => e = .returned (.bool (rkindN x.nd)) ∧ Below w.heap.size w w' := by
  obtain ⟨ls, lk, hls, hlk, h⟩ := node_lit2 x
  unfold NodeLit at h
  rw [h, hk]
  obtain ⟨gr, hgr⟩ : ∃ z, z = x.nd.group := ⟨_, rfl⟩
  obtain ⟨mn, hmn⟩ : ∃ z, z = x.nd.mn := ⟨_, rfl⟩
  obtain ⟨mx, hmx⟩ : ∃ z, z = x.nd.mx := ⟨_, rfl⟩
  obtain ⟨md, hmd⟩ : ∃ z, z = x.nd.mode := ⟨_, rfl⟩
  obtain ⟨sp, hsp⟩ : ∃ z, z = x.nd.spot := ⟨_, rfl⟩
  obtain ⟨ng, hng⟩ : ∃ z, z = x.nd.neg := ⟨_, rfl⟩
  rw [← hgr, ← hmn, ← hmx, ← hmd, ← hsp, ← hng]
  obtain ⟨bb, hbb⟩ : ∃ b : Bool, b = bareB (noTimes x).nd := ⟨_, rfl⟩
  have HK : Hid (rkindN x.nd = (decide (lk = 1) && (bb && ((decide (0 ≤ mn) && (decide (mn ≤ 1000) && (mx == -1 || (decide (mn ≤ mx) && decide (mx ≤ 1000))))) && (decide (1 ≤ md) && decide (md ≤ 3)))))) := by
    show _ = _
    unfold rkindN
    rw [hk, hbb, hlk, hmd, hmn, hmx]; rfl
  have hA := Bx.new w 28 #[.int .u8 7, .slice x.ps ls x.cs, .slice x.pk lk x.ck, .int .i64 gr, .int .i64 mn, .int .i64 mx, .int .u8 md, .int .u8 sp, .bool ng]
  obtain ⟨W1, hW1⟩ : ∃ W, W = w.alloc (.cells #[.int .u8 7, .slice x.ps ls x.cs, .slice x.pk lk x.ck, .int .i64 gr, .int .i64 mn, .int .i64 mx, .int .u8 md, .int .u8 sp, .bool ng] 28) := ⟨_, rfl⟩
  have hs1 : W1.heap.size = w.heap.size + 1 := by rw [hW1, World.size_alloc]
  have hb1 : Below w.heap.size w W1 := by rw [hW1]; exact bl_alloc _ _
  rw [← hW1] at hA
  have hA2 := hA.below (bl_alloc W1 (.cells #[.int .u8 7, .slice x.ps ls x.cs, .slice x.pk lk x.ck, .int .i64 gr, .int .i64 mn, .int .i64 mx, .int .u8 md, .int .u8 sp, .bool ng] 28))
  obtain ⟨a0, _, a2, _, _, _, _, _, _⟩ := nine hA2
  rw [hW1] at a0 a2
  obtain ⟨W2, hW2⟩ : ∃ W, W = W1.alloc (.cells #[.int .u8 7, .slice x.ps ls x.cs, .slice x.pk lk x.ck, .int .i64 gr, .int .i64 0, .int .i64 0, .int .u8 0, .int .u8 sp, .bool ng] 28) := ⟨_, rfl⟩
  have hb2 : Below W1.heap.size W1 W2 := by rw [hW2]; exact bl_alloc _ _
  have hb02 : Below w.heap.size w W2 := bl_trans hb1 hb2
  have hB := Bx.new W1 28 #[.int .u8 7, .slice x.ps ls x.cs, .slice x.pk lk x.ck, .int .i64 gr, .int .i64 0, .int .i64 0, .int .u8 0, .int .u8 sp, .bool ng]
  rw [hs1] at hB
  obtain ⟨b0, b1, b2, b3, b4, b5, b6, b7, b8⟩ := nine hB
  rw [hW1] at b0 b1 b2 b3 b4 b5 b6 b7 b8
  have hbr := rbare_any (noTimes x) W2
  rw [show (encN (noTimes x)).toArray = #[.int .u8 7, .slice x.ps ls x.cs, .slice x.pk lk x.ck, .int .i64 gr, .int .i64 0, .int .i64 0, .int .u8 0, .int .u8 sp, .bool ng] from (by unfold encN noTimes; simp only [hls, hlk, hgr, hsp, hng, hk]; try rfl), ← hbb] at hbr
  have HBR := Lib.hid hbr
  have HA := Lib.hid (hA.below hb2)
  have HIN := Lib.hid (hI.below hb02)
  have HB02 := Lib.hid hb02
  have HWE : Hid ((w.alloc (.cells #[.int .u8 7, .slice x.ps ls x.cs, .slice x.pk lk x.ck, .int .i64 gr, .int .i64 mn, .int .i64 mx, .int .u8 md, .int .u8 sp, .bool ng] 28)).alloc (.cells #[.int .u8 7, .slice x.ps ls x.cs, .slice x.pk lk x.ck, .int .i64 gr, .int .i64 0, .int .i64 0, .int .u8 0, .int .u8 sp, .bool ng] 28) = W2) := by show _ = _; rw [hW2, hW1]
  have HLS := Lib.hid (And.intro hls hf)
  clear h hk hbb hA hW1 hs1 hb1 hA2 hW2 hb2 hb02 hB hbr hI hgr hmn hmx hmd hsp hng hls hlk hf
  by_cases h1 : lk = 1
  · have e1 : ((lk : Int) == 1) = true := by simp; omega
    have HH1 := Lib.hid h1
    clear h1
    go_enter Tryz.func135, Tryz.ntmps135
    go_wp2_with fail
    rw [HWE.out]
    refine (HBR.out).mono ?_
    rintro e w3 ⟨rfl, hb3⟩
    have HB3 := Lib.hid (bl_trans HB02.out hb3)
    have HA3 := Lib.hid (HA.out.below hb3)
    have HI3 := Lib.hid (HIN.out.below hb3)
    obtain ⟨d0, d1, d2, d3, d4, d5, d6, d7, d8⟩ := nine HA3.out
    clear hb3
    cases bb with
    | false =>
      have HF : Hid (rkindN x.nd = false) := by show _ = _; rw [HK.out]; simp
      go_wp2
      go_ret
      exact ⟨by rw [HF.out]; rfl, HB3.out⟩
    | true =>
      by_cases p1 : 0 ≤ mn
      · have ep1 : decide (0 ≤ mn) = true := by simpa using p1
        by_cases p2 : mn ≤ 1000
        · have ep2 : decide (mn ≤ 1000) = true := by simpa using p2
          by_cases p3 : mx = -1
          · have ep3 : (mx == -1) = true := by simpa using p3
            by_cases p5 : 1 ≤ md
            · have ep5 : decide (1 ≤ md) = true := by simpa using p5
              by_cases p6 : md ≤ 3
              · have ep6 : decide (md ≤ 3) = true := by simpa using p6
                have HF : Hid (rkindN x.nd = true) := by show _ = _; rw [HK.out]; simp [p1, p2, p3, p5, p6, HH1.out]
                go_wp2
                go_ret
                exact ⟨by rw [HF.out]; rfl, HB3.out⟩
              · have ep6 : decide (md ≤ 3) = false := by simpa using p6
                have HF : Hid (rkindN x.nd = false) := by show _ = _; rw [HK.out]; simp [p1, p2, p3, p5, p6]
                go_wp2
                go_ret
                exact ⟨by rw [HF.out]; rfl, HB3.out⟩
            · have ep5 : decide (1 ≤ md) = false := by simpa using p5
              have HF : Hid (rkindN x.nd = false) := by show _ = _; rw [HK.out]; simp [p1, p2, p3, p5]
              go_wp2
              go_ret
              exact ⟨by rw [HF.out]; rfl, HB3.out⟩
          · have ep3 : (mx == -1) = false := by simpa using p3
            by_cases p4 : mn ≤ mx
            · have ep4 : decide (mn ≤ mx) = true := by simpa using p4
              by_cases p7 : mx ≤ 1000
              · have ep7 : decide (mx ≤ 1000) = true := by simpa using p7
                by_cases p5 : 1 ≤ md
                · have ep5 : decide (1 ≤ md) = true := by simpa using p5
                  by_cases p6 : md ≤ 3
                  · have ep6 : decide (md ≤ 3) = true := by simpa using p6
                    have HF : Hid (rkindN x.nd = true) := by show _ = _; rw [HK.out]; simp [p1, p2, p4, p7, p5, p6, HH1.out]
                    go_wp2
                    go_ret
                    exact ⟨by rw [HF.out]; rfl, HB3.out⟩
                  · have ep6 : decide (md ≤ 3) = false := by simpa using p6
                    have HF : Hid (rkindN x.nd = false) := by show _ = _; rw [HK.out]; simp [p1, p2, p4, p7, p5, p6]
                    go_wp2
                    go_ret
                    exact ⟨by rw [HF.out]; rfl, HB3.out⟩
                · have ep5 : decide (1 ≤ md) = false := by simpa using p5
                  have HF : Hid (rkindN x.nd = false) := by show _ = _; rw [HK.out]; simp [p1, p2, p4, p7, p5]
                  go_wp2
                  go_ret
                  exact ⟨by rw [HF.out]; rfl, HB3.out⟩
              · have ep7 : decide (mx ≤ 1000) = false := by simpa using p7
                have HF : Hid (rkindN x.nd = false) := by show _ = _; rw [HK.out]; simp [p1, p2, p3, p4, p7]
                go_wp2
                go_ret
                exact ⟨by rw [HF.out]; rfl, HB3.out⟩
            · have ep4 : decide (mn ≤ mx) = false := by simpa using p4
              have HF : Hid (rkindN x.nd = false) := by show _ = _; rw [HK.out]; simp [p1, p2, p3, p4]
              go_wp2
              go_ret
              exact ⟨by rw [HF.out]; rfl, HB3.out⟩
        · have ep2 : decide (mn ≤ 1000) = false := by simpa using p2
          have HF : Hid (rkindN x.nd = false) := by show _ = _; rw [HK.out]; simp [p1, p2]
          go_wp2
          go_ret
          exact ⟨by rw [HF.out]; rfl, HB3.out⟩
      · have ep1 : decide (0 ≤ mn) = false := by simpa using p1
        have HF : Hid (rkindN x.nd = false) := by show _ = _; rw [HK.out]; simp [p1]
        go_wp2
        go_ret
        exact ⟨by rw [HF.out]; rfl, HB3.out⟩
  · have e1 : ((lk : Int) == 1) = false := by simp; omega
    have HF : Hid (rkindN x.nd = false) := by show _ = _; rw [HK.out]; simp [h1]
    clear h1
    go_enter Tryz.func135, Tryz.ntmps135
    go_wp2_with fail
    rw [HWE.out]
    go_ret
    exact ⟨by rw [HF.out]; rfl, HB02.out⟩
set_option maxHeartbeats 3200000 in
set_option maxRecDepth 100000 in
theorem rkind_8 (x : NV) (w : World) (hI : NodeIn w x) (hf : x.nd.kids.length ≤ 1000000 ∧ x.nd.set.length ≤ 1000000) (hk : x.nd.kind = 8) :
    Calls Tryz.prog 135 #[.agg (encN x).toArray] w fun e w' => e = .returned (.bool (rkindN x.nd)) ∧ Below w.heap.size w w' := by
  obtain ⟨ls, lk, hls, hlk, h⟩ := node_lit2 x
  unfold NodeLit at h
  rw [h, hk]
  obtain ⟨gr, hgr⟩ : ∃ z, z = x.nd.group := ⟨_, rfl⟩
  obtain ⟨mn, hmn⟩ : ∃ z, z = x.nd.mn := ⟨_, rfl⟩
  obtain ⟨mx, hmx⟩ : ∃ z, z = x.nd.mx := ⟨_, rfl⟩
  obtain ⟨md, hmd⟩ : ∃ z, z = x.nd.mode := ⟨_, rfl⟩
  obtain ⟨sp, hsp⟩ : ∃ z, z = x.nd.spot := ⟨_, rfl⟩
  obtain ⟨ng, hng⟩ : ∃ z, z = x.nd.neg := ⟨_, rfl⟩
  rw [← hgr, ← hmn, ← hmx, ← hmd, ← hsp, ← hng]
  obtain ⟨bb, hbb⟩ : ∃ b : Bool, b = bareB (noGroup x).nd := ⟨_, rfl⟩
  have HK : Hid (rkindN x.nd = (decide (lk = 0) && (bb))) := by
    show _ = _
    unfold rkindN
    rw [hk, hbb, hlk]; rfl
  have hA := Bx.new w 28 #[.int .u8 8, .slice x.ps ls x.cs, .slice x.pk lk x.ck, .int .i64 gr, .int .i64 mn, .int .i64 mx, .int .u8 md, .int .u8 sp, .bool ng]
  obtain ⟨W1, hW1⟩ : ∃ W, W = w.alloc (.cells #[.int .u8 8, .slice x.ps ls x.cs, .slice x.pk lk x.ck, .int .i64 gr, .int .i64 mn, .int .i64 mx, .int .u8 md, .int .u8 sp, .bool ng] 28) := ⟨_, rfl⟩
  have hs1 : W1.heap.size = w.heap.size + 1 := by rw [hW1, World.size_alloc]
  have hb1 : Below w.heap.size w W1 := by rw [hW1]; exact bl_alloc _ _
  rw [← hW1] at hA
  have hA2 := hA.below (bl_alloc W1 (.cells #[.int .u8 8, .slice x.ps ls x.cs, .slice x.pk lk x.ck, .int .i64 gr, .int .i64 mn, .int .i64 mx, .int .u8 md, .int .u8 sp, .bool ng] 28))
  obtain ⟨a0, _, a2, _, _, _, _, _, _⟩ := nine hA2
  rw [hW1] at a0 a2
  obtain ⟨W2, hW2⟩ : ∃ W, W = W1.alloc (.cells #[.int .u8 8, .slice x.ps ls x.cs, .slice x.pk lk x.ck, .int .i64 0, .int .i64 mn, .int .i64 mx, .int .u8 md, .int .u8 sp, .bool ng] 28) := ⟨_, rfl⟩
  have hb2 : Below W1.heap.size W1 W2 := by rw [hW2]; exact bl_alloc _ _
  have hb02 : Below w.heap.size w W2 := bl_trans hb1 hb2
  have hB := Bx.new W1 28 #[.int .u8 8, .slice x.ps ls x.cs, .slice x.pk lk x.ck, .int .i64 0, .int .i64 mn, .int .i64 mx, .int .u8 md, .int .u8 sp, .bool ng]
  rw [hs1] at hB
  obtain ⟨b0, b1, b2, b3, b4, b5, b6, b7, b8⟩ := nine hB
  rw [hW1] at b0 b1 b2 b3 b4 b5 b6 b7 b8
  have hbr := rbare_any (noGroup x) W2
  rw [show (encN (noGroup x)).toArray = #[.int .u8 8, .slice x.ps ls x.cs, .slice x.pk lk x.ck, .int .i64 0, .int .i64 mn, .int .i64 mx, .int .u8 md, .int .u8 sp, .bool ng] from (by unfold encN noGroup; simp only [hls, hlk, hmn, hmx, hmd, hsp, hng, hk]; try rfl), ← hbb] at hbr
  have HBR := Lib.hid hbr
  have HA := Lib.hid (hA.below hb2)
  have HIN := Lib.hid (hI.below hb02)
  have HB02 := Lib.hid hb02
  have HWE : Hid ((w.alloc (.cells #[.int .u8 8, .slice x.ps ls x.cs, .slice x.pk lk x.ck, .int .i64 gr, .int .i64 mn, .int .i64 mx, .int .u8 md, .int .u8 sp, .bool ng] 28)).alloc (.cells #[.int .u8 8, .slice x.ps ls x.cs, .slice x.pk lk x.ck, .int .i64 0, .int .i64 mn, .int .i64 mx, .int .u8 md, .int .u8 sp, .bool ng] 28) = W2) := by show _ = _; rw [hW2, hW1]
  have HLS := Lib.hid (And.intro hls hf)
  clear h hk hbb hA hW1 hs1 hb1 hA2 hW2 hb2 hb02 hB hbr hI hgr hmn hmx hmd hsp hng hls hlk hf
  by_cases h1 : lk = 0
  · have e1 : ((lk : Int) == 0) = true := by simp; omega
    have HH1 := Lib.hid h1
    clear h1
    go_enter Tryz.func135, Tryz.ntmps135
    go_wp2_with fail
    rw [HWE.out]
    refine (HBR.out).mono ?_
    rintro e w3 ⟨rfl, hb3⟩
    have HB3 := Lib.hid (bl_trans HB02.out hb3)
    have HA3 := Lib.hid (HA.out.below hb3)
    have HI3 := Lib.hid (HIN.out.below hb3)
    obtain ⟨d0, d1, d2, d3, d4, d5, d6, d7, d8⟩ := nine HA3.out
    clear hb3
    cases bb with
    | false =>
      have HF : Hid (rkindN x.nd = false) := by show _ = _; rw [HK.out]; simp
      go_wp2
      go_ret
      exact ⟨by rw [HF.out]; rfl, HB3.out⟩
    | true =>
      have HF : Hid (rkindN x.nd = true) := by show _ = _; rw [HK.out]; simp [HH1.out]
      go_wp2
      go_ret
      exact ⟨by rw [HF.out]; rfl, HB3.out⟩
  · have e1 : ((lk : Int) == 0) = false := by simp; omega
    have HF : Hid (rkindN x.nd = false) := by show _ = _; rw [HK.out]; simp [h1]
    clear h1
    go_enter Tryz.func135, Tryz.ntmps135
    go_wp2_with fail
    rw [HWE.out]
    go_ret
    exact ⟨by rw [HF.out]; rfl, HB02.out⟩
set_option maxHeartbeats 3200000 in
set_option maxRecDepth 100000 in
theorem rkind_9 (x : NV) (w : World) (hI : NodeIn w x) (hf : x.nd.kids.length ≤ 1000000 ∧ x.nd.set.length ≤ 1000000) (hk : x.nd.kind = 9) :
    Calls Tryz.prog 135 #[.agg (encN x).toArray] w fun e w' => e = .returned (.bool (rkindN x.nd)) ∧ Below w.heap.size w w' := by
  obtain ⟨ls, lk, hls, hlk, h⟩ := node_lit2 x
  unfold NodeLit at h
  rw [h, hk]
  obtain ⟨gr, hgr⟩ : ∃ z, z = x.nd.group := ⟨_, rfl⟩
  obtain ⟨mn, hmn⟩ : ∃ z, z = x.nd.mn := ⟨_, rfl⟩
  obtain ⟨mx, hmx⟩ : ∃ z, z = x.nd.mx := ⟨_, rfl⟩
  obtain ⟨md, hmd⟩ : ∃ z, z = x.nd.mode := ⟨_, rfl⟩
  obtain ⟨sp, hsp⟩ : ∃ z, z = x.nd.spot := ⟨_, rfl⟩
  obtain ⟨ng, hng⟩ : ∃ z, z = x.nd.neg := ⟨_, rfl⟩
  rw [← hgr, ← hmn, ← hmx, ← hmd, ← hsp, ← hng]
  obtain ⟨bb, hbb⟩ : ∃ b : Bool, b = bareB (noSpot x).nd := ⟨_, rfl⟩
  have HK : Hid (rkindN x.nd = (decide (lk = 0) && (bb && (decide (1 ≤ sp) && decide (sp ≤ 4))))) := by
    show _ = _
    unfold rkindN
    rw [hk, hbb, hlk, hsp]; rfl
  have hA := Bx.new w 28 #[.int .u8 9, .slice x.ps ls x.cs, .slice x.pk lk x.ck, .int .i64 gr, .int .i64 mn, .int .i64 mx, .int .u8 md, .int .u8 sp, .bool ng]
  obtain ⟨W1, hW1⟩ : ∃ W, W = w.alloc (.cells #[.int .u8 9, .slice x.ps ls x.cs, .slice x.pk lk x.ck, .int .i64 gr, .int .i64 mn, .int .i64 mx, .int .u8 md, .int .u8 sp, .bool ng] 28) := ⟨_, rfl⟩
  have hs1 : W1.heap.size = w.heap.size + 1 := by rw [hW1, World.size_alloc]
  have hb1 : Below w.heap.size w W1 := by rw [hW1]; exact bl_alloc _ _
  rw [← hW1] at hA
  have hA2 := hA.below (bl_alloc W1 (.cells #[.int .u8 9, .slice x.ps ls x.cs, .slice x.pk lk x.ck, .int .i64 gr, .int .i64 mn, .int .i64 mx, .int .u8 md, .int .u8 sp, .bool ng] 28))
  obtain ⟨a0, _, a2, _, _, _, _, _, _⟩ := nine hA2
  rw [hW1] at a0 a2
  obtain ⟨W2, hW2⟩ : ∃ W, W = W1.alloc (.cells #[.int .u8 9, .slice x.ps ls x.cs, .slice x.pk lk x.ck, .int .i64 gr, .int .i64 mn, .int .i64 mx, .int .u8 md, .int .u8 0, .bool ng] 28) := ⟨_, rfl⟩
  have hb2 : Below W1.heap.size W1 W2 := by rw [hW2]; exact bl_alloc _ _
  have hb02 : Below w.heap.size w W2 := bl_trans hb1 hb2
  have hB := Bx.new W1 28 #[.int .u8 9, .slice x.ps ls x.cs, .slice x.pk lk x.ck, .int .i64 gr, .int .i64 mn, .int .i64 mx, .int .u8 md, .int .u8 0, .bool ng]
  rw [hs1] at hB
  obtain ⟨b0, b1, b2, b3, b4, b5, b6, b7, b8⟩ := nine hB
  rw [hW1] at b0 b1 b2 b3 b4 b5 b6 b7 b8
  have hbr := rbare_any (noSpot x) W2
  rw [show (encN (noSpot x)).toArray = #[.int .u8 9, .slice x.ps ls x.cs, .slice x.pk lk x.ck, .int .i64 gr, .int .i64 mn, .int .i64 mx, .int .u8 md, .int .u8 0, .bool ng] from (by unfold encN noSpot; simp only [hls, hlk, hgr, hmn, hmx, hmd, hng, hk]; try rfl), ← hbb] at hbr
  have HBR := Lib.hid hbr
  have HA := Lib.hid (hA.below hb2)
  have HIN := Lib.hid (hI.below hb02)
  have HB02 := Lib.hid hb02
  have HWE : Hid ((w.alloc (.cells #[.int .u8 9, .slice x.ps ls x.cs, .slice x.pk lk x.ck, .int .i64 gr, .int .i64 mn, .int .i64 mx, .int .u8 md, .int .u8 sp, .bool ng] 28)).alloc (.cells #[.int .u8 9, .slice x.ps ls x.cs, .slice x.pk lk x.ck, .int .i64 gr, .int .i64 mn, .int .i64 mx, .int .u8 md, .int .u8 0, .bool ng] 28) = W2) := by show _ = _; rw [hW2, hW1]
  have HLS := Lib.hid (And.intro hls hf)
  clear h hk hbb hA hW1 hs1 hb1 hA2 hW2 hb2 hb02 hB hbr hI hgr hmn hmx hmd hsp hng hls hlk hf
  by_cases h1 : lk = 0
  · have e1 : ((lk : Int) == 0) = true := by simp; omega
    have HH1 := Lib.hid h1
    clear h1
    go_enter Tryz.func135, Tryz.ntmps135
    go_wp2_with fail
    rw [HWE.out]
    refine (HBR.out).mono ?_
    rintro e w3 ⟨rfl, hb3⟩
    have HB3 := Lib.hid (bl_trans HB02.out hb3)
    have HA3 := Lib.hid (HA.out.below hb3)
    have HI3 := Lib.hid (HIN.out.below hb3)
    obtain ⟨d0, d1, d2, d3, d4, d5, d6, d7, d8⟩ := nine HA3.out
    clear hb3
    cases bb with
    | false =>
      have HF : Hid (rkindN x.nd = false) := by show _ = _; rw [HK.out]; simp
      go_wp2
      go_ret
      exact ⟨by rw [HF.out]; rfl, HB3.out⟩
    | true =>
      by_cases h2 : 1 ≤ sp
      · have e2 : decide (1 ≤ sp) = true := by simpa using h2
        by_cases h3 : sp ≤ 4
        · have e3 : decide (sp ≤ 4) = true := by simpa using h3
          have HF : Hid (rkindN x.nd = true) := by show _ = _; rw [HK.out]; simp [h2, h3, HH1.out]
          go_wp2
          go_ret
          exact ⟨by rw [HF.out]; rfl, HB3.out⟩
        · have e3 : decide (sp ≤ 4) = false := by simpa using h3
          have HF : Hid (rkindN x.nd = false) := by show _ = _; rw [HK.out]; simp [h2, h3]
          go_wp2
          go_ret
          exact ⟨by rw [HF.out]; rfl, HB3.out⟩
      · have e2 : decide (1 ≤ sp) = false := by simpa using h2
        have HF : Hid (rkindN x.nd = false) := by show _ = _; rw [HK.out]; simp [h2]
        go_wp2
        go_ret
        exact ⟨by rw [HF.out]; rfl, HB3.out⟩
  · have e1 : ((lk : Int) == 0) = false := by simp; omega
    have HF : Hid (rkindN x.nd = false) := by show _ = _; rw [HK.out]; simp [h1]
    clear h1
    go_enter Tryz.func135, Tryz.ntmps135
    go_wp2_with fail
    rw [HWE.out]
    go_ret
    exact ⟨by rw [HF.out]; rfl, HB02.out⟩
set_option maxHeartbeats 3200000 in
set_option maxRecDepth 100000 in
theorem rkind_10 (x : NV) (w : World) (hI : NodeIn w x) (hf : x.nd.kids.length ≤ 1000000 ∧ x.nd.set.length ≤ 1000000) (hk : x.nd.kind = 10) :
    Calls Tryz.prog 135 #[.agg (encN x).toArray] w fun e w' => e = .returned (.bool (rkindN x.nd)) ∧ Below w.heap.size w w' := by
  obtain ⟨ls, lk, hls, hlk, h⟩ := node_lit2 x
  unfold NodeLit at h
  rw [h, hk]
  obtain ⟨gr, hgr⟩ : ∃ z, z = x.nd.group := ⟨_, rfl⟩
  obtain ⟨mn, hmn⟩ : ∃ z, z = x.nd.mn := ⟨_, rfl⟩
  obtain ⟨mx, hmx⟩ : ∃ z, z = x.nd.mx := ⟨_, rfl⟩
  obtain ⟨md, hmd⟩ : ∃ z, z = x.nd.mode := ⟨_, rfl⟩
  obtain ⟨sp, hsp⟩ : ∃ z, z = x.nd.spot := ⟨_, rfl⟩
  obtain ⟨ng, hng⟩ : ∃ z, z = x.nd.neg := ⟨_, rfl⟩
  rw [← hgr, ← hmn, ← hmx, ← hmd, ← hsp, ← hng]
  obtain ⟨bb, hbb⟩ : ∃ b : Bool, b = bareB (noNot x).nd := ⟨_, rfl⟩
  have HK : Hid (rkindN x.nd = (decide (lk = 1) && (bb))) := by
    show _ = _
    unfold rkindN
    rw [hk, hbb, hlk]; rfl
  have hA := Bx.new w 28 #[.int .u8 10, .slice x.ps ls x.cs, .slice x.pk lk x.ck, .int .i64 gr, .int .i64 mn, .int .i64 mx, .int .u8 md, .int .u8 sp, .bool ng]
  obtain ⟨W1, hW1⟩ : ∃ W, W = w.alloc (.cells #[.int .u8 10, .slice x.ps ls x.cs, .slice x.pk lk x.ck, .int .i64 gr, .int .i64 mn, .int .i64 mx, .int .u8 md, .int .u8 sp, .bool ng] 28) := ⟨_, rfl⟩
  have hs1 : W1.heap.size = w.heap.size + 1 := by rw [hW1, World.size_alloc]
  have hb1 : Below w.heap.size w W1 := by rw [hW1]; exact bl_alloc _ _
  rw [← hW1] at hA
  have hA2 := hA.below (bl_alloc W1 (.cells #[.int .u8 10, .slice x.ps ls x.cs, .slice x.pk lk x.ck, .int .i64 gr, .int .i64 mn, .int .i64 mx, .int .u8 md, .int .u8 sp, .bool ng] 28))
  obtain ⟨a0, _, a2, _, _, _, _, _, _⟩ := nine hA2
  rw [hW1] at a0 a2
  obtain ⟨W2, hW2⟩ : ∃ W, W = W1.alloc (.cells #[.int .u8 10, .slice x.ps ls x.cs, .slice x.pk lk x.ck, .int .i64 gr, .int .i64 mn, .int .i64 mx, .int .u8 md, .int .u8 sp, .bool false] 28) := ⟨_, rfl⟩
  have hb2 : Below W1.heap.size W1 W2 := by rw [hW2]; exact bl_alloc _ _
  have hb02 : Below w.heap.size w W2 := bl_trans hb1 hb2
  have hB := Bx.new W1 28 #[.int .u8 10, .slice x.ps ls x.cs, .slice x.pk lk x.ck, .int .i64 gr, .int .i64 mn, .int .i64 mx, .int .u8 md, .int .u8 sp, .bool false]
  rw [hs1] at hB
  obtain ⟨b0, b1, b2, b3, b4, b5, b6, b7, b8⟩ := nine hB
  rw [hW1] at b0 b1 b2 b3 b4 b5 b6 b7 b8
  have hbr := rbare_any (noNot x) W2
  rw [show (encN (noNot x)).toArray = #[.int .u8 10, .slice x.ps ls x.cs, .slice x.pk lk x.ck, .int .i64 gr, .int .i64 mn, .int .i64 mx, .int .u8 md, .int .u8 sp, .bool false] from (by unfold encN noNot; simp only [hls, hlk, hgr, hmn, hmx, hmd, hsp, hk]; try rfl), ← hbb] at hbr
  have HBR := Lib.hid hbr
  have HA := Lib.hid (hA.below hb2)
  have HIN := Lib.hid (hI.below hb02)
  have HB02 := Lib.hid hb02
  have HWE : Hid ((w.alloc (.cells #[.int .u8 10, .slice x.ps ls x.cs, .slice x.pk lk x.ck, .int .i64 gr, .int .i64 mn, .int .i64 mx, .int .u8 md, .int .u8 sp, .bool ng] 28)).alloc (.cells #[.int .u8 10, .slice x.ps ls x.cs, .slice x.pk lk x.ck, .int .i64 gr, .int .i64 mn, .int .i64 mx, .int .u8 md, .int .u8 sp, .bool false] 28) = W2) := by show _ = _; rw [hW2, hW1]
  have HLS := Lib.hid (And.intro hls hf)
  clear h hk hbb hA hW1 hs1 hb1 hA2 hW2 hb2 hb02 hB hbr hI hgr hmn hmx hmd hsp hng hls hlk hf
  by_cases h1 : lk = 1
  · have e1 : ((lk : Int) == 1) = true := by simp; omega
    have HH1 := Lib.hid h1
    clear h1
    go_enter Tryz.func135, Tryz.ntmps135
    go_wp2_with fail
    rw [HWE.out]
    refine (HBR.out).mono ?_
    rintro e w3 ⟨rfl, hb3⟩
    have HB3 := Lib.hid (bl_trans HB02.out hb3)
    have HA3 := Lib.hid (HA.out.below hb3)
    have HI3 := Lib.hid (HIN.out.below hb3)
    obtain ⟨d0, d1, d2, d3, d4, d5, d6, d7, d8⟩ := nine HA3.out
    clear hb3
    cases bb with
    | false =>
      have HF : Hid (rkindN x.nd = false) := by show _ = _; rw [HK.out]; simp
      go_wp2
      go_ret
      exact ⟨by rw [HF.out]; rfl, HB3.out⟩
    | true =>
      have HF : Hid (rkindN x.nd = true) := by show _ = _; rw [HK.out]; simp [HH1.out]
      go_wp2
      go_ret
      exact ⟨by rw [HF.out]; rfl, HB3.out⟩
  · have e1 : ((lk : Int) == 1) = false := by simp; omega
    have HF : Hid (rkindN x.nd = false) := by show _ = _; rw [HK.out]; simp [h1]
    clear h1
    go_enter Tryz.func135, Tryz.ntmps135
    go_wp2_with fail
    rw [HWE.out]
    go_ret
    exact ⟨by rw [HF.out]; rfl, HB02.out⟩
set_option maxHeartbeats 3200000 in
set_option maxRecDepth 100000 in
theorem rkind_11 (x : NV) (w : World) (hI : NodeIn w x) (hf : x.nd.kids.length ≤ 1000000 ∧ x.nd.set.length ≤ 1000000) (hk : x.nd.kind = 11) :
    Calls Tryz.prog 135 #[.agg (encN x).toArray] w fun e w' => e = .returned (.bool (rkindN x.nd)) ∧ Below w.heap.size w w' := by
  obtain ⟨ls, lk, hls, hlk, h⟩ := node_lit2 x
  unfold NodeLit at h
  rw [h, hk]
  obtain ⟨gr, hgr⟩ : ∃ z, z = x.nd.group := ⟨_, rfl⟩
  obtain ⟨mn, hmn⟩ : ∃ z, z = x.nd.mn := ⟨_, rfl⟩
  obtain ⟨mx, hmx⟩ : ∃ z, z = x.nd.mx := ⟨_, rfl⟩
  obtain ⟨md, hmd⟩ : ∃ z, z = x.nd.mode := ⟨_, rfl⟩
  obtain ⟨sp, hsp⟩ : ∃ z, z = x.nd.spot := ⟨_, rfl⟩
  obtain ⟨ng, hng⟩ : ∃ z, z = x.nd.neg := ⟨_, rfl⟩
  rw [← hgr, ← hmn, ← hmx, ← hmd, ← hsp, ← hng]
  obtain ⟨bb, hbb⟩ : ∃ b : Bool, b = bareB (noNot x).nd := ⟨_, rfl⟩
  have HK : Hid (rkindN x.nd = (decide (lk = 1) && (bb))) := by
    show _ = _
    unfold rkindN
    rw [hk, hbb, hlk]; rfl
  have hA := Bx.new w 28 #[.int .u8 11, .slice x.ps ls x.cs, .slice x.pk lk x.ck, .int .i64 gr, .int .i64 mn, .int .i64 mx, .int .u8 md, .int .u8 sp, .bool ng]
  obtain ⟨W1, hW1⟩ : ∃ W, W = w.alloc (.cells #[.int .u8 11, .slice x.ps ls x.cs, .slice x.pk lk x.ck, .int .i64 gr, .int .i64 mn, .int .i64 mx, .int .u8 md, .int .u8 sp, .bool ng] 28) := ⟨_, rfl⟩
  have hs1 : W1.heap.size = w.heap.size + 1 := by rw [hW1, World.size_alloc]
  have hb1 : Below w.heap.size w W1 := by rw [hW1]; exact bl_alloc _ _
  rw [← hW1] at hA
  have hA2 := hA.below (bl_alloc W1 (.cells #[.int .u8 11, .slice x.ps ls x.cs, .slice x.pk lk x.ck, .int .i64 gr, .int .i64 mn, .int .i64 mx, .int .u8 md, .int .u8 sp, .bool ng] 28))
  obtain ⟨a0, _, a2, _, _, _, _, _, _⟩ := nine hA2
  rw [hW1] at a0 a2
  obtain ⟨W2, hW2⟩ : ∃ W, W = W1.alloc (.cells #[.int .u8 11, .slice x.ps ls x.cs, .slice x.pk lk x.ck, .int .i64 gr, .int .i64 mn, .int .i64 mx, .int .u8 md, .int .u8 sp, .bool false] 28) := ⟨_, rfl⟩
  have hb2 : Below W1.heap.size W1 W2 := by rw [hW2]; exact bl_alloc _ _
  have hb02 : Below w.heap.size w W2 := bl_trans hb1 hb2
  have hB := Bx.new W1 28 #[.int .u8 11, .slice x.ps ls x.cs, .slice x.pk lk x.ck, .int .i64 gr, .int .i64 mn, .int .i64 mx, .int .u8 md, .int .u8 sp, .bool false]
  rw [hs1] at hB
  obtain ⟨b0, b1, b2, b3, b4, b5, b6, b7, b8⟩ := nine hB
  rw [hW1] at b0 b1 b2 b3 b4 b5 b6 b7 b8
  have hbr := rbare_any (noNot x) W2
  rw [show (encN (noNot x)).toArray = #[.int .u8 11, .slice x.ps ls x.cs, .slice x.pk lk x.ck, .int .i64 gr, .int .i64 mn, .int .i64 mx, .int .u8 md, .int .u8 sp, .bool false] from (by unfold encN noNot; simp only [hls, hlk, hgr, hmn, hmx, hmd, hsp, hk]; try rfl), ← hbb] at hbr
  have HBR := Lib.hid hbr
  have HA := Lib.hid (hA.below hb2)
  have HIN := Lib.hid (hI.below hb02)
  have HB02 := Lib.hid hb02
  have HWE : Hid ((w.alloc (.cells #[.int .u8 11, .slice x.ps ls x.cs, .slice x.pk lk x.ck, .int .i64 gr, .int .i64 mn, .int .i64 mx, .int .u8 md, .int .u8 sp, .bool ng] 28)).alloc (.cells #[.int .u8 11, .slice x.ps ls x.cs, .slice x.pk lk x.ck, .int .i64 gr, .int .i64 mn, .int .i64 mx, .int .u8 md, .int .u8 sp, .bool false] 28) = W2) := by show _ = _; rw [hW2, hW1]
  have HLS := Lib.hid (And.intro hls hf)
  clear h hk hbb hA hW1 hs1 hb1 hA2 hW2 hb2 hb02 hB hbr hI hgr hmn hmx hmd hsp hng hls hlk hf
  by_cases h1 : lk = 1
  · have e1 : ((lk : Int) == 1) = true := by simp; omega
    have HH1 := Lib.hid h1
    clear h1
    go_enter Tryz.func135, Tryz.ntmps135
    go_wp2_with fail
    rw [HWE.out]
    refine (HBR.out).mono ?_
    rintro e w3 ⟨rfl, hb3⟩
    have HB3 := Lib.hid (bl_trans HB02.out hb3)
    have HA3 := Lib.hid (HA.out.below hb3)
    have HI3 := Lib.hid (HIN.out.below hb3)
    obtain ⟨d0, d1, d2, d3, d4, d5, d6, d7, d8⟩ := nine HA3.out
    clear hb3
    cases bb with
    | false =>
      have HF : Hid (rkindN x.nd = false) := by show _ = _; rw [HK.out]; simp
      go_wp2
      go_ret
      exact ⟨by rw [HF.out]; rfl, HB3.out⟩
    | true =>
      have HF : Hid (rkindN x.nd = true) := by show _ = _; rw [HK.out]; simp [HH1.out]
      go_wp2
      go_ret
      exact ⟨by rw [HF.out]; rfl, HB3.out⟩
  · have e1 : ((lk : Int) == 1) = false := by simp; omega
    have HF : Hid (rkindN x.nd = false) := by show _ = _; rw [HK.out]; simp [h1]
    clear h1
    go_enter Tryz.func135, Tryz.ntmps135
    go_wp2_with fail
    rw [HWE.out]
    go_ret
    exact ⟨by rw [HF.out]; rfl, HB02.out⟩
set_option maxHeartbeats 3200000 in
set_option maxRecDepth 100000 in
theorem rkind_12 (x : NV) (w : World) (hI : NodeIn w x) (hf : x.nd.kids.length ≤ 1000000 ∧ x.nd.set.length ≤ 1000000) (hk : x.nd.kind = 12) :
    Calls Tryz.prog 135 #[.agg (encN x).toArray] w fun e w' => e = .returned (.bool (rkindN x.nd)) ∧ Below w.heap.size w w' := by
  obtain ⟨ls, lk, hls, hlk, h⟩ := node_lit2 x
  unfold NodeLit at h
  rw [h, hk]
  obtain ⟨gr, hgr⟩ : ∃ z, z = x.nd.group := ⟨_, rfl⟩
  obtain ⟨mn, hmn⟩ : ∃ z, z = x.nd.mn := ⟨_, rfl⟩
  obtain ⟨mx, hmx⟩ : ∃ z, z = x.nd.mx := ⟨_, rfl⟩
  obtain ⟨md, hmd⟩ : ∃ z, z = x.nd.mode := ⟨_, rfl⟩
  obtain ⟨sp, hsp⟩ : ∃ z, z = x.nd.spot := ⟨_, rfl⟩
  obtain ⟨ng, hng⟩ : ∃ z, z = x.nd.neg := ⟨_, rfl⟩
  rw [← hgr, ← hmn, ← hmx, ← hmd, ← hsp, ← hng]
  obtain ⟨bb, hbb⟩ : ∃ b : Bool, b = bareB (noMode x).nd := ⟨_, rfl⟩
  have HK : Hid (rkindN x.nd = ((decide (lk = 1) || decide (lk = 2)) && (bb && (decide (md = 1) || decide (md = 2))))) := by
    show _ = _
    unfold rkindN
    rw [hk, hbb, hlk, hmd]; rfl
  have hA := Bx.new w 28 #[.int .u8 12, .slice x.ps ls x.cs, .slice x.pk lk x.ck, .int .i64 gr, .int .i64 mn, .int .i64 mx, .int .u8 md, .int .u8 sp, .bool ng]
  obtain ⟨W1, hW1⟩ : ∃ W, W = w.alloc (.cells #[.int .u8 12, .slice x.ps ls x.cs, .slice x.pk lk x.ck, .int .i64 gr, .int .i64 mn, .int .i64 mx, .int .u8 md, .int .u8 sp, .bool ng] 28) := ⟨_, rfl⟩
  have hs1 : W1.heap.size = w.heap.size + 1 := by rw [hW1, World.size_alloc]
  have hb1 : Below w.heap.size w W1 := by rw [hW1]; exact bl_alloc _ _
  rw [← hW1] at hA
  have hA2 := hA.below (bl_alloc W1 (.cells #[.int .u8 12, .slice x.ps ls x.cs, .slice x.pk lk x.ck, .int .i64 gr, .int .i64 mn, .int .i64 mx, .int .u8 md, .int .u8 sp, .bool ng] 28))
  obtain ⟨a0, _, a2, _, _, _, _, _, _⟩ := nine hA2
  rw [hW1] at a0 a2
  obtain ⟨W2, hW2⟩ : ∃ W, W = W1.alloc (.cells #[.int .u8 12, .slice x.ps ls x.cs, .slice x.pk lk x.ck, .int .i64 gr, .int .i64 mn, .int .i64 mx, .int .u8 0, .int .u8 sp, .bool ng] 28) := ⟨_, rfl⟩
  have hb2 : Below W1.heap.size W1 W2 := by rw [hW2]; exact bl_alloc _ _
  have hb02 : Below w.heap.size w W2 := bl_trans hb1 hb2
  have hB := Bx.new W1 28 #[.int .u8 12, .slice x.ps ls x.cs, .slice x.pk lk x.ck, .int .i64 gr, .int .i64 mn, .int .i64 mx, .int .u8 0, .int .u8 sp, .bool ng]
  rw [hs1] at hB
  obtain ⟨b0, b1, b2, b3, b4, b5, b6, b7, b8⟩ := nine hB
  rw [hW1] at b0 b1 b2 b3 b4 b5 b6 b7 b8
  have hbr := rbare_any (noMode x) W2
  rw [show (encN (noMode x)).toArray = #[.int .u8 12, .slice x.ps ls x.cs, .slice x.pk lk x.ck, .int .i64 gr, .int .i64 mn, .int .i64 mx, .int .u8 0, .int .u8 sp, .bool ng] from (by unfold encN noMode; simp only [hls, hlk, hgr, hmn, hmx, hsp, hng, hk]; try rfl), ← hbb] at hbr
  have HBR := Lib.hid hbr
  have HA := Lib.hid (hA.below hb2)
  have HIN := Lib.hid (hI.below hb02)
  have HB02 := Lib.hid hb02
  have HWE : Hid ((w.alloc (.cells #[.int .u8 12, .slice x.ps ls x.cs, .slice x.pk lk x.ck, .int .i64 gr, .int .i64 mn, .int .i64 mx, .int .u8 md, .int .u8 sp, .bool ng] 28)).alloc (.cells #[.int .u8 12, .slice x.ps ls x.cs, .slice x.pk lk x.ck, .int .i64 gr, .int .i64 mn, .int .i64 mx, .int .u8 0, .int .u8 sp, .bool ng] 28) = W2) := by show _ = _; rw [hW2, hW1]
  have HLS := Lib.hid (And.intro hls hf)
  clear h hk hbb hA hW1 hs1 hb1 hA2 hW2 hb2 hb02 hB hbr hI hgr hmn hmx hmd hsp hng hls hlk hf
  by_cases h1 : lk = 1
  · have e1 : ((lk : Int) == 1) = true := by simp; omega
    have HH1 := Lib.hid h1
    clear h1
    go_enter Tryz.func135, Tryz.ntmps135
    go_wp2_with fail
    rw [HWE.out]
    refine (HBR.out).mono ?_
    rintro e w3 ⟨rfl, hb3⟩
    have HB3 := Lib.hid (bl_trans HB02.out hb3)
    have HA3 := Lib.hid (HA.out.below hb3)
    have HI3 := Lib.hid (HIN.out.below hb3)
    obtain ⟨d0, d1, d2, d3, d4, d5, d6, d7, d8⟩ := nine HA3.out
    clear hb3
    cases bb with
    | false =>
      have HF : Hid (rkindN x.nd = false) := by show _ = _; rw [HK.out]; simp
      go_wp2
      go_ret
      exact ⟨by rw [HF.out]; rfl, HB3.out⟩
    | true =>
      by_cases h2 : md = 1
      · have e2 : (md == 1) = true := by simpa using h2
        have HF : Hid (rkindN x.nd = true) := by show _ = _; rw [HK.out]; simp [h2, HH1.out]
        go_wp2
        go_ret
        exact ⟨by rw [HF.out]; rfl, HB3.out⟩
      · have e2 : (md == 1) = false := by simpa using h2
        by_cases h3 : md = 2
        · have e3 : (md == 2) = true := by simpa using h3
          have HF : Hid (rkindN x.nd = true) := by show _ = _; rw [HK.out]; simp [h3, HH1.out]
          go_wp2
          go_ret
          exact ⟨by rw [HF.out]; rfl, HB3.out⟩
        · have e3 : (md == 2) = false := by simpa using h3
          have HF : Hid (rkindN x.nd = false) := by show _ = _; rw [HK.out]; simp [h2, h3]
          go_wp2
          go_ret
          exact ⟨by rw [HF.out]; rfl, HB3.out⟩
  · have e1 : ((lk : Int) == 1) = false := by simp; omega
    by_cases h4 : lk = 2
    · have e4 : ((lk : Int) == 2) = true := by simp; omega
      have HH4 := Lib.hid h4
      clear h4 h1
      go_enter Tryz.func135, Tryz.ntmps135
      go_wp2_with fail
      rw [HWE.out]
      refine (HBR.out).mono ?_
      rintro e w3 ⟨rfl, hb3⟩
      have HB3 := Lib.hid (bl_trans HB02.out hb3)
      have HA3 := Lib.hid (HA.out.below hb3)
      have HI3 := Lib.hid (HIN.out.below hb3)
      obtain ⟨d0, d1, d2, d3, d4, d5, d6, d7, d8⟩ := nine HA3.out
      clear hb3
      cases bb with
      | false =>
        have HF : Hid (rkindN x.nd = false) := by show _ = _; rw [HK.out]; simp
        go_wp2
        go_ret
        exact ⟨by rw [HF.out]; rfl, HB3.out⟩
      | true =>
        by_cases h2 : md = 1
        · have e2 : (md == 1) = true := by simpa using h2
          have HF : Hid (rkindN x.nd = true) := by show _ = _; rw [HK.out]; simp [h2, HH4.out]
          go_wp2
          go_ret
          exact ⟨by rw [HF.out]; rfl, HB3.out⟩
        · have e2 : (md == 1) = false := by simpa using h2
          by_cases h3 : md = 2
          · have e3 : (md == 2) = true := by simpa using h3
            have HF : Hid (rkindN x.nd = true) := by show _ = _; rw [HK.out]; simp [h3, HH4.out]
            go_wp2
            go_ret
            exact ⟨by rw [HF.out]; rfl, HB3.out⟩
          · have e3 : (md == 2) = false := by simpa using h3
            have HF : Hid (rkindN x.nd = false) := by show _ = _; rw [HK.out]; simp [h2, h3]
            go_wp2
            go_ret
            exact ⟨by rw [HF.out]; rfl, HB3.out⟩
    · have e4 : ((lk : Int) == 2) = false := by simp; omega
      have HF : Hid (rkindN x.nd = false) := by show _ = _; rw [HK.out]; simp [h1, h4]
      clear h1 h4
      go_enter Tryz.func135, Tryz.ntmps135
      go_wp2_with fail
      rw [HWE.out]
      go_ret
      exact ⟨by rw [HF.out]; rfl, HB02.out⟩
set_option maxHeartbeats 3200000 in
set_option maxRecDepth 100000 in
theorem rkind_13 (x : NV) (w : World) (hI : NodeIn w x) (hf : x.nd.kids.length ≤ 1000000 ∧ x.nd.set.length ≤ 1000000) (hk : x.nd.kind = 13) :
    Calls Tryz.prog 135 #[.agg (encN x).toArray] w fun e w' => e = .returned (.bool (rkindN x.nd)) ∧ Below w.heap.size w w' := by
  obtain ⟨ls, lk, hls, hlk, h⟩ := node_lit2 x
  unfold NodeLit at h
  rw [h, hk]
  obtain ⟨gr, hgr⟩ : ∃ z, z = x.nd.group := ⟨_, rfl⟩
  obtain ⟨mn, hmn⟩ : ∃ z, z = x.nd.mn := ⟨_, rfl⟩
  obtain ⟨mx, hmx⟩ : ∃ z, z = x.nd.mx := ⟨_, rfl⟩
  obtain ⟨md, hmd⟩ : ∃ z, z = x.nd.mode := ⟨_, rfl⟩
  obtain ⟨sp, hsp⟩ : ∃ z, z = x.nd.spot := ⟨_, rfl⟩
  obtain ⟨ng, hng⟩ : ∃ z, z = x.nd.neg := ⟨_, rfl⟩
  rw [← hgr, ← hmn, ← hmx, ← hmd, ← hsp, ← hng]
  obtain ⟨bb, hbb⟩ : ∃ b : Bool, b = bareB (id x).nd := ⟨_, rfl⟩
  have HK : Hid (rkindN x.nd = (decide (lk = 1) && (bb))) := by
    show _ = _
    unfold rkindN
    rw [hk, hbb, hlk]; rfl
  have hA := Bx.new w 28 #[.int .u8 13, .slice x.ps ls x.cs, .slice x.pk lk x.ck, .int .i64 gr, .int .i64 mn, .int .i64 mx, .int .u8 md, .int .u8 sp, .bool ng]
  obtain ⟨W1, hW1⟩ : ∃ W, W = w.alloc (.cells #[.int .u8 13, .slice x.ps ls x.cs, .slice x.pk lk x.ck, .int .i64 gr, .int .i64 mn, .int .i64 mx, .int .u8 md, .int .u8 sp, .bool ng] 28) := ⟨_, rfl⟩
  have hs1 : W1.heap.size = w.heap.size + 1 := by rw [hW1, World.size_alloc]
  have hb1 : Below w.heap.size w W1 := by rw [hW1]; exact bl_alloc _ _
  rw [← hW1] at hA
  have hA2 := hA.below (bl_alloc W1 (.cells #[.int .u8 13, .slice x.ps ls x.cs, .slice x.pk lk x.ck, .int .i64 gr, .int .i64 mn, .int .i64 mx, .int .u8 md, .int .u8 sp, .bool ng] 28))
  obtain ⟨a0, _, a2, _, _, _, _, _, _⟩ := nine hA2
  rw [hW1] at a0 a2
  obtain ⟨W2, hW2⟩ : ∃ W, W = W1.alloc (.cells #[.int .u8 13, .slice x.ps ls x.cs, .slice x.pk lk x.ck, .int .i64 gr, .int .i64 mn, .int .i64 mx, .int .u8 md, .int .u8 sp, .bool ng] 28) := ⟨_, rfl⟩
  have hb2 : Below W1.heap.size W1 W2 := by rw [hW2]; exact bl_alloc _ _
  have hb02 : Below w.heap.size w W2 := bl_trans hb1 hb2
  have hB := Bx.new W1 28 #[.int .u8 13, .slice x.ps ls x.cs, .slice x.pk lk x.ck, .int .i64 gr, .int .i64 mn, .int .i64 mx, .int .u8 md, .int .u8 sp, .bool ng]
  rw [hs1] at hB
  obtain ⟨b0, b1, b2, b3, b4, b5, b6, b7, b8⟩ := nine hB
  rw [hW1] at b0 b1 b2 b3 b4 b5 b6 b7 b8
  have hbr := rbare_any (id x) W2
  rw [show (encN (id x)).toArray = #[.int .u8 13, .slice x.ps ls x.cs, .slice x.pk lk x.ck, .int .i64 gr, .int .i64 mn, .int .i64 mx, .int .u8 md, .int .u8 sp, .bool ng] from (by rw [show (id x : NV) = x from rfl, h, hk, ← hgr, ← hmn, ← hmx, ← hmd, ← hsp, ← hng]), ← hbb] at hbr
  have HBR := Lib.hid hbr
  have HA := Lib.hid (hA.below hb2)
  have HIN := Lib.hid (hI.below hb02)
  have HB02 := Lib.hid hb02
  have HWE : Hid ((w.alloc (.cells #[.int .u8 13, .slice x.ps ls x.cs, .slice x.pk lk x.ck, .int .i64 gr, .int .i64 mn, .int .i64 mx, .int .u8 md, .int .u8 sp, .bool ng] 28)).alloc (.cells #[.int .u8 13, .slice x.ps ls x.cs, .slice x.pk lk x.ck, .int .i64 gr, .int .i64 mn, .int .i64 mx, .int .u8 md, .int .u8 sp, .bool ng] 28) = W2) := by show _ = _; rw [hW2, hW1]
  have HLS := Lib.hid (And.intro hls hf)
  clear h hk hbb hA hW1 hs1 hb1 hA2 hW2 hb2 hb02 hB hbr hI hgr hmn hmx hmd hsp hng hls hlk hf
  by_cases h1 : lk = 1
  · have e1 : ((lk : Int) == 1) = true := by simp; omega
    have HH1 := Lib.hid h1
    clear h1
    go_enter Tryz.func135, Tryz.ntmps135
    go_wp2_with fail
    rw [HWE.out]
    refine (HBR.out).mono ?_
    rintro e w3 ⟨rfl, hb3⟩
    have HB3 := Lib.hid (bl_trans HB02.out hb3)
    have HA3 := Lib.hid (HA.out.below hb3)
    have HI3 := Lib.hid (HIN.out.below hb3)
    obtain ⟨d0, d1, d2, d3, d4, d5, d6, d7, d8⟩ := nine HA3.out
    clear hb3
    cases bb with
    | false =>
      have HF : Hid (rkindN x.nd = false) := by show _ = _; rw [HK.out]; simp
      go_wp2
      go_ret
      exact ⟨by rw [HF.out]; rfl, HB3.out⟩
    | true =>
      have HF : Hid (rkindN x.nd = true) := by show _ = _; rw [HK.out]; simp [HH1.out]
      go_wp2
      go_ret
      exact ⟨by rw [HF.out]; rfl, HB3.out⟩
  · have e1 : ((lk : Int) == 1) = false := by simp; omega
    have HF : Hid (rkindN x.nd = false) := by show _ = _; rw [HK.out]; simp [h1]
    clear h1
    go_enter Tryz.func135, Tryz.ntmps135
    go_wp2_with fail
    rw [HWE.out]
    go_ret
    exact ⟨by rw [HF.out]; rfl, HB02.out⟩
set_option maxHeartbeats 3200000 in
set_option maxRecDepth 100000 in
theorem rkind_no (x : NV) (w : World) (hk : ∀ k : Nat, 1 ≤ k → k ≤ 13 → x.nd.kind ≠ (k : Int)) :
    Calls Tryz.prog 135 #[.agg (encN x).toArray] w fun e w' => e = .returned (.bool (rkindN x.nd)) ∧ Below w.heap.size w w' := by
  obtain ⟨ls, lk, hls, hlk, h⟩ := node_lit2 x
  unfold NodeLit at h
  rw [h]
  obtain ⟨kd, hkd⟩ : ∃ z, z = x.nd.kind := ⟨_, rfl⟩
  rw [← hkd] at hk ⊢
  have n1 : kd ≠ 1 := hk 1 (by omega) (by omega)
  have e1 : (kd == 1) = false := by simpa using n1
  have n2 : kd ≠ 2 := hk 2 (by omega) (by omega)
  have e2 : (kd == 2) = false := by simpa using n2
  have n3 : kd ≠ 3 := hk 3 (by omega) (by omega)
  have e3 : (kd == 3) = false := by simpa using n3
  have n4 : kd ≠ 4 := hk 4 (by omega) (by omega)
  have e4 : (kd == 4) = false := by simpa using n4
  have n5 : kd ≠ 5 := hk 5 (by omega) (by omega)
  have e5 : (kd == 5) = false := by simpa using n5
  have n6 : kd ≠ 6 := hk 6 (by omega) (by omega)
  have e6 : (kd == 6) = false := by simpa using n6
  have n7 : kd ≠ 7 := hk 7 (by omega) (by omega)
  have e7 : (kd == 7) = false := by simpa using n7
  have n8 : kd ≠ 8 := hk 8 (by omega) (by omega)
  have e8 : (kd == 8) = false := by simpa using n8
  have n9 : kd ≠ 9 := hk 9 (by omega) (by omega)
  have e9 : (kd == 9) = false := by simpa using n9
  have n10 : kd ≠ 10 := hk 10 (by omega) (by omega)
  have e10 : (kd == 10) = false := by simpa using n10
  have n11 : kd ≠ 11 := hk 11 (by omega) (by omega)
  have e11 : (kd == 11) = false := by simpa using n11
  have n12 : kd ≠ 12 := hk 12 (by omega) (by omega)
  have e12 : (kd == 12) = false := by simpa using n12
  have n13 : kd ≠ 13 := hk 13 (by omega) (by omega)
  have e13 : (kd == 13) = false := by simpa using n13
  have HF : Hid (rkindN x.nd = false) := by show _ = _; unfold rkindN; rw [← hkd]; simp [n1, n2, n3, n4, n5, n6, n7, n8, n9, n10, n11, n12, n13]
  have hA := Bx.new w 28 #[.int .u8 kd, .slice x.ps ls x.cs, .slice x.pk lk x.ck, .int .i64 x.nd.group, .int .i64 x.nd.mn, .int .i64 x.nd.mx, .int .u8 x.nd.mode, .int .u8 x.nd.spot, .bool x.nd.neg]
  obtain ⟨W1, hW1⟩ : ∃ W, W = w.alloc (.cells #[.int .u8 kd, .slice x.ps ls x.cs, .slice x.pk lk x.ck, .int .i64 x.nd.group, .int .i64 x.nd.mn, .int .i64 x.nd.mx, .int .u8 x.nd.mode, .int .u8 x.nd.spot, .bool x.nd.neg] 28) := ⟨_, rfl⟩
  have hb1 : Below w.heap.size w W1 := by rw [hW1]; exact bl_alloc _ _
  rw [← hW1] at hA
  have hA2 := hA.below (bl_alloc W1 (.cells #[.int .u8 kd, .slice x.ps ls x.cs, .slice x.pk lk x.ck, .int .i64 x.nd.group, .int .i64 x.nd.mn, .int .i64 x.nd.mx, .int .u8 x.nd.mode, .int .u8 x.nd.spot, .bool x.nd.neg] 28))
  obtain ⟨a0, _, a2, _, _, _, _, _, _⟩ := nine hA2
  rw [hW1] at a0 a2
  have HB2 : Hid (Below w.heap.size w ((w.alloc (.cells #[.int .u8 kd, .slice x.ps ls x.cs, .slice x.pk lk x.ck, .int .i64 x.nd.group, .int .i64 x.nd.mn, .int .i64 x.nd.mx, .int .u8 x.nd.mode, .int .u8 x.nd.spot, .bool x.nd.neg] 28)).alloc (.cells #[.int .u8 kd, .slice x.ps ls x.cs, .slice x.pk lk x.ck, .int .i64 x.nd.group, .int .i64 x.nd.mn, .int .i64 x.nd.mx, .int .u8 x.nd.mode, .int .u8 x.nd.spot, .bool x.nd.neg] 28))) := bl_trans (bl_alloc _ _) (bl_alloc _ _)
  clear h hk hA hW1 hb1 hA2 hkd hls hlk n1 n2 n3 n4 n5 n6 n7 n8 n9 n10 n11 n12 n13
  go_enter Tryz.func135, Tryz.ntmps135
  go_wp2
  go_ret
  exact ⟨by rw [HF.out]; rfl, HB2.out⟩
theorem rkind_any (x : NV) (w : World) (hI : NodeIn w x) (hf : x.nd.kids.length ≤ 1000000 ∧ x.nd.set.length ≤ 1000000) :
    Calls Tryz.prog 135 #[.agg (encN x).toArray] w fun e w' => e = .returned (.bool (rkindN x.nd)) ∧ Below w.heap.size w w' := by
  by_cases h1 : x.nd.kind = 1
  · exact rkind_1 x w hI hf h1
  by_cases h2 : x.nd.kind = 2
  · exact rkind_2 x w hI hf h2
  by_cases h3 : x.nd.kind = 3
  · exact rkind_3 x w hI hf h3
  by_cases h4 : x.nd.kind = 4
  · exact rkind_4 x w hI hf h4
  by_cases h5 : x.nd.kind = 5
  · exact rkind_5 x w hI hf h5
  by_cases h6 : x.nd.kind = 6
  · exact rkind_6 x w hI hf h6
  by_cases h7 : x.nd.kind = 7
  · exact rkind_7 x w hI hf h7
  by_cases h8 : x.nd.kind = 8
  · exact rkind_8 x w hI hf h8
  by_cases h9 : x.nd.kind = 9
  · exact rkind_9 x w hI hf h9
  by_cases h10 : x.nd.kind = 10
  · exact rkind_10 x w hI hf h10
  by_cases h11 : x.nd.kind = 11
  · exact rkind_11 x w hI hf h11
  by_cases h12 : x.nd.kind = 12
  · exact rkind_12 x w hI hf h12
  by_cases h13 : x.nd.kind = 13
  · exact rkind_13 x w hI hf h13
  refine rkind_no x w fun k g1 g2 hk => ?_
  have : k = 1 ∨ k = 2 ∨ k = 3 ∨ k = 4 ∨ k = 5 ∨ k = 6 ∨ k = 7 ∨ k = 8 ∨ k = 9 ∨ k = 10 ∨ k = 11 ∨ k = 12 ∨ k = 13 := by omega
  rcases this with rfl | rfl | rfl | rfl | rfl | rfl | rfl | rfl | rfl | rfl | rfl | rfl | rfl
  · exact h1 hk
  · exact h2 hk
  · exact h3 hk
  · exact h4 hk
  · exact h5 hk
  · exact h6 hk
  · exact h7 hk
  · exact h8 hk
  · exact h9 hk
  · exact h10 hk
  · exact h11 hk
  · exact h12 hk
  · exact h13 hk
end Go.Proofs.YtjpccmiaimkmbaaGreat
