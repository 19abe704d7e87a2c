import Derived.Test.YtkefndfgkmdphaaGreatFi
import Derived.Test.YtkefndfgkmdphaaGreatLq
import Derived.Test.YtkefndfgkmdphaaGreatRd
import Derived.Deep.QuietTactic
import Derived.Test.YtkefndfgkmdphaaGreatLi

namespace Go.Proofs.YtkefndfgkmdphaaGreat
set_option maxHeartbeats 1600000
set_option maxRecDepth 100000
open Go.RowKit Tnr Tnt

theorem node_lit2 (x : NV) : ∃ ls lk, ls = x.nd.set.length ∧ lk = x.nd.kids.length ∧ NodeLit x ls lk := ⟨_, _, rfl, rfl, rfl⟩
def NodeAt (w : World) (b : Nat) (x : NV) : Prop := Bx w b 272 (encN x).toArray
def bareB (n : Nd) : Bool := n.set.length == 0 && (n.group == 0 && (n.mn == 0 && (n.mx == 0 && (n.mode == 0 && (n.spot == 0 && !n.neg)))))

theorem bare_any (b : Nat) (x : NV) (w : World) (hX : NodeAt w b x) : Calls Tryz.prog 199 #[.pointer (some ⟨b, 0, none⟩)] w fun e w' => e = .returned (.bool (bareB x.nd)) ∧ w = w' := by
 obtain ⟨ls, lk, hls, _, h⟩ := node_lit2 x
 unfold NodeLit at h
 unfold NodeAt at hX
 rw [h] at hX
 obtain ⟨_, c1, _, c3, c4, c5, c6, c7, c8⟩ := nine hX
 have HE : Hid (bareB x.nd = (x.nd.set.length == 0 && (x.nd.group == 0 && (x.nd.mn == 0 && (x.nd.mx == 0 && (x.nd.mode == 0 && (x.nd.spot == 0 && !x.nd.neg))))))) := rfl
 rw [← hls] at HE
 obtain ⟨gr, hgr⟩ : ∃ z, z = x.nd.group := ⟨_, rfl⟩
 obtain ⟨mn, hmn⟩ : ∃ z, z = x.nd.mn := ⟨_, rfl⟩
 obtain ⟨mx, hmx⟩ : ∃ z, z = x.nd.mx := ⟨_, rfl⟩
 obtain ⟨md, hmd⟩ : ∃ z, z = x.nd.mode := ⟨_, rfl⟩
 obtain ⟨sp, hsp⟩ : ∃ z, z = x.nd.spot := ⟨_, rfl⟩
 obtain ⟨ng, hng⟩ : ∃ z, z = x.nd.neg := ⟨_, rfl⟩
 rw [← hgr, ← hmn, ← hmx, ← hmd, ← hsp, ← hng] at HE
 rw [← hgr] at c3
 rw [← hmn] at c4
 rw [← hmx] at c5
 rw [← hmd] at c6
 rw [← hsp] at c7
 rw [← hng] at c8
 clear h hX hgr hmn hmx hmd hsp hng hls
 by_cases h0 : ls = 0
 ·have e0 : ((ls : Int) == 0) = true := by simpa using h0
  by_cases h1 : gr = 0
  ·have e1 : (gr == 0) = true := by simpa using h1
   by_cases h2 : mn = 0
   ·have e2 : (mn == 0) = true := by simpa using h2
    by_cases h3 : mx = 0
    ·have e3 : (mx == 0) = true := by simpa using h3
     by_cases h4 : md = 0
     ·have e4 : (md == 0) = true := by simpa using h4
      by_cases h5 : sp = 0
      ·have e5 : (sp == 0) = true := by simpa using h5
       cases ng with
       | true =>
        have HF : Hid (bareB x.nd = false) := by show _ = _; rw [HE.out]; simp [h0, h1, h2, h3, h4, h5]
        go_enter Tryz.func199, Tryz.ntmps199
        go_wp2
        go_ret
        exact ⟨by rw [HF.out]; rfl, rfl⟩
       | false =>
        have HF : Hid (bareB x.nd = true) := by show _ = _; rw [HE.out]; simp [h0, h1, h2, h3, h4, h5]
        go_enter Tryz.func199, Tryz.ntmps199
        go_wp2
        go_ret
        exact ⟨by rw [HF.out]; rfl, rfl⟩
      ·have e5 : (sp == 0) = false := by simpa using h5
       have HF : Hid (bareB x.nd = false) := by show _ = _; rw [HE.out]; simp [h0, h1, h2, h3, h4, h5]
       go_enter Tryz.func199, Tryz.ntmps199
       go_wp2
       go_ret
       exact ⟨by rw [HF.out]; rfl, rfl⟩
     ·have e4 : (md == 0) = false := by simpa using h4
      have HF : Hid (bareB x.nd = false) := by show _ = _; rw [HE.out]; simp [h0, h1, h2, h3, h4]
      go_enter Tryz.func199, Tryz.ntmps199
      go_wp2
      go_ret
      exact ⟨by rw [HF.out]; rfl, rfl⟩
    ·have e3 : (mx == 0) = false := by simpa using h3
     have HF : Hid (bareB x.nd = false) := by show _ = _; rw [HE.out]; simp [h0, h1, h2, h3]
     go_enter Tryz.func199, Tryz.ntmps199
     go_wp2
     go_ret
     exact ⟨by rw [HF.out]; rfl, rfl⟩
   ·have e2 : (mn == 0) = false := by simpa using h2
    have HF : Hid (bareB x.nd = false) := by show _ = _; rw [HE.out]; simp [h0, h1, h2]
    go_enter Tryz.func199, Tryz.ntmps199
    go_wp2
    go_ret
    exact ⟨by rw [HF.out]; rfl, rfl⟩
  ·have e1 : (gr == 0) = false := by simpa using h1
   have HF : Hid (bareB x.nd = false) := by show _ = _; rw [HE.out]; simp [h0, h1]
   go_enter Tryz.func199, Tryz.ntmps199
   go_wp2
   go_ret
   exact ⟨by rw [HF.out]; rfl, rfl⟩
 ·have e0 : ((ls : Int) == 0) = false := by simpa using h0
  have HF : Hid (bareB x.nd = false) := by show _ = _; rw [HE.out]; simp [h0]
  go_enter Tryz.func199, Tryz.ntmps199
  go_wp2
  go_ret
  exact ⟨by rw [HF.out]; rfl, rfl⟩

def noSet (x : NV) : NV := { x with nd := { x.nd with set := [] }, ps := none, cs := 0 }
def noGroup (x : NV) : NV := { x with nd := { x.nd with group := 0 } }
def noTimes (x : NV) : NV := { x with nd := { x.nd with mn := 0, mx := 0, mode := 0 } }
def noMode (x : NV) : NV := { x with nd := { x.nd with mode := 0 } }
def noSpot (x : NV) : NV := { x with nd := { x.nd with spot := 0 } }
def noNot (x : NV) : NV := { x with nd := { x.nd with neg := false } }
theorem group_any (b : Nat) (x : NV) (w : World) (hX : NodeAt w b x) : Calls Tryz.prog 201 #[.pointer (some ⟨b, 0, none⟩)] w fun e w' => e = .returned (.bool true) ∧ NodeAt w' b (noGroup x) ∧ Below b w w' := by
 have HX := lh hX
 obtain ⟨ls, lk, hls, _, h⟩ := node_lit2 x
 unfold NodeLit at h
 unfold NodeAt at hX
 rw [h] at hX
 obtain ⟨_, c1, _, c3, c4, c5, c6, c7, c8⟩ := nine hX
 have f3 := hX.free 3
 clear h hX hls
 go_enter Tryz.func201, Tryz.ntmps201
 go_wp2
 go_ret
 refine ⟨rfl, HX.out.set 3 _, (Below.refl _ _).setCell (p := ⟨b, 3, none⟩) (Nat.le_refl _) _⟩
theorem not_any (b : Nat) (x : NV) (w : World) (hX : NodeAt w b x) : Calls Tryz.prog 204 #[.pointer (some ⟨b, 0, none⟩)] w fun e w' => e = .returned (.bool true) ∧ NodeAt w' b (noNot x) ∧ Below b w w' := by
 have HX := lh hX
 obtain ⟨ls, lk, hls, _, h⟩ := node_lit2 x
 unfold NodeLit at h
 unfold NodeAt at hX
 rw [h] at hX
 obtain ⟨_, c1, _, c3, c4, c5, c6, c7, c8⟩ := nine hX
 have f3 := hX.free 8
 clear h hX hls
 go_enter Tryz.func204, Tryz.ntmps204
 go_wp2
 go_ret
 refine ⟨rfl, HX.out.set 8 _, (Below.refl _ _).setCell (p := ⟨b, 8, none⟩) (Nat.le_refl _) _⟩
def spotB (n : Nd) : Bool := decide (1 ≤ n.spot) && decide (n.spot ≤ 4)
theorem spot_any (b : Nat) (x : NV) (w : World) (hX : NodeAt w b x) : Calls Tryz.prog 203 #[.pointer (some ⟨b, 0, none⟩)] w fun e w' => e = .returned (.bool (spotB x.nd)) ∧ NodeAt w' b (noSpot x) ∧ Below b w w' := by
 have HX := lh hX
 obtain ⟨ls, lk, hls, _, h⟩ := node_lit2 x
 unfold NodeLit at h
 unfold NodeAt at hX
 rw [h] at hX
 obtain ⟨_, c1, _, c3, c4, c5, c6, c7, c8⟩ := nine hX
 have HE : Hid (spotB x.nd = (decide (1 ≤ x.nd.spot) && decide (x.nd.spot ≤ 4))) := rfl
 obtain ⟨sp, hsp⟩ : ∃ z, z = x.nd.spot := ⟨_, rfl⟩
 rw [← hsp] at HE c7
 have f3 := hX.free 7
 clear h hX hls hsp
 by_cases h1 : 1 ≤ sp
 ·have e1 : decide ((1 : Int) ≤ sp) = true := by simpa using h1
  by_cases h2 : sp ≤ 4
  ·have e2 : decide (sp ≤ (4 : Int)) = true := by simpa using h2
   have HF : Hid (spotB x.nd = true) := by show _ = _; rw [HE.out, e1, e2]; rfl
   clear h1 h2
   go_enter Tryz.func203, Tryz.ntmps203
   go_wp2
   go_ret
   exact ⟨by rw [HF.out]; rfl, HX.out.set 7 _, (Below.refl _ _).setCell (p := ⟨b, 7, none⟩) (Nat.le_refl _) _⟩
  ·have e2 : decide (sp ≤ (4 : Int)) = false := by simpa using h2
   have HF : Hid (spotB x.nd = false) := by show _ = _; rw [HE.out, e1, e2]; rfl
   clear h1 h2
   go_enter Tryz.func203, Tryz.ntmps203
   go_wp2
   go_ret
   exact ⟨by rw [HF.out]; rfl, HX.out.set 7 _, (Below.refl _ _).setCell (p := ⟨b, 7, none⟩) (Nat.le_refl _) _⟩
 ·have e1 : decide ((1 : Int) ≤ sp) = false := by simpa using h1
  have HF : Hid (spotB x.nd = false) := by show _ = _; rw [HE.out, e1]; rfl
  clear h1
  go_enter Tryz.func203, Tryz.ntmps203
  go_wp2
  go_ret
  exact ⟨by rw [HF.out]; rfl, HX.out.set 7 _, (Below.refl _ _).setCell (p := ⟨b, 7, none⟩) (Nat.le_refl _) _⟩

def setB (n : Nd) : Bool := decide (n.set.length ≤ 2000) && rightB n.set
theorem set_any (b : Nat) (x : NV) (w : World) (hX : NodeAt w b x) (hI : NodeIn w x) (hr : ∀ g off, x.ps = some ⟨g, off, none⟩ → x.nd.set ≠ [] → g ≠ b) : Calls Tryz.prog 200 #[.pointer (some ⟨b, 0, none⟩)] w fun e w' => e = .returned (.bool (setB x.nd)) ∧ NodeAt w' b (noSet x) ∧ Below b w w' := by
 have HX := lh hX
 obtain ⟨ls, lk, hls, _, h⟩ := node_lit2 x
 unfold NodeLit at h
 unfold NodeAt at hX
 rw [h] at hX
 obtain ⟨_, c1, _, c3, c4, c5, c6, c7, c8⟩ := nine hX
 have HE : Hid (setB x.nd = (decide (x.nd.set.length ≤ 2000) && rightB x.nd.set)) := rfl
 have f3 := hX.free 1
 have HS : Hid (SlR (w.setCell ⟨b, 1, none⟩ (.slice none 0 0)) x.ps x.nd.set) := by
  show SlR _ _ _
  rcases hI.set with h0 | ⟨g, off, h1, h2⟩
  ·exact .inl h0
  ·refine .inr ⟨g, off, h1, fun i hi => ?_⟩
   have hne : g ≠ b := hr g off h1 (by intro e; rw [e] at hi; simp at hi)
   have hk : (w.setCell ⟨b, 1, none⟩ (.slice none 0 0)).heap[g]? = w.heap[g]? := Below.heap_setCell _ _ _ g hne
   exact ⟨(World.cell?_of_block hk).trans (h2 i hi).1, (World.cell?_of_block hk).trans (h2 i hi).2⟩
 have HB : Hid (NodeAt (w.setCell ⟨b, 1, none⟩ (.slice none 0 0)) b (noSet x) ∧ Below b w (w.setCell ⟨b, 1, none⟩ (.slice none 0 0))) := ⟨HX.out.set 1 _, (Below.refl _ _).setCell (p := ⟨b, 1, none⟩) (Nat.le_refl _) _⟩
 have HL := lh hls
 clear h hX hls hI hr
 by_cases h1 : ls ≤ 2000
 ·have e1 : decide ((ls : Int) ≤ 2000) = true := by simp; omega
  have HC := lh (right_any x.ps x.cs x.nd.set _ HS.out (by have := HL.out; omega))
  rw [← HL.out] at HC
  clear h1
  go_enter Tryz.func200, Tryz.ntmps200
  go_wp2_with (go_at_call 229; refine (HC.out).mono ?_; rintro e w' ⟨rfl, hb⟩)
  go_ret
  refine ⟨by rw [HE.out, ← HL.out, show decide (ls ≤ 2000) = true by exact decide_eq_true (by have := of_decide_eq_true e1; omega)]; rfl, HB.out.1.below hb, HB.out.2.trans (hb.mono ?_)⟩
  have := HB.out.1.lt
  omega
 ·have e1 : decide ((ls : Int) ≤ 2000) = false := by simp; omega
  have HF : Hid (setB x.nd = false) := by show _ = _; rw [HE.out, ← HL.out]; simp; omega
  clear h1
  go_enter Tryz.func200, Tryz.ntmps200
  go_wp2
  go_ret
  exact ⟨by rw [HF.out]; rfl, HB.out.1, HB.out.2⟩
theorem NodeAt.below {w w' : World} {b : Nat} {x : NV} (h : NodeAt w b x) (hb : Below w.heap.size w w') : NodeAt w' b x := Bx.below h hb

def modeB (ms : List Int) (n : Nd) : Bool := decide (n.mode ∈ ms)
theorem mode_any (b : Nat) (x : NV) (ms : List Int) (p : Option Addr) (n c : Nat) (w : World) (hX : NodeAt w b x) (hn : n = ms.length) (hl : n ≤ 1000000) (hp : SlU w p ms) (hr : ∀ g off, p = some ⟨g, off, none⟩ → g ≠ b) : Calls Tryz.prog 230 #[.pointer (some ⟨b, 0, none⟩), .slice p n c] w fun e w' => e = .returned (.bool (modeB ms x.nd)) ∧ NodeAt w' b (noMode x) ∧ Below b w w' := by
 have HX := lh hX
 obtain ⟨ls, lk, hls, _, h⟩ := node_lit2 x
 unfold NodeLit at h
 unfold NodeAt at hX
 rw [h] at hX
 obtain ⟨_, c1, _, c3, c4, c5, c6, c7, c8⟩ := nine hX
 have f3 := hX.free 6
 have HS : Hid (SlU (w.setCell ⟨b, 6, none⟩ (.int .u8 0)) p ms) := by
  show SlU _ _ _
  rcases hp with h0 | ⟨g, off, rfl, h2⟩
  ·exact .inl h0
  ·exact SlU.same (.inr ⟨g, off, rfl, h2⟩) (Below.heap_setCell _ _ _ g (hr g off rfl))
 have HB : Hid (NodeAt (w.setCell ⟨b, 6, none⟩ (.int .u8 0)) b (noMode x) ∧ Below b w (w.setCell ⟨b, 6, none⟩ (.int .u8 0))) := ⟨HX.out.set 6 _, (Below.refl _ _).setCell (p := ⟨b, 6, none⟩) (Nat.le_refl _) _⟩
 have HC := lh (containsM_any p c n ms x.nd.mode _ hn HS.out hl)
 clear h hX hls hr hp hn hl
 go_enter Tryz.func230, Tryz.ntmps230
 go_wp2_with (go_at_call 235; refine (HC.out).mono ?_; rintro e w' ⟨⟨bb, rfl, hbb⟩, rfl⟩)
 go_ret
 refine ⟨?_, HB.out.1, HB.out.2⟩
 have : bb = modeB ms x.nd := by unfold modeB; cases bb <;> simp_all
 rw [this]; rfl
def tryB (n : Nd) : Bool := modeB [1, 2] n
theorem try_any (b : Nat) (x : NV) (w : World) (hX : NodeAt w b x) : Calls Tryz.prog 205 #[.pointer (some ⟨b, 0, none⟩)] w fun e w' => e = .returned (.bool (tryB x.nd)) ∧ NodeAt w' b (noMode x) ∧ Below b w w' := by
 have hS := slu_new w [1, 2] 25 #[.int .u8 1, .int .u8 2] rfl
 have HC := lh (mode_any b x [1, 2] (some ⟨w.heap.size, 0, none⟩) 2 2 (w.alloc (.cells #[.int .u8 1, .int .u8 2] 25)) (Bx.below hX (bl_alloc _ _)) rfl (by omega) hS (fun g off e => by cases e; have := Bx.lt hX; omega))
 have HX := lh hX
 clear hX hS
 go_enter Tryz.func205, Tryz.ntmps205
 go_wp2_with (go_at_call 230; refine (HC.out).mono ?_; rintro e w' ⟨rfl, h1, h2⟩)
 go_ret
 exact ⟨rfl, h1, ((bl_alloc _ _).mono (Nat.le_of_lt HX.out.lt)).trans h2⟩
def timesB (n : Nd) : Bool := decide (0 ≤ n.mn) && (decide (n.mn ≤ 1000) && (n.mx == -1 || (decide (n.mn ≤ n.mx) && decide (n.mx ≤ 1000))))
def repeatB (n : Nd) : Bool := timesB n && modeB [1, 2, 3] n
theorem repeat_any (b : Nat) (x : NV) (w : World) (hX : NodeAt w b x) : Calls Tryz.prog 202 #[.pointer (some ⟨b, 0, none⟩)] w fun e w' => e = .returned (.bool (repeatB x.nd)) ∧ (repeatB x.nd = true → NodeAt w' b (noTimes x)) ∧ Below b w w' := by
 have HX := lh hX
 have hq : ∀ nq, NodeAt (((w.drewN nq).setCell ⟨b, 4, none⟩ (.int .i64 0)).setCell ⟨b, 5, none⟩ (.int .i64 0)) b { x with nd := { x.nd with mn := 0, mx := 0 } } := fun nq => ((show NodeAt (w.drewN nq) b x from hX).set 4 (.int .i64 0)).set 5 (.int .i64 0)
 have hd : ∀ nq, Below b w (w.drewN nq) := fun nq => ⟨rfl, rfl, rfl, Nat.le_refl _, fun _ _ => rfl⟩
 have HC0 : Hid (∀ nq, Below b w (((w.drewN nq).setCell ⟨b, 4, none⟩ (.int .i64 0)).setCell ⟨b, 5, none⟩ (.int .i64 0))) := fun nq => ((hd nq).setCell (p := ⟨b, 4, none⟩) (Nat.le_refl _) _).setCell (p := ⟨b, 5, none⟩) (Nat.le_refl _) _
 have HC : Hid (∀ nq, Calls Tryz.prog 230 #[.pointer (some ⟨b, 0, none⟩), .slice (some ⟨w.heap.size, 0, none⟩) 3 3] ((((w.drewN nq).setCell ⟨b, 4, none⟩ (.int .i64 0)).setCell ⟨b, 5, none⟩ (.int .i64 0)).alloc (.cells #[.int .u8 1, .int .u8 2, .int .u8 3] 25)) fun e w' => e = .returned (.bool (modeB [1, 2, 3] x.nd)) ∧ NodeAt w' b (noTimes x) ∧ Below b ((((w.drewN nq).setCell ⟨b, 4, none⟩ (.int .i64 0)).setCell ⟨b, 5, none⟩ (.int .i64 0)).alloc (.cells #[.int .u8 1, .int .u8 2, .int .u8 3] 25)) w') := fun nq => by
  have hsz : (((w.drewN nq).setCell ⟨b, 4, none⟩ (.int .i64 0)).setCell ⟨b, 5, none⟩ (.int .i64 0)).heap.size = w.heap.size := by simp
  have hS := slu_new (((w.drewN nq).setCell ⟨b, 4, none⟩ (.int .i64 0)).setCell ⟨b, 5, none⟩ (.int .i64 0)) [1, 2, 3] 25 #[.int .u8 1, .int .u8 2, .int .u8 3] rfl
  rw [hsz] at hS
  exact mode_any b _ [1, 2, 3] (some ⟨w.heap.size, 0, none⟩) 3 3 _ ((hq nq).below (bl_alloc _ _)) rfl (by omega) hS (fun g off e => by cases e; have := Bx.lt hX; omega)
 have HB : Hid (∀ nq, Below b w ((((w.drewN nq).setCell ⟨b, 4, none⟩ (.int .i64 0)).setCell ⟨b, 5, none⟩ (.int .i64 0)).alloc (.cells #[.int .u8 1, .int .u8 2, .int .u8 3] 25))) := fun nq => (HC0.out nq).trans ((bl_alloc _ _).mono (Nat.le_of_lt (hq nq).lt))
 obtain ⟨ls, lk, hls, _, h⟩ := node_lit2 x
 unfold NodeLit at h
 unfold NodeAt at hX
 rw [h] at hX
 obtain ⟨_, c1, _, c3, c4, c5, c6, c7, c8⟩ := nine hX
 have f4 := hX.free 4
 have f5 := hX.free 5
 obtain ⟨mn, hmn⟩ : ∃ z, z = x.nd.mn := ⟨_, rfl⟩
 obtain ⟨mx, hmx⟩ : ∃ z, z = x.nd.mx := ⟨_, rfl⟩
 rw [← hmn] at c4
 rw [← hmx] at c5
 have HMN := lh hmn
 have HMX := lh hmx
 clear h hX hls hq hd hmn hmx
 by_cases h1 : 0 ≤ mn
 ·have e1 : decide ((0 : Int) ≤ mn) = true := by simpa using h1
  by_cases h2 : mn ≤ 1000
  ·have e2 : decide (mn ≤ (1000 : Int)) = true := by simpa using h2
   by_cases h3 : mx = -1
   ·have e3 : (mx == -1) = true := by simpa using h3
    have HT : Hid (timesB x.nd = true) := by show _ = _; unfold timesB; rw [← HMN.out, ← HMX.out]; simp; omega
    clear h1 h2
    go_enter Tryz.func202, Tryz.ntmps202
    go_wp2
    go_quiet (fail)
    go_wp2_with (go_at_call 230; refine (HC.out nq).mono ?_; rintro e w' ⟨rfl, hb1, hb2⟩)
    go_ret
    exact ⟨by unfold repeatB; rw [HT.out]; rfl, fun _ => hb1, (HB.out nq).trans hb2⟩
   ·have e3 : (mx == -1) = false := by simpa using h3
    by_cases h4 : mn ≤ mx
    ·have e4 : decide (mn ≤ mx) = true := by simpa using h4
     by_cases h5 : mx ≤ 1000
     ·have e5 : decide (mx ≤ (1000 : Int)) = true := by simpa using h5
      have HT : Hid (timesB x.nd = true) := by show _ = _; unfold timesB; rw [← HMN.out, ← HMX.out]; simp; omega
      clear h1 h2 h3 h4 h5
      go_enter Tryz.func202, Tryz.ntmps202
      go_wp2
      go_quiet (fail)
      go_wp2_with (go_at_call 230; refine (HC.out nq).mono ?_; rintro e w' ⟨rfl, hb1, hb2⟩)
      go_ret
      exact ⟨by unfold repeatB; rw [HT.out]; rfl, fun _ => hb1, (HB.out nq).trans hb2⟩
     ·have e5 : decide (mx ≤ (1000 : Int)) = false := by simpa using h5
      have HT : Hid (timesB x.nd = false) := by show _ = _; unfold timesB; rw [← HMN.out, ← HMX.out]; simp; omega
      clear h1 h2 h3 h4 h5
      go_enter Tryz.func202, Tryz.ntmps202
      go_wp2
      go_quiet (fail)
      go_wp2
      go_ret
      exact ⟨by unfold repeatB; rw [HT.out]; rfl, fun h => by unfold repeatB at h; rw [HT.out] at h; simp at h, (HC0.out nq)⟩
    ·have e4 : decide (mn ≤ mx) = false := by simpa using h4
     have HT : Hid (timesB x.nd = false) := by show _ = _; unfold timesB; rw [← HMN.out, ← HMX.out]; simp; omega
     clear h1 h2 h3 h4
     go_enter Tryz.func202, Tryz.ntmps202
     go_wp2
     go_quiet (fail)
     go_wp2
     go_ret
     exact ⟨by unfold repeatB; rw [HT.out]; rfl, fun h => by unfold repeatB at h; rw [HT.out] at h; simp at h, (HC0.out nq)⟩
  ·have e2 : decide (mn ≤ (1000 : Int)) = false := by simpa using h2
   have HT : Hid (timesB x.nd = false) := by show _ = _; unfold timesB; rw [← HMN.out, ← HMX.out]; simp; omega
   clear h1 h2
   go_enter Tryz.func202, Tryz.ntmps202
   go_wp2
   go_quiet (fail)
   go_wp2
   go_ret
   exact ⟨by unfold repeatB; rw [HT.out]; rfl, fun h => by unfold repeatB at h; rw [HT.out] at h; simp at h, (HC0.out nq)⟩
 ·have e1 : decide ((0 : Int) ≤ mn) = false := by simpa using h1
  have HT : Hid (timesB x.nd = false) := by show _ = _; unfold timesB; rw [← HMN.out, ← HMX.out]; simp; omega
  clear h1
  go_enter Tryz.func202, Tryz.ntmps202
  go_wp2
  go_quiet (fail)
  go_wp2
  go_ret
  exact ⟨by unfold repeatB; rw [HT.out]; rfl, fun h => by unfold repeatB at h; rw [HT.out] at h; simp at h, (HC0.out nq)⟩

end Go.Proofs.YtkefndfgkmdphaaGreat


namespace Go.Proofs.YtkefndfgkmdphaaGreat
set_option maxHeartbeats 3200000
set_option maxRecDepth 100000
open Go.RowKit Tnr Tnt

def RFPost (n : Nat) (xs : List NV) (w : World) (e : Ending) (w' : World) : Prop :=
 Below w.heap.size w w' ∧ ((ordT (nds xs) = none ∧ ∃ a m d, e = .returned (.tuple #[.slice a m d, .bool false])) ∨
  ∃ l pf cf, ordT (nds xs) = some l ∧ n = l.length ∧ e = .returned (.tuple #[.slice pf n cf, .bool true]) ∧ OwnZ w' w.heap.size (.slice pf n cf) (fsZ l))
theorem drop_rev {l : List Int} {j : Nat} (h : j < l.length) : (l.drop j).reverse = (l.drop (j + 1)).reverse ++ [gz l j] := by
 rw [gz_get h, List.drop_eq_getElem_cons h, List.reverse_cons]
theorem rk_bad {F : Nat → Nat × Nat} {l : List Int} {j f d f1 d1 : Nat} (hj : j < l.length) (h : rk F (l.drop (j + 1)).reverse f d = some (f1, d1)) (hb : f1 = 0 ∨ gz l j ≠ (f1 : Int) - 1) : rk F l.reverse f d = none := by
 have h1 : rk F (l.drop j).reverse f d = none := by rw [drop_rev hj, rk_snoc h, if_pos hb]
 have e : l.reverse = (l.drop j).reverse ++ (l.take j).reverse := by rw [← List.reverse_append, List.take_append_drop]
 rw [e]; exact rk_prefix h1
theorem rk_good {F : Nat → Nat × Nat} {l : List Int} {j f d f1 d1 : Nat} (hj : j < l.length) (h : rk F (l.drop (j + 1)).reverse f d = some (f1, d1)) (h0 : f1 ≠ 0) (hb : gz l j = (f1 : Int) - 1) : rk F (l.drop j).reverse f d = some ((F (f1 - 1)).1, max d1 (F (f1 - 1)).2) := by
 rw [drop_rev hj, rk_snoc h, if_neg (by omega)]
theorem rfirsts_any (p : Option Addr) (n c : Nat) (xs : List NV) (names : Value) (w : World) (hn : n = xs.length) (hnm : n ≤ 1000000000) (hp : SlN w p xs) (hf : Few xs) :
  Calls Tryz.prog 44 #[.agg #[.slice p n c, names]] w (RFPost n xs w) := by
 obtain ⟨i0, hinf, hz0, hz1, hz2⟩ := info_parts info_intz
 obtain ⟨W1, hW1⟩ : ∃ W, W = w.alloc (.cells #[.slice p n c, names] 34) := ⟨_, rfl⟩
 have hb1 : Below w.heap.size w W1 := by rw [hW1]; exact bl_alloc _ _
 have hT : Bx W1 w.heap.size 34 #[.slice p n c, names] := by rw [hW1]; exact Bx.new _ _ _
 obtain ⟨b0, hb0⟩ : ∃ b, b = w.heap.size := ⟨_, rfl⟩
 rw [← hb0] at hT
 have cT0 : W1.cell? ⟨b0, 0, none⟩ = some (.slice p n c) := hT.cell rfl
 have HP := lh (hp.below hb1)
 have HN := lh hn
 have HF := lh hf
 have HT := lh hT
 have HB1 := lh hb1
 have HW1 := lh (And.intro hW1 hb0)
 have hnI : (n : Int) ≤ 1000000000 := by omega
 clear hp hn hf hb1 hT hW1 hb0
 by_cases hn0 : n = 0
 ·have hq : ((n : Int) == 0) = true := by rw [hn0]; rfl
  have HZ : Hid (ordT (nds xs) = none) := by
   show _ = none
   unfold ordT
   rw [if_pos (.inl (by rw [nds_length, ← HN.out]; exact hn0))]
  clear hn0
  go_enter Tryz.func44, Tryz.ntmps44
  go_wp2_with fail
  rw [← HW1.out.2, show w.alloc (.cells #[.slice p n c, names] 34) = W1 from HW1.out.1.symm]
  go_wp2
  refine bodyPost_ret (v := .tuple #[.slice none 0 0, .bool false]) (by simp [results, Tryz.results44, go_sem]) rfl ⟨HB1.out, .inl ⟨HZ.out, _, _, _, rfl⟩⟩
 ·have hq : ((n : Int) == 0) = false := by simpa using hn0
  by_cases hn4 : 4000 < n
  ·have hq4 : decide ((4000 : Int) < n) = true := by simp; omega
   have HZ : Hid (ordT (nds xs) = none) := by
    show _ = none
    unfold ordT
    rw [if_pos (.inr (by rw [nds_length, ← HN.out]; exact hn4))]
   clear hn0
   go_enter Tryz.func44, Tryz.ntmps44
   go_wp2_with fail
   rw [← HW1.out.2, show w.alloc (.cells #[.slice p n c, names] 34) = W1 from HW1.out.1.symm]
   go_wp2
   refine bodyPost_ret (v := .tuple #[.slice none 0 0, .bool false]) (by simp [results, Tryz.results44, go_sem]) rfl ⟨HB1.out, .inl ⟨HZ.out, _, _, _, rfl⟩⟩
  ·have hn4I : (n : Int) ≤ 4000 := by omega
   have hq4 : decide ((4000 : Int) < n) = false := by simp; omega
   have HN4 : Hid (1 ≤ n ∧ n ≤ 4000) := ⟨by omega, by omega⟩
   clear hn0 hn4 hnI hnm
   go_enter Tryz.func44, Tryz.ntmps44
   go_wp2_with fail
   rw [← HW1.out.2, show w.alloc (.cells #[.slice p n c, names] 34) = W1 from HW1.out.1.symm]
   go_wp2
   clear cT0
   go_loopw [4, 5] (fun ov iv wr => ∃ (k : Nat) (q : Option Addr) (d : Nat) (acc : List (Nat × Nat)), k ≤ n ∧ ov = .slice q k d ∧ iv = .int .i64 (k : Nat) ∧ Hid (k = acc.length) ∧ Hid (FOk (gf acc) k) ∧ Hid (ordG (nds xs) [] = ordG ((nds xs).drop k) acc) ∧ Hid (OwnZ wr W1.heap.size (.slice q k d) (fsZ acc)) ∧ Hid (Below W1.heap.size W1 wr)) (fun _ iv _ => n - (intOf iv).toNat)
   case atStart => exact ⟨0, none, 0, [], Nat.zero_le _, rfl, rfl, rfl, fun j hj => absurd hj (Nat.not_lt_zero _), rfl, ownZ_nil _ _, Below.refl _ _⟩
   case round =>
    obtain ⟨k, q, d, acc, hk, rfl, rfl, HL, HFO, HG, HO, HW⟩ := hrel
    rename World => wr
    have hTr := HT.out.below HW.out
    have cT0 : wr.cell? ⟨b0, 0, none⟩ = some (.slice p n c) := hTr.cell rfl
    clear hTr
    by_cases hkn : k < n
    ·have hkI : (k : Int) < n := by omega
     have hkx : k < xs.length := by have := HN.out; omega
     obtain ⟨b, o, rfl, hcells, hin⟩ := (HP.out.below HW.out).at hkx
     have HGS := lh (nds_drop hkx)
     have hfew := HF.out _ (gn_mem hkx)
     obtain ⟨x, hx⟩ : ∃ x, x = gn xs k := ⟨_, rfl⟩
     rw [← hx] at hcells hin HGS hfew
     obtain ⟨ks, hks⟩ : ∃ l, l = x.nd.kids := ⟨_, rfl⟩
     obtain ⟨pk, hpk⟩ : ∃ q, q = x.pk := ⟨_, rfl⟩
     obtain ⟨ck, hck⟩ : ∃ q, q = x.ck := ⟨_, rfl⟩
     have ckk := hcells.2.2.1
     have hkz := hin.kids
     rw [← hks, ← hpk, ← hck] at ckk
     rw [← hks, ← hpk] at hkz
     rw [← hks] at hfew
     obtain ⟨lk, hlk⟩ : ∃ m, m = ks.length := ⟨_, rfl⟩
     rw [← hlk] at ckk hfew
     have HKZ := lh hkz
     have HLK := lh (And.intro hlk hks)
     have hlkI : (lk : Int) ≤ 1000000 := by omega
     clear hx hcells hin hfew hkz hlk hks hkx hpk hck
     go_wp2
     go_loopw [6, 8] (fun fv jv wq => ∃ (z : Int) (f dd j : Nat), fv = .int .i64 (f : Nat) ∧ jv = .int .i64 z ∧ z = (j : Int) - 1 ∧ j ≤ lk ∧ f ≤ k ∧ Hid (rk (gf acc) (ks.drop j).reverse k 0 = some (f, dd)) ∧ wq = wr) (fun _ jv _ => (intOf jv + 1).toNat)
     case atStart => exact ⟨(lk : Int) - 1, k, 0, lk, rfl, by go_num, rfl, Nat.le_refl _, Nat.le_refl _, by (show rk _ _ _ _ = _; rw [HLK.out.1, List.drop_length]; rfl), by first | rfl | trivial⟩
     case round =>
      obtain ⟨z, f, dd, j, rfl, rfl, hz, hj, hfk, HR, hwq⟩ := hrel
      rename World => wq
      subst hwq
      have HOW : Hid (OwnZ wq W1.heap.size (.slice q k d) (fsZ acc)) := HO
      by_cases hj0 : j = 0
      ·subst hj0
       obtain rfl : z = -1 := by omega
       have HR0 : Hid (rk (gf acc) x.nd.kids.reverse acc.length 0 = some (f, dd)) := by
        have h := HR.out
        rw [List.drop_zero, HLK.out.2] at h
        rw [← HL.out]; exact h
       have HRO := lh (ownZ_row HO.out (by rw [fsZ_length]; exact HL.out))
       have hsz := HW.out.size
       have HS1 := HB1.out.size
       have hle := rk_le HFO.out (Nat.le_refl k) (Nat.zero_le k) (show rk (gf acc) x.nd.kids.reverse k 0 = some (f, dd) by rw [HL.out]; exact HR0.out)
       have HLE := lh hle
       clear hle hz
       go_wp2_with (at_builtin; refine wpList_append_own _ rfl _ _ 24 rfl W1.heap.size 3 i0 (.int .i64 0) 1 8 Tryz.underlying24 hinf hz0 hz1 hz2 rfl (by decide) (.slice q k d) k _ rfl (HRO.out.alloc _) ⟨wq.heap.size, 0, none⟩ 1 1 [.int .i64 (f : Nat)] rfl rfl (cells_one_z _ _ _) (by simp [Value.oneCell']) (by have := HN4.out; simp only [maxLen]; omega) (by have := HN4.out; omega) (by simp; omega) ?_)
       intro v5 w5 hown5 hgrow5 _
       have hO5 : OwnZ w5 W1.heap.size v5 (fsZ acc ++ [(f : Int)]) := ownZ_appended (by rw [fsZ_length]; exact HL.out) hown5
       obtain ⟨q5, d5, e5, _⟩ := ownZ_form hO5
       rw [List.length_append, fsZ_length, ← HL.out] at e5
       obtain rfl : v5 = .slice q5 (k + 1) d5 := e5
       have HO5 : Hid (OwnZ w5 W1.heap.size (.slice q5 (k + 1) d5) (fsZ (acc ++ [(f, dd + 1)]))) := by show OwnZ _ _ _ _; rw [fsZ_snoc]; exact hO5
       have HB5 : Hid (Below W1.heap.size W1 w5) := (HW.out.alloc HW.out.size _).grown hgrow5 (by simp; omega) (fun g hg => (HRO.out.lt g hg).1)
       clear hown5 hgrow5 hO5 hsz HS1
       go_wp2
       go_roundw
       case rel => exact ⟨k + 1, q5, d5, acc ++ [(f, dd + 1)], by omega, rfl, by go_num, (by show _ = _; rw [List.length_append, ← HL.out]; rfl), fok_snoc HL.out HFO.out HLE.out.1 HLE.out.2, (by show _ = _; rw [HG.out, HGS.out, ordG_cons HR0.out]), HO5.out, HB5.out⟩
       case measure => simp [intOf] <;> omega
      ·obtain ⟨jj, rfl⟩ : ∃ m, j = m + 1 := ⟨j - 1, by omega⟩
       obtain rfl : z = (jj : Nat) := by omega
       have hjjI : (jj : Int) < lk := by omega
       have hjx : jj < ks.length := by have := HLK.out.1; omega
       obtain ⟨b2, o2, rfl, ck2⟩ := slz_at HKZ.out hjx
       have HBAD : Hid (f = 0 ∨ gz ks jj ≠ (f : Int) - 1 → ordT (nds xs) = none) := fun hb => by
        have h1 := rk_bad hjx HR.out hb
        have h2 : ordG (nds xs) [] = none := by
         rw [HG.out, HGS.out]
         refine ordG_none ?_
         rw [← HL.out, ← HLK.out.2]; exact h1
        unfold ordT
        rw [if_neg (by have := HN4.out; have := HN.out; rw [nds_length]; omega), h2]
       have HGOOD : Hid (f ≠ 0 → gz ks jj = (f : Int) - 1 → rk (gf acc) (ks.drop jj).reverse k 0 = some ((gf acc (f - 1)).1, max dd (gf acc (f - 1)).2)) := fun h0 hb => rk_good hjx HR.out h0 hb
       obtain ⟨x2, hx2⟩ : ∃ y, y = gz ks jj := ⟨_, rfl⟩
       rw [← hx2] at ck2 HBAD HGOOD
       have hwj : IntKind.i64.wrap ((jj : Int) - 1) = (jj : Int) - 1 := by rw [IntKind.wrap_i64]; omega
       have hwf : IntKind.i64.wrap ((f : Int) - 1) = (f : Int) - 1 := by have := HN4.out; rw [IntKind.wrap_i64]; omega
       clear hx2 hjx hz
       by_cases hxf : x2 = (f : Int) - 1
       ·by_cases hf0 : f = 0
        ·have e2 : ((f : Int) == 0) = true := by rw [hf0]; rfl
         have e1 : (x2 != (f : Int) - 1) = false := by simp [hxf]
         have HZ := lh (HBAD.out (.inl hf0))
         clear hf0 hxf
         go_wp2
         refine bodyPost_ret (v := .tuple #[.slice none 0 0, .bool false]) (by simp [results, Tryz.results44, go_sem]) rfl ⟨HB1.out.trans (HW.out.mono HB1.out.size), .inl ⟨HZ.out, _, _, _, rfl⟩⟩
        ·obtain ⟨f1, rfl⟩ : ∃ m, f = m + 1 := ⟨f - 1, by omega⟩
         obtain rfl : x2 = (f1 : Nat) := by omega
         have e2 : (((f1 + 1 : Nat) : Int) == 0) = false := by simp; omega
         have e1 : (((f1 : Nat) : Int) != ((f1 + 1 : Nat) : Int) - 1) = false := by simp
         have hf1k : (f1 : Int) < k := by omega
         have hr2 := HGOOD.out (by omega) (by omega)
         rw [show f1 + 1 - 1 = f1 by omega] at hr2
         have HR2 := lh hr2
         obtain ⟨g, hqg, _, cg, _, _⟩ := ownZ_at HOW.out (by rw [fsZ_length]; exact HL.out) (show f1 < k by omega)
         rw [fsZ_at (by have := HL.out; omega)] at cg
         have hle2 := (HFO.out f1 (by omega)).1
         obtain ⟨f2, hf2⟩ : ∃ m, m = (gf acc f1).1 := ⟨_, rfl⟩
         rw [← hf2] at cg hle2 HR2
         subst hqg
         clear hf2 hr2 HGOOD HBAD hxf hf0
         go_wp2
         go_roundw
         case rel => exact ⟨(jj : Int) - 1, f2, _, jj, rfl, by go_num, rfl, by omega, by omega, HR2.out, by first | rfl | trivial⟩
         case measure => simp [intOf] <;> omega
       ·have e1 : (x2 != (f : Int) - 1) = true := by simpa using hxf
        have HZ := lh (HBAD.out (.inr hxf))
        clear hxf
        go_wp2
        refine bodyPost_ret (v := .tuple #[.slice none 0 0, .bool false]) (by simp [results, Tryz.results44, go_sem]) rfl ⟨HB1.out.trans (HW.out.mono HB1.out.size), .inl ⟨HZ.out, _, _, _, rfl⟩⟩
    ·obtain rfl : k = n := by omega
     have hkI : (k : Int) ≤ k := by omega
     obtain ⟨j, hj⟩ : ∃ j, j = k - 1 := ⟨_, rfl⟩
     have hjk : j < k := by have := HN4.out; omega
     obtain ⟨g, hqg, _, cg, _, _⟩ := ownZ_at HO.out (by rw [fsZ_length]; exact HL.out) hjk
     rw [fsZ_at (by have := HL.out; omega)] at cg
     have hjI : (k : Int) - 1 = (j : Nat) := by have := HN4.out; omega
     have hjkI : (j : Int) < k := by omega
     have h1I : (1 : Int) ≤ k := by have := HN4.out; omega
     have HOR : Hid (ordT (nds xs) = if (gf acc j).1 = 0 then some acc else none) := by
      show _ = _
      have h := HG.out
      rw [HN.out, ← nds_length, List.drop_length] at h
      unfold ordT
      rw [if_neg (by have := HN4.out; have := HN.out; rw [nds_length]; omega), h, show (nds xs).length - 1 = j by rw [nds_length, ← HN.out]; exact hj.symm]
      rfl
     obtain ⟨f2, hf2⟩ : ∃ m, m = (gf acc j).1 := ⟨_, rfl⟩
     rw [← hf2] at cg HOR
     subst hqg
     have HO9 : Hid (OwnZ wr W1.heap.size (.slice (some ⟨g, 0, none⟩) k d) (fsZ acc)) := HO
     clear hf2 hj
     by_cases hf0 : f2 = 0
     ·have e1 : ((f2 : Int) == 0) = true := by rw [hf0]; rfl
      have HZ : Hid (ordT (nds xs) = some acc) := by show _ = _; rw [HOR.out, if_pos hf0]
      clear hf0
      go_wp2
      go_quiet (fail)
      go_wp2
      refine bodyPost_ret (v := .tuple #[.slice (some ⟨g, 0, none⟩) k d, .bool true]) (by simp [results, Tryz.results44, go_sem]) rfl ?_
      exact ⟨HB1.out.trans ((HW.out.trans ((drewN_below wr nq).mono HW.out.size)).mono HB1.out.size), .inr ⟨acc, _, _, HZ.out, HL.out, rfl, ownZ_down (ownZ_below HO9.out (drewN_below wr nq)) HB1.out.size⟩⟩
     ·have e1 : ((f2 : Int) == 0) = false := by simpa using hf0
      have HZ : Hid (ordT (nds xs) = none) := by show _ = _; rw [HOR.out, if_neg hf0]
      clear hf0
      go_wp2
      go_quiet (fail)
      go_wp2
      refine bodyPost_ret (v := .tuple #[.slice (some ⟨g, 0, none⟩) k d, .bool false]) (by simp [results, Tryz.results44, go_sem]) rfl ?_
      exact ⟨HB1.out.trans ((HW.out.trans ((drewN_below wr nq).mono HW.out.size)).mono HB1.out.size), .inl ⟨HZ.out, _, _, _, rfl⟩⟩
end Go.Proofs.YtkefndfgkmdphaaGreat


namespace Go.Proofs.YtkefndfgkmdphaaGreat
open Go.RowKit Tnr Tnt

theorem nds_get {xs : List NV} {k : Nat} (h : k < xs.length) : (nds xs)[k]'(by rw [nds_length]; exact h) = (gn xs k).nd := by unfold nds; rw [gn_get h]; simp
set_option maxRecDepth 100000 in
theorem rorder_any (p : Option Addr) (n c : Nat) (xs : List NV) (names : Value) (w : World) (hn : n = xs.length) (hnm : n ≤ 1000000000) (hp : SlN w p xs) (hf : Few xs) :
  Calls Tryz.prog 46 #[.agg #[.slice p n c, names]] w fun e w' => e = .returned (.bool (ordT (nds xs)).isSome) ∧ Below w.heap.size w w' := by
 obtain ⟨W1, hW1⟩ : ∃ W, W = w.alloc (.cells #[.slice p n c, names] 34) := ⟨_, rfl⟩
 have hb1 : Below w.heap.size w W1 := by rw [hW1]; exact bl_alloc _ _
 have HO := lh (rfirsts_any p n c xs names W1 hn hnm (hp.below hb1) hf)
 have HB1 := lh hb1
 have HW1 := lh hW1
 clear hb1 hW1 hn hnm hp hf
 go_enter Tryz.func46, Tryz.ntmps46
 go_wp2_with fail
 rw [← HW1.out]
 refine (HO.out).mono ?_
 rintro e w2 ⟨hb2, ⟨ho, a, m, d, rfl⟩ | ⟨l, pf, cf, ho, hl, rfl, hown⟩⟩
 ·have HB2 := lh (HB1.out.trans (hb2.mono HB1.out.size))
  have HE : Hid ((ordT (nds xs)).isSome = false) := by show _ = _; rw [ho]; rfl
  clear hb2 ho
  go_wp2
  go_ret
  exact ⟨by rw [HE.out]; rfl, HB2.out⟩
 ·have HB2 := lh (HB1.out.trans (hb2.mono HB1.out.size))
  have HE : Hid ((ordT (nds xs)).isSome = true) := by show _ = _; rw [ho]; rfl
  clear hb2 ho hown hl
  go_wp2
  go_ret
  exact ⟨by rw [HE.out]; rfl, HB2.out⟩
end Go.Proofs.YtkefndfgkmdphaaGreat

