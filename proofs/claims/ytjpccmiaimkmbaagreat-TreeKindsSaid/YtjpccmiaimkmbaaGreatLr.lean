/- The walks of a node's own methods: what each takes away, and whether it was as it must be. -/
import Derived.Test.YtjpccmiaimkmbaaGreatLq
import Derived.Test.YtjpccmiaimkmbaaGreatRd
import Derived.Deep.QuietTactic

namespace Go.Proofs.YtjpccmiaimkmbaaGreat
open Go.RowKit Tnr Tnt

theorem node_lit2 (x : NV) : ∃ ls lk, ls = x.nd.set.length ∧ lk = x.nd.kids.length ∧ NodeLit x ls lk := ⟨_, _, rfl, rfl, rfl⟩
def NodeAt (w : World) (b : Nat) (x : NV) : Prop := Bx w b 226 (encN x).toArray
def bareB (n : Nd) : Bool := n.set.length == 0 && (n.group == 0 && (n.mn == 0 && (n.mx == 0 && (n.mode == 0 && (n.spot == 0 && !n.neg)))))

set_option maxHeartbeats 1600000 in
set_option maxRecDepth 100000 in
theorem bare_any (b : Nat) (x : NV) (w : World) (hX : NodeAt w b x) : Calls Tryz.prog 154 #[.pointer (some ⟨b, 0, none⟩)] w fun e w' => e = .returned (.bool (bareB x.nd)) ∧ w = w' := by
  obtain ⟨ls, lk, hls, _, h⟩ := node_lit2 x
  unfold NodeLit at h
  unfold NodeAt at hX
  rw [h] at hX
  obtain ⟨_, c1, _, c3, c4, c5, c6, c7, c8⟩ := nine hX
  have HE : Hid (bareB x.nd = (x.nd.set.length == 0 && (x.nd.group == 0 && (x.nd.mn == 0 && (x.nd.mx == 0 && (x.nd.mode == 0 && (x.nd.spot == 0 && !x.nd.neg))))))) := rfl
  rw [← hls] at HE
  obtain ⟨gr, hgr⟩ : ∃ z, z = x.nd.group := ⟨_, rfl⟩
  obtain ⟨mn, hmn⟩ : ∃ z, z = x.nd.mn := ⟨_, rfl⟩
  obtain ⟨mx, hmx⟩ : ∃ z, z = x.nd.mx := ⟨_, rfl⟩
  obtain ⟨md, hmd⟩ : ∃ z, z = x.nd.mode := ⟨_, rfl⟩
  obtain ⟨sp, hsp⟩ : ∃ z, z = x.nd.spot := ⟨_, rfl⟩
  obtain ⟨ng, hng⟩ : ∃ z, z = x.nd.neg := ⟨_, rfl⟩
  rw [← hgr, ← hmn, ← hmx, ← hmd, ← hsp, ← hng] at HE
  rw [← hgr] at c3
  rw [← hmn] at c4
  rw [← hmx] at c5
  rw [← hmd] at c6
  rw [← hsp] at c7
  rw [← hng] at c8
  clear h hX hgr hmn hmx hmd hsp hng hls
  by_cases h0 : ls = 0
  · have e0 : ((ls : Int) == 0) = true := by simpa using h0
    by_cases h1 : gr = 0
    · have e1 : (gr == 0) = true := by simpa using h1
      by_cases h2 : mn = 0
      · have e2 : (mn == 0) = true := by simpa using h2
        by_cases h3 : mx = 0
        · have e3 : (mx == 0) = true := by simpa using h3
          by_cases h4 : md = 0
          · have e4 : (md == 0) = true := by simpa using h4
            by_cases h5 : sp = 0
            · have e5 : (sp == 0) = true := by simpa using h5
              cases ng with
              | true =>
                have HF : Hid (bareB x.nd = false) := by show _ = _; rw [HE.out]; simp [h0, h1, h2, h3, h4, h5]
                go_enter Tryz.func154, Tryz.ntmps154
                go_wp2
                go_ret
                exact ⟨by rw [HF.out]; rfl, rfl⟩
              | false =>
                have HF : Hid (bareB x.nd = true) := by show _ = _; rw [HE.out]; simp [h0, h1, h2, h3, h4, h5]
                go_enter Tryz.func154, Tryz.ntmps154
                go_wp2
                go_ret
                exact ⟨by rw [HF.out]; rfl, rfl⟩
            · have e5 : (sp == 0) = false := by simpa using h5
              have HF : Hid (bareB x.nd = false) := by show _ = _; rw [HE.out]; simp [h0, h1, h2, h3, h4, h5]
              go_enter Tryz.func154, Tryz.ntmps154
              go_wp2
              go_ret
              exact ⟨by rw [HF.out]; rfl, rfl⟩
          · have e4 : (md == 0) = false := by simpa using h4
            have HF : Hid (bareB x.nd = false) := by show _ = _; rw [HE.out]; simp [h0, h1, h2, h3, h4]
            go_enter Tryz.func154, Tryz.ntmps154
            go_wp2
            go_ret
            exact ⟨by rw [HF.out]; rfl, rfl⟩
        · have e3 : (mx == 0) = false := by simpa using h3
          have HF : Hid (bareB x.nd = false) := by show _ = _; rw [HE.out]; simp [h0, h1, h2, h3]
          go_enter Tryz.func154, Tryz.ntmps154
          go_wp2
          go_ret
          exact ⟨by rw [HF.out]; rfl, rfl⟩
      · have e2 : (mn == 0) = false := by simpa using h2
        have HF : Hid (bareB x.nd = false) := by show _ = _; rw [HE.out]; simp [h0, h1, h2]
        go_enter Tryz.func154, Tryz.ntmps154
        go_wp2
        go_ret
        exact ⟨by rw [HF.out]; rfl, rfl⟩
    · have e1 : (gr == 0) = false := by simpa using h1
      have HF : Hid (bareB x.nd = false) := by show _ = _; rw [HE.out]; simp [h0, h1]
      go_enter Tryz.func154, Tryz.ntmps154
      go_wp2
      go_ret
      exact ⟨by rw [HF.out]; rfl, rfl⟩
  · have e0 : ((ls : Int) == 0) = false := by simpa using h0
    have HF : Hid (bareB x.nd = false) := by show _ = _; rw [HE.out]; simp [h0]
    go_enter Tryz.func154, Tryz.ntmps154
    go_wp2
    go_ret
    exact ⟨by rw [HF.out]; rfl, rfl⟩

def noSet (x : NV) : NV := { x with nd := { x.nd with set := [] }, ps := none, cs := 0 }
def noGroup (x : NV) : NV := { x with nd := { x.nd with group := 0 } }
def noTimes (x : NV) : NV := { x with nd := { x.nd with mn := 0, mx := 0, mode := 0 } }
def noMode (x : NV) : NV := { x with nd := { x.nd with mode := 0 } }
def noSpot (x : NV) : NV := { x with nd := { x.nd with spot := 0 } }
def noNot (x : NV) : NV := { x with nd := { x.nd with neg := false } }
set_option maxRecDepth 100000 in
theorem group_any (b : Nat) (x : NV) (w : World) (hX : NodeAt w b x) : Calls Tryz.prog 156 #[.pointer (some ⟨b, 0, none⟩)] w fun e w' => e = .returned (.bool true) ∧ NodeAt w' b (noGroup x) ∧ Below b w w' := by
  have HX := Lib.hid hX
  obtain ⟨ls, lk, hls, _, h⟩ := node_lit2 x
  unfold NodeLit at h
  unfold NodeAt at hX
  rw [h] at hX
  obtain ⟨_, c1, _, c3, c4, c5, c6, c7, c8⟩ := nine hX
  have f3 := hX.free 3
  clear h hX hls
  go_enter Tryz.func156, Tryz.ntmps156
  go_wp2
  go_ret
  refine ⟨rfl, HX.out.set 3 _, (Below.refl _ _).setCell (p := ⟨b, 3, none⟩) (Nat.le_refl _) _⟩
set_option maxRecDepth 100000 in
theorem not_any (b : Nat) (x : NV) (w : World) (hX : NodeAt w b x) : Calls Tryz.prog 159 #[.pointer (some ⟨b, 0, none⟩)] w fun e w' => e = .returned (.bool true) ∧ NodeAt w' b (noNot x) ∧ Below b w w' := by
  have HX := Lib.hid hX
  obtain ⟨ls, lk, hls, _, h⟩ := node_lit2 x
  unfold NodeLit at h
  unfold NodeAt at hX
  rw [h] at hX
  obtain ⟨_, c1, _, c3, c4, c5, c6, c7, c8⟩ := nine hX
  have f3 := hX.free 8
  clear h hX hls
  go_enter Tryz.func159, Tryz.ntmps159
  go_wp2
  go_ret
  refine ⟨rfl, HX.out.set 8 _, (Below.refl _ _).setCell (p := ⟨b, 8, none⟩) (Nat.le_refl _) _⟩
def spotB (n : Nd) : Bool := decide (1 ≤ n.spot) && decide (n.spot ≤ 4)
set_option maxHeartbeats 800000 in
set_option maxRecDepth 100000 in
theorem spot_any (b : Nat) (x : NV) (w : World) (hX : NodeAt w b x) : Calls Tryz.prog 158 #[.pointer (some ⟨b, 0, none⟩)] w fun e w' => e = .returned (.bool (spotB x.nd)) ∧ NodeAt w' b (noSpot x) ∧ Below b w w' := by
  have HX := Lib.hid hX
  obtain ⟨ls, lk, hls, _, h⟩ := node_lit2 x
  unfold NodeLit at h
  unfold NodeAt at hX
  rw [h] at hX
  obtain ⟨_, c1, _, c3, c4, c5, c6, c7, c8⟩ := nine hX
  have HE : Hid (spotB x.nd = (decide (1 ≤ x.nd.spot) && decide (x.nd.spot ≤ 4))) := rfl
  obtain ⟨sp, hsp⟩ : ∃ z, z = x.nd.spot := ⟨_, rfl⟩
  rw [← hsp] at HE c7
  have f3 := hX.free 7
  clear h hX hls hsp
  by_cases h1 : 1 ≤ sp
  · have e1 : decide ((1 : Int) ≤ sp) = true := by simpa using h1
    by_cases h2 : sp ≤ 4
    · have e2 : decide (sp ≤ (4 : Int)) = true := by simpa using h2
      have HF : Hid (spotB x.nd = true) := by show _ = _; rw [HE.out, e1, e2]; rfl
      clear h1 h2
      go_enter Tryz.func158, Tryz.ntmps158
      go_wp2
      go_ret
      exact ⟨by rw [HF.out]; rfl, HX.out.set 7 _, (Below.refl _ _).setCell (p := ⟨b, 7, none⟩) (Nat.le_refl _) _⟩
    · have e2 : decide (sp ≤ (4 : Int)) = false := by simpa using h2
      have HF : Hid (spotB x.nd = false) := by show _ = _; rw [HE.out, e1, e2]; rfl
      clear h1 h2
      go_enter Tryz.func158, Tryz.ntmps158
      go_wp2
      go_ret
      exact ⟨by rw [HF.out]; rfl, HX.out.set 7 _, (Below.refl _ _).setCell (p := ⟨b, 7, none⟩) (Nat.le_refl _) _⟩
  · have e1 : decide ((1 : Int) ≤ sp) = false := by simpa using h1
    have HF : Hid (spotB x.nd = false) := by show _ = _; rw [HE.out, e1]; rfl
    clear h1
    go_enter Tryz.func158, Tryz.ntmps158
    go_wp2
    go_ret
    exact ⟨by rw [HF.out]; rfl, HX.out.set 7 _, (Below.refl _ _).setCell (p := ⟨b, 7, none⟩) (Nat.le_refl _) _⟩

def setB (n : Nd) : Bool := decide (n.set.length ≤ 2000) && rightB n.set
set_option maxHeartbeats 1600000 in
set_option maxRecDepth 100000 in
theorem set_any (b : Nat) (x : NV) (w : World) (hX : NodeAt w b x) (hI : NodeIn w x) (hr : ∀ g off, x.ps = some ⟨g, off, none⟩ → x.nd.set ≠ [] → g ≠ b) : Calls Tryz.prog 155 #[.pointer (some ⟨b, 0, none⟩)] w fun e w' => e = .returned (.bool (setB x.nd)) ∧ NodeAt w' b (noSet x) ∧ Below b w w' := by
  have HX := Lib.hid hX
  obtain ⟨ls, lk, hls, _, h⟩ := node_lit2 x
  unfold NodeLit at h
  unfold NodeAt at hX
  rw [h] at hX
  obtain ⟨_, c1, _, c3, c4, c5, c6, c7, c8⟩ := nine hX
  have HE : Hid (setB x.nd = (decide (x.nd.set.length ≤ 2000) && rightB x.nd.set)) := rfl
  have f3 := hX.free 1
  have HS : Hid (SlR (w.setCell ⟨b, 1, none⟩ (.slice none 0 0)) x.ps x.nd.set) := by
    show SlR _ _ _
    rcases hI.set with h0 | ⟨g, off, h1, h2⟩
    · exact .inl h0
    · refine .inr ⟨g, off, h1, fun i hi => ?_⟩
      have hne : g ≠ b := hr g off h1 (by intro e; rw [e] at hi; simp at hi)
      have hk : (w.setCell ⟨b, 1, none⟩ (.slice none 0 0)).heap[g]? = w.heap[g]? := Below.heap_setCell _ _ _ g hne
      exact ⟨(World.cell?_of_block hk).trans (h2 i hi).1, (World.cell?_of_block hk).trans (h2 i hi).2⟩
  have HB : Hid (NodeAt (w.setCell ⟨b, 1, none⟩ (.slice none 0 0)) b (noSet x) ∧ Below b w (w.setCell ⟨b, 1, none⟩ (.slice none 0 0))) := ⟨HX.out.set 1 _, (Below.refl _ _).setCell (p := ⟨b, 1, none⟩) (Nat.le_refl _) _⟩
  have HL := Lib.hid hls
  clear h hX hls hI hr
  by_cases h1 : ls ≤ 2000
  · have e1 : decide ((ls : Int) ≤ 2000) = true := by simp; omega
    have HC := Lib.hid (right_any x.ps x.cs x.nd.set _ HS.out (by have := HL.out; omega))
    rw [← HL.out] at HC
    clear h1
    go_enter Tryz.func155, Tryz.ntmps155
    go_wp2_with (go_at_call 173; refine (HC.out).mono ?_; rintro e w' ⟨rfl, hb⟩)
    go_ret
    refine ⟨by rw [HE.out, ← HL.out, show decide (ls ≤ 2000) = true by exact decide_eq_true (by have := of_decide_eq_true e1; omega)]; rfl, HB.out.1.below hb, HB.out.2.trans (hb.mono ?_)⟩
    have := HB.out.1.lt
    omega
  · have e1 : decide ((ls : Int) ≤ 2000) = false := by simp; omega
    have HF : Hid (setB x.nd = false) := by show _ = _; rw [HE.out, ← HL.out]; simp; omega
    clear h1
    go_enter Tryz.func155, Tryz.ntmps155
    go_wp2
    go_ret
    exact ⟨by rw [HF.out]; rfl, HB.out.1, HB.out.2⟩
theorem NodeAt.below {w w' : World} {b : Nat} {x : NV} (h : NodeAt w b x) (hb : Below w.heap.size w w') : NodeAt w' b x := Bx.below h hb

def modeB (ms : List Int) (n : Nd) : Bool := decide (n.mode ∈ ms)
set_option maxHeartbeats 1600000 in
set_option maxRecDepth 100000 in
theorem mode_any (b : Nat) (x : NV) (ms : List Int) (p : Option Addr) (n c : Nat) (w : World) (hX : NodeAt w b x) (hn : n = ms.length) (hl : n ≤ 1000000) (hp : SlU w p ms) (hr : ∀ g off, p = some ⟨g, off, none⟩ → g ≠ b) : Calls Tryz.prog 174 #[.pointer (some ⟨b, 0, none⟩), .slice p n c] w fun e w' => e = .returned (.bool (modeB ms x.nd)) ∧ NodeAt w' b (noMode x) ∧ Below b w w' := by
  have HX := Lib.hid hX
  obtain ⟨ls, lk, hls, _, h⟩ := node_lit2 x
  unfold NodeLit at h
  unfold NodeAt at hX
  rw [h] at hX
  obtain ⟨_, c1, _, c3, c4, c5, c6, c7, c8⟩ := nine hX
  have f3 := hX.free 6
  have HS : Hid (SlU (w.setCell ⟨b, 6, none⟩ (.int .u8 0)) p ms) := by
    show SlU _ _ _
    rcases hp with h0 | ⟨g, off, rfl, h2⟩
    · exact .inl h0
    · exact SlU.same (.inr ⟨g, off, rfl, h2⟩) (Below.heap_setCell _ _ _ g (hr g off rfl))
  have HB : Hid (NodeAt (w.setCell ⟨b, 6, none⟩ (.int .u8 0)) b (noMode x) ∧ Below b w (w.setCell ⟨b, 6, none⟩ (.int .u8 0))) := ⟨HX.out.set 6 _, (Below.refl _ _).setCell (p := ⟨b, 6, none⟩) (Nat.le_refl _) _⟩
  have HC := Lib.hid (containsM_any p c n ms x.nd.mode _ hn HS.out hl)
  clear h hX hls hr hp hn hl
  go_enter Tryz.func174, Tryz.ntmps174
  go_wp2_with (go_at_call 179; refine (HC.out).mono ?_; rintro e w' ⟨⟨bb, rfl, hbb⟩, rfl⟩)
  go_ret
  refine ⟨?_, HB.out.1, HB.out.2⟩
  have : bb = modeB ms x.nd := by unfold modeB; cases bb <;> simp_all
  rw [this]; rfl
def tryB (n : Nd) : Bool := modeB [1, 2] n
set_option maxHeartbeats 1600000 in
set_option maxRecDepth 100000 in
theorem try_any (b : Nat) (x : NV) (w : World) (hX : NodeAt w b x) : Calls Tryz.prog 160 #[.pointer (some ⟨b, 0, none⟩)] w fun e w' => e = .returned (.bool (tryB x.nd)) ∧ NodeAt w' b (noMode x) ∧ Below b w w' := by
  have hS := slu_new w [1, 2] 25 #[.int .u8 1, .int .u8 2] rfl
  have HC := Lib.hid (mode_any b x [1, 2] (some ⟨w.heap.size, 0, none⟩) 2 2 (w.alloc (.cells #[.int .u8 1, .int .u8 2] 25)) (Bx.below hX (bl_alloc _ _)) rfl (by omega) hS (fun g off e => by cases e; have := Bx.lt hX; omega))
  have HX := Lib.hid hX
  clear hX hS
  go_enter Tryz.func160, Tryz.ntmps160
  go_wp2_with (go_at_call 174; refine (HC.out).mono ?_; rintro e w' ⟨rfl, h1, h2⟩)
  go_ret
  exact ⟨rfl, h1, ((bl_alloc _ _).mono (Nat.le_of_lt HX.out.lt)).trans h2⟩
def timesB (n : Nd) : Bool := decide (0 ≤ n.mn) && (decide (n.mn ≤ 1000) && (n.mx == -1 || (decide (n.mn ≤ n.mx) && decide (n.mx ≤ 1000))))
def repeatB (n : Nd) : Bool := timesB n && modeB [1, 2, 3] n
set_option maxHeartbeats 1600000 in
set_option maxRecDepth 100000 in
theorem repeat_any (b : Nat) (x : NV) (w : World) (hX : NodeAt w b x) : Calls Tryz.prog 157 #[.pointer (some ⟨b, 0, none⟩)] w fun e w' => e = .returned (.bool (repeatB x.nd)) ∧ (repeatB x.nd = true → NodeAt w' b (noTimes x)) ∧ Below b w w' := by
  have HX := Lib.hid hX
  have hq : ∀ nq, NodeAt (((w.drewN nq).setCell ⟨b, 4, none⟩ (.int .i64 0)).setCell ⟨b, 5, none⟩ (.int .i64 0)) b { x with nd := { x.nd with mn := 0, mx := 0 } } := fun nq => ((show NodeAt (w.drewN nq) b x from hX).set 4 (.int .i64 0)).set 5 (.int .i64 0)
  have hd : ∀ nq, Below b w (w.drewN nq) := fun nq => ⟨rfl, rfl, rfl, Nat.le_refl _, fun _ _ => rfl⟩
  have HC0 : Hid (∀ nq, Below b w (((w.drewN nq).setCell ⟨b, 4, none⟩ (.int .i64 0)).setCell ⟨b, 5, none⟩ (.int .i64 0))) := fun nq => ((hd nq).setCell (p := ⟨b, 4, none⟩) (Nat.le_refl _) _).setCell (p := ⟨b, 5, none⟩) (Nat.le_refl _) _
  have HC : Hid (∀ nq, Calls Tryz.prog 174 #[.pointer (some ⟨b, 0, none⟩), .slice (some ⟨w.heap.size, 0, none⟩) 3 3] ((((w.drewN nq).setCell ⟨b, 4, none⟩ (.int .i64 0)).setCell ⟨b, 5, none⟩ (.int .i64 0)).alloc (.cells #[.int .u8 1, .int .u8 2, .int .u8 3] 25)) fun e w' => e = .returned (.bool (modeB [1, 2, 3] x.nd)) ∧ NodeAt w' b (noTimes x) ∧ Below b ((((w.drewN nq).setCell ⟨b, 4, none⟩ (.int .i64 0)).setCell ⟨b, 5, none⟩ (.int .i64 0)).alloc (.cells #[.int .u8 1, .int .u8 2, .int .u8 3] 25)) w') := fun nq => by
    have hsz : (((w.drewN nq).setCell ⟨b, 4, none⟩ (.int .i64 0)).setCell ⟨b, 5, none⟩ (.int .i64 0)).heap.size = w.heap.size := by simp
    have hS := slu_new (((w.drewN nq).setCell ⟨b, 4, none⟩ (.int .i64 0)).setCell ⟨b, 5, none⟩ (.int .i64 0)) [1, 2, 3] 25 #[.int .u8 1, .int .u8 2, .int .u8 3] rfl
    rw [hsz] at hS
    exact mode_any b _ [1, 2, 3] (some ⟨w.heap.size, 0, none⟩) 3 3 _ ((hq nq).below (bl_alloc _ _)) rfl (by omega) hS (fun g off e => by cases e; have := Bx.lt hX; omega)
  have HB : Hid (∀ nq, Below b w ((((w.drewN nq).setCell ⟨b, 4, none⟩ (.int .i64 0)).setCell ⟨b, 5, none⟩ (.int .i64 0)).alloc (.cells #[.int .u8 1, .int .u8 2, .int .u8 3] 25))) := fun nq => (HC0.out nq).trans ((bl_alloc _ _).mono (Nat.le_of_lt (hq nq).lt))
  obtain ⟨ls, lk, hls, _, h⟩ := node_lit2 x
  unfold NodeLit at h
  unfold NodeAt at hX
  rw [h] at hX
  obtain ⟨_, c1, _, c3, c4, c5, c6, c7, c8⟩ := nine hX
  have f4 := hX.free 4
  have f5 := hX.free 5
  obtain ⟨mn, hmn⟩ : ∃ z, z = x.nd.mn := ⟨_, rfl⟩
  obtain ⟨mx, hmx⟩ : ∃ z, z = x.nd.mx := ⟨_, rfl⟩
  rw [← hmn] at c4
  rw [← hmx] at c5
  have HMN := Lib.hid hmn
  have HMX := Lib.hid hmx
  clear h hX hls hq hd hmn hmx
  by_cases h1 : 0 ≤ mn
  · have e1 : decide ((0 : Int) ≤ mn) = true := by simpa using h1
    by_cases h2 : mn ≤ 1000
    · have e2 : decide (mn ≤ (1000 : Int)) = true := by simpa using h2
      by_cases h3 : mx = -1
      · have e3 : (mx == -1) = true := by simpa using h3
        have HT : Hid (timesB x.nd = true) := by show _ = _; unfold timesB; rw [← HMN.out, ← HMX.out]; simp; omega
        clear h1 h2
        go_enter Tryz.func157, Tryz.ntmps157
        go_wp2
        go_quiet (fail)
        go_wp2_with (go_at_call 174; refine (HC.out nq).mono ?_; rintro e w' ⟨rfl, hb1, hb2⟩)
        go_ret
        exact ⟨by unfold repeatB; rw [HT.out]; rfl, fun _ => hb1, (HB.out nq).trans hb2⟩
      · have e3 : (mx == -1) = false := by simpa using h3
        by_cases h4 : mn ≤ mx
        · have e4 : decide (mn ≤ mx) = true := by simpa using h4
          by_cases h5 : mx ≤ 1000
          · have e5 : decide (mx ≤ (1000 : Int)) = true := by simpa using h5
            have HT : Hid (timesB x.nd = true) := by show _ = _; unfold timesB; rw [← HMN.out, ← HMX.out]; simp; omega
            clear h1 h2 h3 h4 h5
            go_enter Tryz.func157, Tryz.ntmps157
            go_wp2
            go_quiet (fail)
            go_wp2_with (go_at_call 174; refine (HC.out nq).mono ?_; rintro e w' ⟨rfl, hb1, hb2⟩)
            go_ret
            exact ⟨by unfold repeatB; rw [HT.out]; rfl, fun _ => hb1, (HB.out nq).trans hb2⟩
          · have e5 : decide (mx ≤ (1000 : Int)) = false := by simpa using h5
            have HT : Hid (timesB x.nd = false) := by show _ = _; unfold timesB; rw [← HMN.out, ← HMX.out]; simp; omega
            clear h1 h2 h3 h4 h5
            go_enter Tryz.func157, Tryz.ntmps157
            go_wp2
            go_quiet (fail)
            go_wp2
            go_ret
            exact ⟨by unfold repeatB; rw [HT.out]; rfl, fun h => by unfold repeatB at h; rw [HT.out] at h; simp at h, (HC0.out nq)⟩
        · have e4 : decide (mn ≤ mx) = false := by simpa using h4
          have HT : Hid (timesB x.nd = false) := by show _ = _; unfold timesB; rw [← HMN.out, ← HMX.out]; simp; omega
          clear h1 h2 h3 h4
          go_enter Tryz.func157, Tryz.ntmps157
          go_wp2
          go_quiet (fail)
          go_wp2
          go_ret
          exact ⟨by unfold repeatB; rw [HT.out]; rfl, fun h => by unfold repeatB at h; rw [HT.out] at h; simp at h, (HC0.out nq)⟩
    · have e2 : decide (mn ≤ (1000 : Int)) = false := by simpa using h2
      have HT : Hid (timesB x.nd = false) := by show _ = _; unfold timesB; rw [← HMN.out, ← HMX.out]; simp; omega
      clear h1 h2
      go_enter Tryz.func157, Tryz.ntmps157
      go_wp2
      go_quiet (fail)
      go_wp2
      go_ret
      exact ⟨by unfold repeatB; rw [HT.out]; rfl, fun h => by unfold repeatB at h; rw [HT.out] at h; simp at h, (HC0.out nq)⟩
  · have e1 : decide ((0 : Int) ≤ mn) = false := by simpa using h1
    have HT : Hid (timesB x.nd = false) := by show _ = _; unfold timesB; rw [← HMN.out, ← HMX.out]; simp; omega
    clear h1
    go_enter Tryz.func157, Tryz.ntmps157
    go_wp2
    go_quiet (fail)
    go_wp2
    go_ret
    exact ⟨by unfold repeatB; rw [HT.out]; rfl, fun h => by unfold repeatB at h; rw [HT.out] at h; simp at h, (HC0.out nq)⟩

end Go.Proofs.YtjpccmiaimkmbaaGreat
