import Derived.Test.YtkefndfgkmdphaaGreatFi
import Derived.Test.YtkefndfgkmdphaaGreatLo

namespace Go.Proofs.YtkefndfgkmdphaaGreat
set_option maxHeartbeats 6400000
set_option maxRecDepth 100000
open Go.RowKit Tnr Tnt

attribute [local go_sem] Oper.semAt_some

def AllP (P : Nd → Bool) (pre : List (Nat × NV)) (b : Bool) : Prop := (pre.all fun x => P x.2.nd) = b
theorem allP_yes {P : Nd → Bool} {pre : List (Nat × NV)} {x : Nat × NV} (h : AllP P pre true) (hx : P x.2.nd = true) : AllP P (pre ++ [x]) true := by
 unfold AllP at *
 rw [List.all_append, h]; simp [hx]
theorem allP_no {P : Nd → Bool} {pre : List (Nat × NV)} {x : Nat × NV} (hx : P x.2.nd = false) : AllP P (pre ++ [x]) false := by
 unfold AllP at *
 rw [List.all_append]; simp [hx]
def neverB (_ : Nd) : Bool := false
def allB (P : Nd → Bool) (xs : List NV) (ks : List Int) : Bool := (ev ks 0 xs).all fun x => P x.2.nd
def NodeLit (x : NV) (ls lk : Nat) : Prop := (encN x).toArray = #[.int .u8 x.nd.kind, .slice x.ps ls x.cs, .slice x.pk lk x.ck, .int .i64 x.nd.group, .int .i64 x.nd.mn, .int .i64 x.nd.mx, .int .u8 x.nd.mode, .int .u8 x.nd.spot, .bool x.nd.neg]
theorem node_lit (x : NV) : ∃ ls lk, NodeLit x ls lk := ⟨_, _, rfl⟩
theorem never_any (x : NV) (w : World) : Calls Tryz.prog 122 #[.agg (encN x).toArray] w fun e w' => e = .returned (.bool (neverB x.nd)) ∧ Below w.heap.size w w' := by
 obtain ⟨ls, lk, h⟩ := node_lit x
 unfold NodeLit at h
 rw [h]
 clear h
 go_enter Tryz.func122, Tryz.ntmps122
 go_wp2
 go_ret
 exact ⟨rfl, bl_alloc _ _⟩
def endlessB (n : Nd) : Bool := n.mn == 0 && (n.mx == -1 && !(n.mode == 3))
theorem endless_any (x : NV) (w : World) : Calls Tryz.prog 125 #[.agg (encN x).toArray] w fun e w' => e = .returned (.bool (endlessB x.nd)) ∧ Below w.heap.size w w' := by
 obtain ⟨ls, lk, h⟩ := node_lit x
 unfold NodeLit at h
 rw [h]
 have HE : Hid (endlessB x.nd = (x.nd.mn == 0 && (x.nd.mx == -1 && !(x.nd.mode == 3)))) := rfl
 obtain ⟨mn, hmn⟩ : ∃ z, z = x.nd.mn := ⟨_, rfl⟩
 obtain ⟨mx, hmx⟩ : ∃ z, z = x.nd.mx := ⟨_, rfl⟩
 obtain ⟨md, hmd⟩ : ∃ z, z = x.nd.mode := ⟨_, rfl⟩
 rw [← hmn, ← hmx, ← hmd] at HE ⊢
 clear h hmn hmx hmd
 by_cases h1 : mn = 0
 ·have e1 : (mn == 0) = true := by simpa using h1
  by_cases h2 : mx = -1
  ·have e2 : (mx == -1) = true := by simpa using h2
   by_cases h3 : md = 3
   ·have e3 : (md != 3) = false := by simpa using h3
    have HF : Hid (endlessB x.nd = false) := by show _ = _; rw [HE.out, h3]; simp
    clear h1 h2 h3
    go_enter Tryz.func125, Tryz.ntmps125
    go_wp2
    go_ret
    exact ⟨by rw [HF.out]; rfl, bl_alloc _ _⟩
   ·have e3 : (md != 3) = true := by simpa using h3
    have HF : Hid (endlessB x.nd = true) := by show _ = _; rw [HE.out, e1, e2]; simpa using h3
    clear h1 h2 h3
    go_enter Tryz.func125, Tryz.ntmps125
    go_wp2
    go_ret
    exact ⟨by rw [HF.out]; rfl, bl_alloc _ _⟩
  ·have e2 : (mx == -1) = false := by simpa using h2
   have HF : Hid (endlessB x.nd = false) := by show _ = _; rw [HE.out, e2]; simp
   clear h1 h2
   go_enter Tryz.func125, Tryz.ntmps125
   go_wp2
   go_ret
   exact ⟨by rw [HF.out]; rfl, bl_alloc _ _⟩
 ·have e1 : (mn == 0) = false := by simpa using h1
  have HF : Hid (endlessB x.nd = false) := by show _ = _; rw [HE.out, e1]; simp
  clear h1
  go_enter Tryz.func125, Tryz.ntmps125
  go_wp2
  go_ret
  exact ⟨by rw [HF.out]; rfl, bl_alloc _ _⟩
def upToB (g : Nat) (n : Nd) : Bool := decide (1 ≤ n.group) && decide (n.group ≤ (g : Int))
theorem upTo_any (g : Nat) (w : World) : Calls Tryz.prog 124 #[.int .i64 (g : Nat)] w fun e w' => e = .returned (.func (.func 176) #[] #[.pointer (some ⟨w.heap.size, 0, none⟩)]) ∧ w' = w.alloc (.cells #[.int .i64 (g : Nat)] 3) := by
 go_enter Tryz.func124, Tryz.ntmps124
 go_wp2
 go_ret
 exact ⟨rfl, rfl⟩
theorem upTo1_any (g bg : Nat) (x : NV) (w : World) (hg : Bx w bg 3 #[.int .i64 (g : Nat)]) : Calls Tryz.prog 176 #[.agg (encN x).toArray, .pointer (some ⟨bg, 0, none⟩)] w fun e w' => e = .returned (.bool (upToB g x.nd)) ∧ Below w.heap.size w w' := by
 obtain ⟨ls, lk, h⟩ := node_lit x
 unfold NodeLit at h
 rw [h]
 have HE : Hid (upToB g x.nd = (decide (1 ≤ x.nd.group) && decide (x.nd.group ≤ (g : Int)))) := rfl
 obtain ⟨gr, hgr⟩ : ∃ z, z = x.nd.group := ⟨_, rfl⟩
 rw [← hgr] at HE ⊢
 have cg : (w.alloc (.cells #[.int .u8 x.nd.kind, .slice x.ps ls x.cs, .slice x.pk lk x.ck, .int .i64 gr, .int .i64 x.nd.mn, .int .i64 x.nd.mx, .int .u8 x.nd.mode, .int .u8 x.nd.spot, .bool x.nd.neg] 28)).cell? ⟨bg, 0, none⟩ = some (.int .i64 (g : Nat)) := (hg.below (bl_alloc _ _)).cell rfl
 clear h hgr hg
 by_cases h1 : 1 ≤ gr
 ·have e1 : decide ((1 : Int) ≤ gr) = true := by simpa using h1
  by_cases h2 : gr ≤ (g : Int)
  ·have e2 : decide (gr ≤ (g : Int)) = true := by simpa using h2
   have HF : Hid (upToB g x.nd = true) := by show _ = _; rw [HE.out, e1, e2]; rfl
   clear h1 h2
   go_enter Tryz.func176, Tryz.ntmps176
   go_wp2
   go_ret
   exact ⟨by rw [HF.out]; rfl, bl_alloc _ _⟩
  ·have e2 : decide (gr ≤ (g : Int)) = false := by simpa using h2
   have HF : Hid (upToB g x.nd = false) := by show _ = _; rw [HE.out, e1, e2]; rfl
   clear h1 h2
   go_enter Tryz.func176, Tryz.ntmps176
   go_wp2
   go_ret
   exact ⟨by rw [HF.out]; rfl, bl_alloc _ _⟩
 ·have e1 : decide ((1 : Int) ≤ gr) = false := by simpa using h1
  have HF : Hid (upToB g x.nd = false) := by show _ = _; rw [HE.out, e1]; rfl
  clear h1
  go_enter Tryz.func176, Tryz.ntmps176
  go_wp2
  go_ret
  exact ⟨by rw [HF.out]; rfl, bl_alloc _ _⟩

theorem allNever_any (p : Option Addr) (m c : Nat) (xs : List NV) (q : Option Addr) (mk d : Nat) (ks : List Int) (w : World) (hm : m = xs.length) (hld : m ≤ 1000000) (hmk : mk = ks.length) (hlk : mk ≤ 1000000) (hL : SlN w p xs) (hU : SlU w q ks) :
  Calls Tryz.prog 121 #[.slice p m c, .func (.func 122) #[] #[], .slice q mk d] w fun e w' => e = .returned (.bool (allB neverB xs ks)) ∧ Below w.heap.size w w' := by
 refine (callsIn_wide (n := 8)).1 ?_
 have hro : Fence.wide.round = none := rfl
 obtain ⟨b0, hb0⟩ : ∃ b, b = w.heap.size := ⟨_, rfl⟩
 obtain ⟨W2, hW2⟩ : ∃ W, W = (w.alloc (.cells #[.func (.func 122) #[] #[]] 159)).alloc (.cells #[.bool false] 4) := ⟨_, rfl⟩
 have hB2 : Below w.heap.size w W2 := by rw [hW2]; exact bl_trans (bl_alloc _ _) (bl_alloc _ _)
 have bF : Bx W2 b0 159 #[.func (.func 122) #[] #[]] := by rw [hW2, hb0]; exact (Bx.new w _ _).below (bl_alloc _ _)
 have bR : Bx W2 (b0 + 1) 4 #[.bool false] := by
  have h := Bx.new (w.alloc (.cells #[.func (.func 122) #[] #[]] 159)) 4 #[.bool false]
  rw [World.size_alloc, ← hb0] at h; rw [hW2]; exact h
 have hs2 : W2.heap.size = b0 + 1 + 1 := by rw [hW2, hb0]; simp
 have HW2 := lh hW2
 have HB2 := lh hB2
 have HS2 := lh hs2
 have HBX := lh (And.intro bF bR)
 have HB0 := lh hb0
 have HL := lh (And.intro hL hU)
 have HM := lh (And.intro hm (And.intro hld (And.intro hmk hlk)))
 clear hL hU hm hld hmk hlk hW2 hB2 hs2 bF bR hb0
 refine callsIn_of_wp_marks Tryz.func121 rfl trivial ?_ hro
 simp only [Tryz.ntmps121, List.size_toArray, List.length_cons, List.length_nil, Nat.reduceAdd, Nat.reduceSub, Array.replicate_succ, Array.replicate_zero, List.push_toArray, List.append_toArray, List.nil_append, List.cons_append]
 gi_wp2_with ((refine ⟨trivial, ?_⟩; gi_at_call 67; refine (callsIn_wide.2 (each_any _ _ _ _ _ _ _)).mono ?_; rintro e w' ⟨rfl, rfl⟩))
 rw [← HW2.out, ← HB0.out]
 obtain ⟨W5, hW5⟩ : ∃ W, W = (W2.alloc (.cells #[.slice p m c] 60)).alloc (.cells #[.slice q mk d] 154) := ⟨_, rfl⟩
 rw [← hW5]
 have hb25 : Below W2.heap.size W2 W5 := by rw [hW5]; exact bl_trans (bl_alloc _ _) (bl_alloc _ _)
 have bS : Bx W5 (b0 + 1 + 1) 60 #[.slice p m c] := by rw [hW5, ← HS2.out]; exact (Bx.new W2 _ _).below (bl_alloc _ _)
 have bK : Bx W5 (b0 + 1 + 1 + 1) 154 #[.slice q mk d] := by
  have h := Bx.new (W2.alloc (.cells #[.slice p m c] 60)) 154 #[.slice q mk d]
  rw [World.size_alloc, HS2.out] at h; rw [hW5]; exact h
 have hB5 : Below w.heap.size w W5 := bl_trans HB2.out hb25
 have hst := each_stops (8 - 1) (b0 + 1 + 1) (b0 + 1 + 1 + 1) p m c xs q mk d ks HM.out.1 HM.out.2.1 HM.out.2.2.1 HM.out.2.2.2 (by omega) W5 bS bK (HL.out.1.below hB5) (HL.out.2.below hB5)
 have HBX5 := lh (And.intro (HBX.out.1.below hb25) (HBX.out.2.below hb25))
 have HS5 : Hid (W5.heap.size = b0 + 1 + 1 + 1 + 1) := by show _ = _; rw [hW5, World.size_alloc, World.size_alloc, HS2.out]
 have HB5 := lh hB5
 have HBK := lh bK
 clear hW5 hb25 bS bK hB5
 refine wpIn_rangeFunc_ownH hro (by omega) (gf := 117) (lb := #[.pointer (some ⟨b0 + 1 + 1, 0, none⟩), .pointer (some ⟨b0 + 1 + 1 + 1, 0, none⟩)]) rfl trivial (enters_of Tryz.func117 (by kernel_rfl) rfl)
  hst (fun h k => h.trans k) kpn_b (Below.refl _ _) (fun _ => rfl)
  (fun pre W => AllP neverB pre true ∧ (Bx W b0 159 #[.func (.func 122) #[] #[]] ∧ Bx W (b0 + 1) 4 #[.bool false]) ∧ Bx W (b0 + 1 + 1 + 1) 154 #[.slice q mk d] ∧ Below w.heap.size w W)
  (fun c pre W => (c = .ret ∧ AllP neverB pre false ∧ Bx W (b0 + 1) 4 #[.bool false]) ∧ Below w.heap.size w W)
  (OwnFrom.and (fun _ _ _ _ hs _ _ => hs) (OwnFrom.and (OwnFrom.and (Own.from (bx_own _ _ _) _) (Own.from (bx_own _ _ _) _)) (OwnFrom.and (Own.from (bx_own _ _ _) _) (ownFrom_below (Nat.le_refl _) (by have := HS5.out; have := HB0.out; omega)))))
  (fun c => OwnFrom.and (Own.from (fun s X Y row hs hg hr => by
   obtain ⟨h1, h2, h3⟩ := hs
   exact ⟨h1, h2, bx_own _ _ (fun (_ : Unit) => #[Value.bool false]) () X Y row h3 hg hr⟩) _) (ownFrom_below (Nat.le_refl _) (by have := HS5.out; have := HB0.out; omega)))
  ⟨rfl, ⟨HBX5.out.1, HBX5.out.2⟩, HBK.out, HB5.out⟩
  (fun x a' W => ∃ bx, b0 + 1 + 1 + 1 < bx ∧ Bx W bx 28 (encN x.2).toArray ∧ a' = { tmps := #[.slice p m c, .func (.func 122) #[] #[], .slice q mk d, undef, .pointer (some ⟨b0, 0, none⟩), undef, .pointer (some ⟨b0 + 1, 0, none⟩), undef, .pointer (some ⟨bx, 0, none⟩), .slice p m c, .slice q mk d, .func (.func 117) #[] #[.pointer (some ⟨b0 + 1 + 1, 0, none⟩), .pointer (some ⟨b0 + 1 + 1 + 1, 0, none⟩)], .int .i64 (x.1 : Nat), .agg (encN x.2).toArray, undef, undef, undef, undef], defers := [] })
  (fun x a' _ X Y row hs hg hr => by
   obtain ⟨bx, h1, h2, h3⟩ := hs
   refine ⟨bx, h1, h2.kept hg (fun e => ?_), h3⟩
   obtain ⟨o, ho, hc⟩ := (hr bx e.symm).2
   rw [show X.heap[bx]? = _ from h2] at ho; cases ho; cases hc)
  ?assign ?body ?done ?stop
 case assign =>
  rintro l pre x W K ⟨hpr, ⟨hF1, hR1⟩, hK1, hB1⟩ hK
  obtain ⟨ls, lk, hlit⟩ := node_lit x.2
  unfold NodeLit at hlit
  have hz := hK1.lt
  have hbl := bl_alloc W (.cells (encN x.2).toArray 28)
  have hbx := Bx.new W 28 (encN x.2).toArray
  have HAS := lh (hK _ (W.alloc (.cells (encN x.2).toArray 28)) ((KeepsOthers.alloc _ _).from _) (KpN.of_below hbl) ⟨hpr, ⟨hF1.below hbl, hR1.below hbl⟩, hK1.below hbl, hB1.trans (hbl.mono hB1.size)⟩ ⟨W.heap.size, hz, hbx, rfl⟩)
  rw [hlit] at HAS ⊢
  clear hlit hbl hbx hz hK hpr hF1 hR1 hK1 hB1
  gi_wp2
  exact HAS.out
 case body =>
  rintro l pre x a' W hl ⟨r, hr⟩ ⟨hpr, ⟨hF1, hR1⟩, hK1, hB1⟩ ⟨bx, hbx, hX1, rfl⟩ hlt
  have HC := lh (never_any x.2 W)
  obtain ⟨ls, lk, hlit⟩ := node_lit x.2
  unfold NodeLit at hlit
  rw [hlit] at HC hX1 ⊢
  obtain ⟨c0, c1, c2, c3, c4, c5, c6, c7, c8⟩ := nine hX1
  have cF : W.cell? ⟨b0, 0, none⟩ = some (.func (.func 122) #[] #[]) := hF1.cell rfl
  have HI := lh (And.intro hpr (And.intro hF1 (And.intro hR1 (And.intro hK1 hB1))))
  have HLT := lh hbx
  clear hlit hr hX1 hpr hF1 hR1 hK1 hB1 hlt hbx
  obtain ⟨bb, hbb⟩ : ∃ b : Bool, b = neverB x.2.nd := ⟨_, rfl⟩
  have HBB := lh hbb
  cases bb with
  | true =>
   rw [show neverB x.2.nd = true from hbb.symm] at HC
   clear hbb
   gi_wp2_with ((refine ⟨trivial, ?_⟩; gi_at_call 122; refine (CallsIn.inRound l (callsIn_wide.2 HC.out)).mono ?_; rintro e w5 ⟨rfl, hb5⟩))
   exact ⟨⟨hb5.size, fun k o hk ho hc => (hb5.block k (lt_of_block ho)).trans ho⟩, KpN.of_below hb5, allP_yes HI.out.1 HBB.out.symm, ⟨HI.out.2.1.below hb5, HI.out.2.2.1.below hb5⟩, HI.out.2.2.2.1.below hb5, HI.out.2.2.2.2.trans (hb5.mono HI.out.2.2.2.2.size)⟩
  | false =>
   rw [show neverB x.2.nd = false from hbb.symm] at HC
   clear hbb
   gi_wp2_with ((refine ⟨trivial, ?_⟩; gi_at_call 122; refine (CallsIn.inRound l (callsIn_wide.2 HC.out)).mono ?_; rintro e w5 ⟨rfl, hb5⟩; have hR5 := HI.out.2.2.1.below hb5; have cR : w5.cell? ⟨b0 + 1, 0, none⟩ = some (.bool false) := hR5.cell rfl; have fR := hR5.free 0; have HR5 := lh hR5; have HB5 := lh hb5; clear hR5 hb5))
   refine ⟨⟨by have := HB5.out.size; simpa using this, fun k o hk ho hc => (KeepsOthers.setCell w5 ⟨b0 + 1, 0, none⟩ (.bool false)).same k o ((HB5.out.block k (lt_of_block ho)).trans ho) hc⟩, ⟨rfl, allP_no HBB.out.symm, HR5.out.set 0 _⟩, (HI.out.2.2.2.2.trans (HB5.out.mono HI.out.2.2.2.2.size)).setCell (p := ⟨b0 + 1, 0, none⟩) (by have := HB0.out; show w.heap.size ≤ b0 + 1; omega) _⟩
 case done =>
  rintro D ys W hD rfl ⟨hpr, ⟨hF1, hR1⟩, hK1, hB1⟩ hK
  have HKK := lh hK
  have HR1 := lh hR1
  have cR : W.cell? ⟨b0 + 1, 0, none⟩ = some (.bool false) := hR1.cell rfl
  have fR := hR1.free 0
  have HRK : Hid (allB neverB xs ks = true) := hpr
  have HB1 := lh hB1
  have HDD := lh hD
  clear hK hpr hF1 hR1 hK1 hB1 hD
  gi_wp2
  have hKq : (W.setCell ⟨b0 + 1, 0, none⟩ (.bool true)).heap[D]? = some (.deferred (some [])) := (KeepsOthers.setCell W ⟨b0 + 1, 0, none⟩ (.bool true)).same D _ HKK.out rfl
  refine ⟨by simp, .inl ⟨_, _, rfl, run_takeDeferred hKq, ?_⟩⟩
  have hc5 := cell_kept ((HR1.out.set 0 (.bool true)).cell (i := 0) (v := .bool true) rfl) (grownBy_putObj' _ D (.deferred none)) (fun r e => by cases e; exact ⟨_, hKq, rfl⟩)
  have hB6 := HB1.out.setCell (p := ⟨b0 + 1, 0, none⟩) (by have := HB0.out; show w.heap.size ≤ b0 + 1; omega) (.bool true)
  refine ⟨.bool true, ?_, by rw [HRK.out], hB6.trans (belowK_b (w := w) (Nat.le_refl _) _ D _ _ (by have := HS5.out; have := HB0.out; have := HDD.out; omega) hKq rfl rfl)⟩
  simp [results, Tryz.f121, go_sem, hc5]
 case stop =>
  rintro D c' pre W hD hSp ⟨⟨rfl, hpr, hR1⟩, hB1⟩ hK
  have HKK := lh hK
  have HR1 := lh hR1
  obtain ⟨t, ht⟩ := hSp
  have HRK : Hid (allB neverB xs ks = false) := by
   show _ = _
   unfold allB
   unfold AllP at hpr
   rw [← ht, List.all_append, hpr]; rfl
  clear hK hpr hR1 ht
  gi_wp2
  refine ⟨by simp, .inl ⟨_, _, rfl, run_takeDeferred HKK.out, ?_⟩⟩
  have hc5 := cell_kept (HR1.out.cell (i := 0) (v := .bool false) rfl) (grownBy_putObj' _ D (.deferred none)) (fun r e => by cases e; exact ⟨_, HKK.out, rfl⟩)
  refine ⟨.bool false, ?_, by rw [HRK.out], hB1.trans (belowK_b (w := w) (Nat.le_refl _) _ D _ _ (by have := HS5.out; have := HB0.out; omega) HKK.out rfl rfl)⟩
  simp [results, Tryz.f121, go_sem, hc5]

theorem allEndless_any (p : Option Addr) (m c : Nat) (xs : List NV) (q : Option Addr) (mk d : Nat) (ks : List Int) (w : World) (hm : m = xs.length) (hld : m ≤ 1000000) (hmk : mk = ks.length) (hlk : mk ≤ 1000000) (hL : SlN w p xs) (hU : SlU w q ks) :
  Calls Tryz.prog 121 #[.slice p m c, .func (.func 125) #[] #[], .slice q mk d] w fun e w' => e = .returned (.bool (allB endlessB xs ks)) ∧ Below w.heap.size w w' := by
 refine (callsIn_wide (n := 8)).1 ?_
 have hro : Fence.wide.round = none := rfl
 obtain ⟨b0, hb0⟩ : ∃ b, b = w.heap.size := ⟨_, rfl⟩
 obtain ⟨W2, hW2⟩ : ∃ W, W = (w.alloc (.cells #[.func (.func 125) #[] #[]] 159)).alloc (.cells #[.bool false] 4) := ⟨_, rfl⟩
 have hB2 : Below w.heap.size w W2 := by rw [hW2]; exact bl_trans (bl_alloc _ _) (bl_alloc _ _)
 have bF : Bx W2 b0 159 #[.func (.func 125) #[] #[]] := by rw [hW2, hb0]; exact (Bx.new w _ _).below (bl_alloc _ _)
 have bR : Bx W2 (b0 + 1) 4 #[.bool false] := by
  have h := Bx.new (w.alloc (.cells #[.func (.func 125) #[] #[]] 159)) 4 #[.bool false]
  rw [World.size_alloc, ← hb0] at h; rw [hW2]; exact h
 have hs2 : W2.heap.size = b0 + 1 + 1 := by rw [hW2, hb0]; simp
 have HW2 := lh hW2
 have HB2 := lh hB2
 have HS2 := lh hs2
 have HBX := lh (And.intro bF bR)
 have HB0 := lh hb0
 have HL := lh (And.intro hL hU)
 have HM := lh (And.intro hm (And.intro hld (And.intro hmk hlk)))
 clear hL hU hm hld hmk hlk hW2 hB2 hs2 bF bR hb0
 refine callsIn_of_wp_marks Tryz.func121 rfl trivial ?_ hro
 simp only [Tryz.ntmps121, List.size_toArray, List.length_cons, List.length_nil, Nat.reduceAdd, Nat.reduceSub, Array.replicate_succ, Array.replicate_zero, List.push_toArray, List.append_toArray, List.nil_append, List.cons_append]
 gi_wp2_with ((refine ⟨trivial, ?_⟩; gi_at_call 67; refine (callsIn_wide.2 (each_any _ _ _ _ _ _ _)).mono ?_; rintro e w' ⟨rfl, rfl⟩))
 rw [← HW2.out, ← HB0.out]
 obtain ⟨W5, hW5⟩ : ∃ W, W = (W2.alloc (.cells #[.slice p m c] 60)).alloc (.cells #[.slice q mk d] 154) := ⟨_, rfl⟩
 rw [← hW5]
 have hb25 : Below W2.heap.size W2 W5 := by rw [hW5]; exact bl_trans (bl_alloc _ _) (bl_alloc _ _)
 have bS : Bx W5 (b0 + 1 + 1) 60 #[.slice p m c] := by rw [hW5, ← HS2.out]; exact (Bx.new W2 _ _).below (bl_alloc _ _)
 have bK : Bx W5 (b0 + 1 + 1 + 1) 154 #[.slice q mk d] := by
  have h := Bx.new (W2.alloc (.cells #[.slice p m c] 60)) 154 #[.slice q mk d]
  rw [World.size_alloc, HS2.out] at h; rw [hW5]; exact h
 have hB5 : Below w.heap.size w W5 := bl_trans HB2.out hb25
 have hst := each_stops (8 - 1) (b0 + 1 + 1) (b0 + 1 + 1 + 1) p m c xs q mk d ks HM.out.1 HM.out.2.1 HM.out.2.2.1 HM.out.2.2.2 (by omega) W5 bS bK (HL.out.1.below hB5) (HL.out.2.below hB5)
 have HBX5 := lh (And.intro (HBX.out.1.below hb25) (HBX.out.2.below hb25))
 have HS5 : Hid (W5.heap.size = b0 + 1 + 1 + 1 + 1) := by show _ = _; rw [hW5, World.size_alloc, World.size_alloc, HS2.out]
 have HB5 := lh hB5
 have HBK := lh bK
 clear hW5 hb25 bS bK hB5
 refine wpIn_rangeFunc_ownH hro (by omega) (gf := 117) (lb := #[.pointer (some ⟨b0 + 1 + 1, 0, none⟩), .pointer (some ⟨b0 + 1 + 1 + 1, 0, none⟩)]) rfl trivial (enters_of Tryz.func117 (by kernel_rfl) rfl)
  hst (fun h k => h.trans k) kpn_b (Below.refl _ _) (fun _ => rfl)
  (fun pre W => AllP endlessB pre true ∧ (Bx W b0 159 #[.func (.func 125) #[] #[]] ∧ Bx W (b0 + 1) 4 #[.bool false]) ∧ Bx W (b0 + 1 + 1 + 1) 154 #[.slice q mk d] ∧ Below w.heap.size w W)
  (fun c pre W => (c = .ret ∧ AllP endlessB pre false ∧ Bx W (b0 + 1) 4 #[.bool false]) ∧ Below w.heap.size w W)
  (OwnFrom.and (fun _ _ _ _ hs _ _ => hs) (OwnFrom.and (OwnFrom.and (Own.from (bx_own _ _ _) _) (Own.from (bx_own _ _ _) _)) (OwnFrom.and (Own.from (bx_own _ _ _) _) (ownFrom_below (Nat.le_refl _) (by have := HS5.out; have := HB0.out; omega)))))
  (fun c => OwnFrom.and (Own.from (fun s X Y row hs hg hr => by
   obtain ⟨h1, h2, h3⟩ := hs
   exact ⟨h1, h2, bx_own _ _ (fun (_ : Unit) => #[Value.bool false]) () X Y row h3 hg hr⟩) _) (ownFrom_below (Nat.le_refl _) (by have := HS5.out; have := HB0.out; omega)))
  ⟨rfl, ⟨HBX5.out.1, HBX5.out.2⟩, HBK.out, HB5.out⟩
  (fun x a' W => ∃ bx, b0 + 1 + 1 + 1 < bx ∧ Bx W bx 28 (encN x.2).toArray ∧ a' = { tmps := #[.slice p m c, .func (.func 125) #[] #[], .slice q mk d, undef, .pointer (some ⟨b0, 0, none⟩), undef, .pointer (some ⟨b0 + 1, 0, none⟩), undef, .pointer (some ⟨bx, 0, none⟩), .slice p m c, .slice q mk d, .func (.func 117) #[] #[.pointer (some ⟨b0 + 1 + 1, 0, none⟩), .pointer (some ⟨b0 + 1 + 1 + 1, 0, none⟩)], .int .i64 (x.1 : Nat), .agg (encN x.2).toArray, undef, undef, undef, undef], defers := [] })
  (fun x a' _ X Y row hs hg hr => by
   obtain ⟨bx, h1, h2, h3⟩ := hs
   refine ⟨bx, h1, h2.kept hg (fun e => ?_), h3⟩
   obtain ⟨o, ho, hc⟩ := (hr bx e.symm).2
   rw [show X.heap[bx]? = _ from h2] at ho; cases ho; cases hc)
  ?assign ?body ?done ?stop
 case assign =>
  rintro l pre x W K ⟨hpr, ⟨hF1, hR1⟩, hK1, hB1⟩ hK
  obtain ⟨ls, lk, hlit⟩ := node_lit x.2
  unfold NodeLit at hlit
  have hz := hK1.lt
  have hbl := bl_alloc W (.cells (encN x.2).toArray 28)
  have hbx := Bx.new W 28 (encN x.2).toArray
  have HAS := lh (hK _ (W.alloc (.cells (encN x.2).toArray 28)) ((KeepsOthers.alloc _ _).from _) (KpN.of_below hbl) ⟨hpr, ⟨hF1.below hbl, hR1.below hbl⟩, hK1.below hbl, hB1.trans (hbl.mono hB1.size)⟩ ⟨W.heap.size, hz, hbx, rfl⟩)
  rw [hlit] at HAS ⊢
  clear hlit hbl hbx hz hK hpr hF1 hR1 hK1 hB1
  gi_wp2
  exact HAS.out
 case body =>
  rintro l pre x a' W hl ⟨r, hr⟩ ⟨hpr, ⟨hF1, hR1⟩, hK1, hB1⟩ ⟨bx, hbx, hX1, rfl⟩ hlt
  have HC := lh (endless_any x.2 W)
  obtain ⟨ls, lk, hlit⟩ := node_lit x.2
  unfold NodeLit at hlit
  rw [hlit] at HC hX1 ⊢
  obtain ⟨c0, c1, c2, c3, c4, c5, c6, c7, c8⟩ := nine hX1
  have cF : W.cell? ⟨b0, 0, none⟩ = some (.func (.func 125) #[] #[]) := hF1.cell rfl
  have HI := lh (And.intro hpr (And.intro hF1 (And.intro hR1 (And.intro hK1 hB1))))
  have HLT := lh hbx
  clear hlit hr hX1 hpr hF1 hR1 hK1 hB1 hlt hbx
  obtain ⟨bb, hbb⟩ : ∃ b : Bool, b = endlessB x.2.nd := ⟨_, rfl⟩
  have HBB := lh hbb
  cases bb with
  | true =>
   rw [show endlessB x.2.nd = true from hbb.symm] at HC
   clear hbb
   gi_wp2_with ((refine ⟨trivial, ?_⟩; gi_at_call 125; refine (CallsIn.inRound l (callsIn_wide.2 HC.out)).mono ?_; rintro e w5 ⟨rfl, hb5⟩))
   exact ⟨⟨hb5.size, fun k o hk ho hc => (hb5.block k (lt_of_block ho)).trans ho⟩, KpN.of_below hb5, allP_yes HI.out.1 HBB.out.symm, ⟨HI.out.2.1.below hb5, HI.out.2.2.1.below hb5⟩, HI.out.2.2.2.1.below hb5, HI.out.2.2.2.2.trans (hb5.mono HI.out.2.2.2.2.size)⟩
  | false =>
   rw [show endlessB x.2.nd = false from hbb.symm] at HC
   clear hbb
   gi_wp2_with ((refine ⟨trivial, ?_⟩; gi_at_call 125; refine (CallsIn.inRound l (callsIn_wide.2 HC.out)).mono ?_; rintro e w5 ⟨rfl, hb5⟩; have hR5 := HI.out.2.2.1.below hb5; have cR : w5.cell? ⟨b0 + 1, 0, none⟩ = some (.bool false) := hR5.cell rfl; have fR := hR5.free 0; have HR5 := lh hR5; have HB5 := lh hb5; clear hR5 hb5))
   refine ⟨⟨by have := HB5.out.size; simpa using this, fun k o hk ho hc => (KeepsOthers.setCell w5 ⟨b0 + 1, 0, none⟩ (.bool false)).same k o ((HB5.out.block k (lt_of_block ho)).trans ho) hc⟩, ⟨rfl, allP_no HBB.out.symm, HR5.out.set 0 _⟩, (HI.out.2.2.2.2.trans (HB5.out.mono HI.out.2.2.2.2.size)).setCell (p := ⟨b0 + 1, 0, none⟩) (by have := HB0.out; show w.heap.size ≤ b0 + 1; omega) _⟩
 case done =>
  rintro D ys W hD rfl ⟨hpr, ⟨hF1, hR1⟩, hK1, hB1⟩ hK
  have HKK := lh hK
  have HR1 := lh hR1
  have cR : W.cell? ⟨b0 + 1, 0, none⟩ = some (.bool false) := hR1.cell rfl
  have fR := hR1.free 0
  have HRK : Hid (allB endlessB xs ks = true) := hpr
  have HB1 := lh hB1
  have HDD := lh hD
  clear hK hpr hF1 hR1 hK1 hB1 hD
  gi_wp2
  have hKq : (W.setCell ⟨b0 + 1, 0, none⟩ (.bool true)).heap[D]? = some (.deferred (some [])) := (KeepsOthers.setCell W ⟨b0 + 1, 0, none⟩ (.bool true)).same D _ HKK.out rfl
  refine ⟨by simp, .inl ⟨_, _, rfl, run_takeDeferred hKq, ?_⟩⟩
  have hc5 := cell_kept ((HR1.out.set 0 (.bool true)).cell (i := 0) (v := .bool true) rfl) (grownBy_putObj' _ D (.deferred none)) (fun r e => by cases e; exact ⟨_, hKq, rfl⟩)
  have hB6 := HB1.out.setCell (p := ⟨b0 + 1, 0, none⟩) (by have := HB0.out; show w.heap.size ≤ b0 + 1; omega) (.bool true)
  refine ⟨.bool true, ?_, by rw [HRK.out], hB6.trans (belowK_b (w := w) (Nat.le_refl _) _ D _ _ (by have := HS5.out; have := HB0.out; have := HDD.out; omega) hKq rfl rfl)⟩
  simp [results, Tryz.f121, go_sem, hc5]
 case stop =>
  rintro D c' pre W hD hSp ⟨⟨rfl, hpr, hR1⟩, hB1⟩ hK
  have HKK := lh hK
  have HR1 := lh hR1
  obtain ⟨t, ht⟩ := hSp
  have HRK : Hid (allB endlessB xs ks = false) := by
   show _ = _
   unfold allB
   unfold AllP at hpr
   rw [← ht, List.all_append, hpr]; rfl
  clear hK hpr hR1 ht
  gi_wp2
  refine ⟨by simp, .inl ⟨_, _, rfl, run_takeDeferred HKK.out, ?_⟩⟩
  have hc5 := cell_kept (HR1.out.cell (i := 0) (v := .bool false) rfl) (grownBy_putObj' _ D (.deferred none)) (fun r e => by cases e; exact ⟨_, HKK.out, rfl⟩)
  refine ⟨.bool false, ?_, by rw [HRK.out], hB1.trans (belowK_b (w := w) (Nat.le_refl _) _ D _ _ (by have := HS5.out; have := HB0.out; omega) HKK.out rfl rfl)⟩
  simp [results, Tryz.f121, go_sem, hc5]

theorem allUpTo_any (g bg : Nat) (p : Option Addr) (m c : Nat) (xs : List NV) (q : Option Addr) (mk d : Nat) (ks : List Int) (w : World) (hm : m = xs.length) (hld : m ≤ 1000000) (hmk : mk = ks.length) (hlk : mk ≤ 1000000) (hg : Bx w bg 3 #[.int .i64 (g : Nat)]) (hL : SlN w p xs) (hU : SlU w q ks) :
  Calls Tryz.prog 121 #[.slice p m c, .func (.func 176) #[] #[.pointer (some ⟨bg, 0, none⟩)], .slice q mk d] w fun e w' => e = .returned (.bool (allB (upToB g) xs ks)) ∧ Below w.heap.size w w' := by
 refine (callsIn_wide (n := 8)).1 ?_
 have hro : Fence.wide.round = none := rfl
 obtain ⟨b0, hb0⟩ : ∃ b, b = w.heap.size := ⟨_, rfl⟩
 obtain ⟨W2, hW2⟩ : ∃ W, W = (w.alloc (.cells #[.func (.func 176) #[] #[.pointer (some ⟨bg, 0, none⟩)]] 159)).alloc (.cells #[.bool false] 4) := ⟨_, rfl⟩
 have hB2 : Below w.heap.size w W2 := by rw [hW2]; exact bl_trans (bl_alloc _ _) (bl_alloc _ _)
 have bF : Bx W2 b0 159 #[.func (.func 176) #[] #[.pointer (some ⟨bg, 0, none⟩)]] := by rw [hW2, hb0]; exact (Bx.new w _ _).below (bl_alloc _ _)
 have bR : Bx W2 (b0 + 1) 4 #[.bool false] := by
  have h := Bx.new (w.alloc (.cells #[.func (.func 176) #[] #[.pointer (some ⟨bg, 0, none⟩)]] 159)) 4 #[.bool false]
  rw [World.size_alloc, ← hb0] at h; rw [hW2]; exact h
 have hs2 : W2.heap.size = b0 + 1 + 1 := by rw [hW2, hb0]; simp
 have HW2 := lh hW2
 have HB2 := lh hB2
 have HS2 := lh hs2
 have HBX := lh (And.intro bF bR)
 have HB0 := lh hb0
 have HL := lh (And.intro hL hU)
 have HM := lh (And.intro hm (And.intro hld (And.intro hmk hlk)))
 have HG := lh hg
 clear hL hU hm hld hmk hlk hW2 hB2 hs2 bF bR hb0 hg
 refine callsIn_of_wp_marks Tryz.func121 rfl trivial ?_ hro
 simp only [Tryz.ntmps121, List.size_toArray, List.length_cons, List.length_nil, Nat.reduceAdd, Nat.reduceSub, Array.replicate_succ, Array.replicate_zero, List.push_toArray, List.append_toArray, List.nil_append, List.cons_append]
 gi_wp2_with ((refine ⟨trivial, ?_⟩; gi_at_call 67; refine (callsIn_wide.2 (each_any _ _ _ _ _ _ _)).mono ?_; rintro e w' ⟨rfl, rfl⟩))
 rw [← HW2.out, ← HB0.out]
 obtain ⟨W5, hW5⟩ : ∃ W, W = (W2.alloc (.cells #[.slice p m c] 60)).alloc (.cells #[.slice q mk d] 154) := ⟨_, rfl⟩
 rw [← hW5]
 have hb25 : Below W2.heap.size W2 W5 := by rw [hW5]; exact bl_trans (bl_alloc _ _) (bl_alloc _ _)
 have bS : Bx W5 (b0 + 1 + 1) 60 #[.slice p m c] := by rw [hW5, ← HS2.out]; exact (Bx.new W2 _ _).below (bl_alloc _ _)
 have bK : Bx W5 (b0 + 1 + 1 + 1) 154 #[.slice q mk d] := by
  have h := Bx.new (W2.alloc (.cells #[.slice p m c] 60)) 154 #[.slice q mk d]
  rw [World.size_alloc, HS2.out] at h; rw [hW5]; exact h
 have hB5 : Below w.heap.size w W5 := bl_trans HB2.out hb25
 have hst := each_stops (8 - 1) (b0 + 1 + 1) (b0 + 1 + 1 + 1) p m c xs q mk d ks HM.out.1 HM.out.2.1 HM.out.2.2.1 HM.out.2.2.2 (by omega) W5 bS bK (HL.out.1.below hB5) (HL.out.2.below hB5)
 have HBX5 := lh (And.intro (HBX.out.1.below hb25) (HBX.out.2.below hb25))
 have HS5 : Hid (W5.heap.size = b0 + 1 + 1 + 1 + 1) := by show _ = _; rw [hW5, World.size_alloc, World.size_alloc, HS2.out]
 have HB5 := lh hB5
 have HBK := lh bK
 clear hW5 hb25 bS bK hB5
 refine wpIn_rangeFunc_ownH hro (by omega) (gf := 117) (lb := #[.pointer (some ⟨b0 + 1 + 1, 0, none⟩), .pointer (some ⟨b0 + 1 + 1 + 1, 0, none⟩)]) rfl trivial (enters_of Tryz.func117 (by kernel_rfl) rfl)
  hst (fun h k => h.trans k) kpn_b (Below.refl _ _) (fun _ => rfl)
  (fun pre W => AllP (upToB g) pre true ∧ (Bx W b0 159 #[.func (.func 176) #[] #[.pointer (some ⟨bg, 0, none⟩)]] ∧ Bx W (b0 + 1) 4 #[.bool false]) ∧ Bx W (b0 + 1 + 1 + 1) 154 #[.slice q mk d] ∧ Below w.heap.size w W)
  (fun c pre W => (c = .ret ∧ AllP (upToB g) pre false ∧ Bx W (b0 + 1) 4 #[.bool false]) ∧ Below w.heap.size w W)
  (OwnFrom.and (fun _ _ _ _ hs _ _ => hs) (OwnFrom.and (OwnFrom.and (Own.from (bx_own _ _ _) _) (Own.from (bx_own _ _ _) _)) (OwnFrom.and (Own.from (bx_own _ _ _) _) (ownFrom_below (Nat.le_refl _) (by have := HS5.out; have := HB0.out; omega)))))
  (fun c => OwnFrom.and (Own.from (fun s X Y row hs hg hr => by
   obtain ⟨h1, h2, h3⟩ := hs
   exact ⟨h1, h2, bx_own _ _ (fun (_ : Unit) => #[Value.bool false]) () X Y row h3 hg hr⟩) _) (ownFrom_below (Nat.le_refl _) (by have := HS5.out; have := HB0.out; omega)))
  ⟨rfl, ⟨HBX5.out.1, HBX5.out.2⟩, HBK.out, HB5.out⟩
  (fun x a' W => ∃ bx, b0 + 1 + 1 + 1 < bx ∧ Bx W bx 28 (encN x.2).toArray ∧ a' = { tmps := #[.slice p m c, .func (.func 176) #[] #[.pointer (some ⟨bg, 0, none⟩)], .slice q mk d, undef, .pointer (some ⟨b0, 0, none⟩), undef, .pointer (some ⟨b0 + 1, 0, none⟩), undef, .pointer (some ⟨bx, 0, none⟩), .slice p m c, .slice q mk d, .func (.func 117) #[] #[.pointer (some ⟨b0 + 1 + 1, 0, none⟩), .pointer (some ⟨b0 + 1 + 1 + 1, 0, none⟩)], .int .i64 (x.1 : Nat), .agg (encN x.2).toArray, undef, undef, undef, undef], defers := [] })
  (fun x a' _ X Y row hs hg hr => by
   obtain ⟨bx, h1, h2, h3⟩ := hs
   refine ⟨bx, h1, h2.kept hg (fun e => ?_), h3⟩
   obtain ⟨o, ho, hc⟩ := (hr bx e.symm).2
   rw [show X.heap[bx]? = _ from h2] at ho; cases ho; cases hc)
  ?assign ?body ?done ?stop
 case assign =>
  rintro l pre x W K ⟨hpr, ⟨hF1, hR1⟩, hK1, hB1⟩ hK
  obtain ⟨ls, lk, hlit⟩ := node_lit x.2
  unfold NodeLit at hlit
  have hz := hK1.lt
  have hbl := bl_alloc W (.cells (encN x.2).toArray 28)
  have hbx := Bx.new W 28 (encN x.2).toArray
  have HAS := lh (hK _ (W.alloc (.cells (encN x.2).toArray 28)) ((KeepsOthers.alloc _ _).from _) (KpN.of_below hbl) ⟨hpr, ⟨hF1.below hbl, hR1.below hbl⟩, hK1.below hbl, hB1.trans (hbl.mono hB1.size)⟩ ⟨W.heap.size, hz, hbx, rfl⟩)
  rw [hlit] at HAS ⊢
  clear hlit hbl hbx hz hK hpr hF1 hR1 hK1 hB1
  gi_wp2
  exact HAS.out
 case body =>
  rintro l pre x a' W hl ⟨r, hr⟩ ⟨hpr, ⟨hF1, hR1⟩, hK1, hB1⟩ ⟨bx, hbx, hX1, rfl⟩ hlt
  have HC := lh (upTo1_any g bg x.2 W (HG.out.below hB1))
  obtain ⟨ls, lk, hlit⟩ := node_lit x.2
  unfold NodeLit at hlit
  rw [hlit] at HC hX1 ⊢
  obtain ⟨c0, c1, c2, c3, c4, c5, c6, c7, c8⟩ := nine hX1
  have cF : W.cell? ⟨b0, 0, none⟩ = some (.func (.func 176) #[] #[.pointer (some ⟨bg, 0, none⟩)]) := hF1.cell rfl
  have HI := lh (And.intro hpr (And.intro hF1 (And.intro hR1 (And.intro hK1 hB1))))
  have HLT := lh hbx
  clear hlit hr hX1 hpr hF1 hR1 hK1 hB1 hlt hbx
  obtain ⟨bb, hbb⟩ : ∃ b : Bool, b = (upToB g) x.2.nd := ⟨_, rfl⟩
  have HBB := lh hbb
  cases bb with
  | true =>
   rw [show (upToB g) x.2.nd = true from hbb.symm] at HC
   clear hbb
   gi_wp2_with ((refine ⟨trivial, ?_⟩; gi_at_call 176; refine (CallsIn.inRound l (callsIn_wide.2 HC.out)).mono ?_; rintro e w5 ⟨rfl, hb5⟩))
   exact ⟨⟨hb5.size, fun k o hk ho hc => (hb5.block k (lt_of_block ho)).trans ho⟩, KpN.of_below hb5, allP_yes HI.out.1 HBB.out.symm, ⟨HI.out.2.1.below hb5, HI.out.2.2.1.below hb5⟩, HI.out.2.2.2.1.below hb5, HI.out.2.2.2.2.trans (hb5.mono HI.out.2.2.2.2.size)⟩
  | false =>
   rw [show (upToB g) x.2.nd = false from hbb.symm] at HC
   clear hbb
   gi_wp2_with ((refine ⟨trivial, ?_⟩; gi_at_call 176; refine (CallsIn.inRound l (callsIn_wide.2 HC.out)).mono ?_; rintro e w5 ⟨rfl, hb5⟩; have hR5 := HI.out.2.2.1.below hb5; have cR : w5.cell? ⟨b0 + 1, 0, none⟩ = some (.bool false) := hR5.cell rfl; have fR := hR5.free 0; have HR5 := lh hR5; have HB5 := lh hb5; clear hR5 hb5))
   refine ⟨⟨by have := HB5.out.size; simpa using this, fun k o hk ho hc => (KeepsOthers.setCell w5 ⟨b0 + 1, 0, none⟩ (.bool false)).same k o ((HB5.out.block k (lt_of_block ho)).trans ho) hc⟩, ⟨rfl, allP_no HBB.out.symm, HR5.out.set 0 _⟩, (HI.out.2.2.2.2.trans (HB5.out.mono HI.out.2.2.2.2.size)).setCell (p := ⟨b0 + 1, 0, none⟩) (by have := HB0.out; show w.heap.size ≤ b0 + 1; omega) _⟩
 case done =>
  rintro D ys W hD rfl ⟨hpr, ⟨hF1, hR1⟩, hK1, hB1⟩ hK
  have HKK := lh hK
  have HR1 := lh hR1
  have cR : W.cell? ⟨b0 + 1, 0, none⟩ = some (.bool false) := hR1.cell rfl
  have fR := hR1.free 0
  have HRK : Hid (allB (upToB g) xs ks = true) := hpr
  have HB1 := lh hB1
  have HDD := lh hD
  clear hK hpr hF1 hR1 hK1 hB1 hD
  gi_wp2
  have hKq : (W.setCell ⟨b0 + 1, 0, none⟩ (.bool true)).heap[D]? = some (.deferred (some [])) := (KeepsOthers.setCell W ⟨b0 + 1, 0, none⟩ (.bool true)).same D _ HKK.out rfl
  refine ⟨by simp, .inl ⟨_, _, rfl, run_takeDeferred hKq, ?_⟩⟩
  have hc5 := cell_kept ((HR1.out.set 0 (.bool true)).cell (i := 0) (v := .bool true) rfl) (grownBy_putObj' _ D (.deferred none)) (fun r e => by cases e; exact ⟨_, hKq, rfl⟩)
  have hB6 := HB1.out.setCell (p := ⟨b0 + 1, 0, none⟩) (by have := HB0.out; show w.heap.size ≤ b0 + 1; omega) (.bool true)
  refine ⟨.bool true, ?_, by rw [HRK.out], hB6.trans (belowK_b (w := w) (Nat.le_refl _) _ D _ _ (by have := HS5.out; have := HB0.out; have := HDD.out; omega) hKq rfl rfl)⟩
  simp [results, Tryz.f121, go_sem, hc5]
 case stop =>
  rintro D c' pre W hD hSp ⟨⟨rfl, hpr, hR1⟩, hB1⟩ hK
  have HKK := lh hK
  have HR1 := lh hR1
  obtain ⟨t, ht⟩ := hSp
  have HRK : Hid (allB (upToB g) xs ks = false) := by
   show _ = _
   unfold allB
   unfold AllP at hpr
   rw [← ht, List.all_append, hpr]; rfl
  clear hK hpr hR1 ht
  gi_wp2
  refine ⟨by simp, .inl ⟨_, _, rfl, run_takeDeferred HKK.out, ?_⟩⟩
  have hc5 := cell_kept (HR1.out.cell (i := 0) (v := .bool false) rfl) (grownBy_putObj' _ D (.deferred none)) (fun r e => by cases e; exact ⟨_, HKK.out, rfl⟩)
  refine ⟨.bool false, ?_, by rw [HRK.out], hB1.trans (belowK_b (w := w) (Nat.le_refl _) _ D _ _ (by have := HS5.out; have := HB0.out; omega) HKK.out rfl rfl)⟩
  simp [results, Tryz.f121, go_sem, hc5]
end Go.Proofs.YtkefndfgkmdphaaGreat
