/- Boxes; drawn regions: a condition on what a slot holds, which every later world keeps; the kit's markNat at any place, two marks of one number. -/
import Derived.Test.YtcahnkocfbcchaaGreatDoorFcl
import Derived.Test.YtcahnkocfbcchaaGreatDoorNm
import Derived.Test.YtcahnkocfbcchaaGreatDoorFi

namespace Go.Proofs.YtcahnkocfbcchaaGreatDoor
open Go.RowKit Tnd

def Bx (w : World) (b : Nat) (T : TypeId) (cs : Array Value) : Prop := w.heap[b]? = some (.cells cs T (0, 0))
theorem Bx.lt {w : World} {b : Nat} {T : TypeId} {cs : Array Value} (h : Bx w b T cs) : b < w.heap.size := lt_of_block h
theorem Bx.new (w : World) (T : TypeId) (cs : Array Value) : Bx (w.alloc (.cells cs T)) w.heap.size T cs := heap_alloc_new w _
theorem Bx.cell {w : World} {b : Nat} {T : TypeId} {cs : Array Value} (h : Bx w b T cs) {i : Nat} {v : Value} (hi : cs[i]? = some v) : w.cell? ⟨b, i, none⟩ = some v := by
  simp only [World.cell?, show w.heap[b]? = _ from h]; exact hi
theorem Bx.free {w : World} {b : Nat} {T : TypeId} {cs : Array Value} (h : Bx w b T cs) (i : Nat) : w.frozen? ⟨b, i, none⟩ = false := by simp [World.frozen?, show w.heap[b]? = _ from h]
theorem Bx.below {w w' : World} {b : Nat} {T : TypeId} {cs : Array Value} (h : Bx w b T cs) (hb : Below w.heap.size w w') : Bx w' b T cs := (hb.block b h.lt).trans h
theorem Bx.kept {w w' : World} {b : Nat} {T : TypeId} {cs : Array Value} {row : Option Nat} (h : Bx w b T cs) (hg : w.grownBy w' row) (hne : some b ≠ row) : Bx w' b T cs := (hg.block b h.lt hne).trans h
theorem Bx.set {w : World} {b : Nat} {T : TypeId} {cs : Array Value} (h : Bx w b T cs) (i : Nat) (v : Value) : Bx (w.setCell ⟨b, i, none⟩ v) b T (cs.modify i fun _ => v) := by
  simp only [Bx, World.setCell, Array.getElem?_modify, if_true, show w.heap[b]? = _ from h]; rfl
theorem Bx.other {w : World} {b : Nat} {T : TypeId} {cs : Array Value} (h : Bx w b T cs) {a : Addr} (ha : b ≠ a.block) (x : Value) : Bx (w.setCell a x) b T cs := (Below.heap_setCell _ _ _ b ha).trans h
theorem cells_nine (w : World) (l : List Value) (T : TypeId) : ∀ j x, l[j]? = some x → (w.alloc (.cells l.toArray T)).cell? ((⟨w.heap.size, 0, none⟩ : Addr).add j) = some x := by
  intro j x hx
  have e : ((⟨w.heap.size, 0, none⟩ : Addr).add j) = ⟨w.heap.size, j, none⟩ := by simp [Addr.add]; exact Eq.symm
  rw [e, World.cell?_alloc_at _ _ _ _ rfl]
  simpa using hx
structure Kc where
  P : Value → World → Prop
  keep : ∀ {v : Value} {w w' : World}, P v w → Below w.heap.size w w' → P v w'
def Kc.val (u : Value) : Kc := ⟨fun v _ => v = u, fun h _ => h⟩
theorem keep_cellK {w w' : World} {b i : Nat} {v : Value} (hb : Below w.heap.size w w') (h : w.cell? ⟨b, i, none⟩ = some v) : w'.cell? ⟨b, i, none⟩ = some v := by rw [hb.cell (World.block_lt_of_cell? w _ h)]; exact h
theorem inv_stay {P : Program} {ops : Array Oper} {Q : Exit → Act → World → Prop} {o : Oper} {a : Act} {w : World} {v : Value} {K : Act → World → Prop} {G : Value → World → Prop} (hK : ∀ u y, G u y → Below w.heap.size w y → K (a.put o.dst u) y) (hG : G v w) (hrun : (execOp a.eval o).run P w = .ok (.value v) w) (hw : Region.wanted o (yielded ops a.tmps) = true) :
    if Region.wanted o (yielded ops a.tmps) = true then o.wp P a w K Q else K (a.put o.dst undef) w := inv_val hw hrun hK hG (Below.refl _ _)
theorem inv_away {P : Program} {ops : Array Oper} {Q : Exit → Act → World → Prop} {o : Oper} {a : Act} {w : World} {K : Act → World → Prop} {G : Value → World → Prop} (hK : ∀ u y, G u y → Below w.heap.size w y → K (a.put o.dst u) y) (hG : G undef w) (hw : Region.wanted o (yielded ops a.tmps) = false) :
    if Region.wanted o (yielded ops a.tmps) = true then o.wp P a w K Q else K (a.put o.dst undef) w := inv_left hw hK hG (Below.refl _ _)
theorem inv_enter {P : Program} {ops : Array Oper} {Q : Exit → Act → World → Prop} {o : Oper} {a : Act} {w : World} {K : Act → World → Prop} {G : Value → World → Prop} (F : FuncId) (args : Array Value) (hK : ∀ u y, G u y → Below w.heap.size w y → K (a.put o.dst u) y) (hrun : (execOp a.eval o).run P w = .ok (.enter F args) w) (hw : Region.wanted o (yielded ops a.tmps) = true)
    (hc : Calls P F args w fun e y => ∃ u, e = .returned u ∧ G u y ∧ Below w.heap.size w y) : if Region.wanted o (yielded ops a.tmps) = true then o.wp P a w K Q else K (a.put o.dst undef) w := inv_call hw hrun hK hc
theorem wanted_t {ops : Array Oper} {o : Oper} {a : Act} {j s : Nat} {b : Bool} (hv : a.tmps[s]? = some (.bool b)) (h : o.guard = some (j, b)) (hs : slotOf ops j = some s) : Region.wanted o (yielded ops a.tmps) = true := (wanted_some h hs hv).trans (by simp)
theorem wanted_f {ops : Array Oper} {o : Oper} {a : Act} {j s : Nat} {b : Bool} (hv : a.tmps[s]? = some (.bool b)) (h : o.guard = some (j, !b)) (hs : slotOf ops j = some s) : Region.wanted o (yielded ops a.tmps) = false := (wanted_some h hs hv).trans (by cases b <;> rfl)
set_option maxHeartbeats 3200000 in
set_option maxRecDepth 100000 in
theorem markNatV_any (k i : Nat) (w : World) (h0 : k ≤ 1000) (h1 : i ≤ 1000000) : Calls Tryz.prog 101 #[.int .i64 (k : Nat), .int .i64 (i : Nat)] w fun e w' => ∃ g, e = .returned (.agg #[.slice (some ⟨g, 0, none⟩) 1 1]) ∧ Bx w' g 46 #[.int .u32 (mk k i)] ∧ w.heap.size ≤ g ∧ Below w.heap.size w w' := by
  obtain ⟨W1, hW1⟩ : ∃ W, W = w.alloc (.cells #[.slice none 0 0] 24) := ⟨_, rfl⟩
  obtain ⟨br, hbr⟩ : ∃ b, b = w.heap.size := ⟨_, rfl⟩
  have hb1 : Below w.heap.size w W1 := by rw [hW1]; exact bl_alloc _ _
  have hR : Bx W1 br 24 #[.slice none 0 0] := by rw [hW1, hbr]; exact Bx.new _ _ _
  have HMT := Lib.hid (markU_any k i W1 h0 h1)
  have HB1 := Lib.hid hb1
  have HR := Lib.hid hR
  have HBR : Hid (w.heap.size ≤ br) := Nat.le_of_eq hbr.symm
  have HW1 := Lib.hid (And.intro hW1.symm hbr.symm)
  have hm0 := mk_lo k i
  have hm1 := mk_hi (k := k) (i := i) h0 (by omega)
  generalize mk k i = z at *
  clear hW1 hbr hb1 hR
  go_enter Tryz.func101, Tryz.ntmps101
  go_upto_region 1 with fail
  rw [HW1.out.2, HW1.out.1]
  go_wp2_with fail
  refine HMT.out.mono ?_
  rintro e w3 ⟨rfl, hb3⟩
  obtain ⟨w4, hw4⟩ : ∃ W, W = w3.alloc (.cells #[.int .u32 z] 46) := ⟨_, rfl⟩
  obtain ⟨g, hg⟩ : ∃ b, b = w3.heap.size := ⟨_, rfl⟩
  have hb4 : Below w3.heap.size w3 w4 := by rw [hw4]; exact bl_alloc _ _
  have hG : Bx w4 g 46 #[.int .u32 z] := by rw [hw4, hg]; exact Bx.new _ _ _
  have hgB : w.heap.size ≤ g := by rw [hg]; exact Nat.le_trans HB1.out.size hb3.size
  have hR4 := (HR.out.below hb3).below hb4
  have hB4 := (HB1.out.trans ((bl_trans hb3 hb4).mono HB1.out.size))
  obtain ⟨nv, hnv⟩ : ∃ v : Value, v = .slice (some ⟨g, 0, none⟩) 1 1 := ⟨_, rfl⟩
  have k0 := hR4.cell (i := 0) rfl
  have f0 := hR4.free 0
  have hR6 : Bx (w4.setCell ⟨br, 0, none⟩ nv) br 24 #[nv] := hR4.set 0 nv
  have z0 := hR6.cell (i := 0) rfl
  have hO6 : Bx (w4.setCell ⟨br, 0, none⟩ nv) g 46 #[.int .u32 z] := by
    have hne : g ≠ br := fun e => by
      have h1 := hG
      rw [e] at h1
      unfold Bx at h1
      rw [show w4.heap[br]? = _ from hR4] at h1
      simp at h1
    exact hG.other (a := ⟨br, 0, none⟩) hne _
  have HFIN := Lib.hid (And.intro hO6 (And.intro hgB (hB4.setCell (p := ⟨br, 0, none⟩) HBR.out nv)))
  rw [hnv] at z0 HFIN
  have HW4 := Lib.hid (And.intro hw4.symm hg.symm)
  rw [hw4] at k0 f0 z0 HFIN
  clear hb3 hb4 hG hgB hR4 hB4 hnv hR6 hO6 hw4
  rw [hg] at z0 HFIN
  clear hg
  go_wp2
  refine bodyPost_ret (v := .agg #[.slice (some ⟨w3.heap.size, 0, none⟩) 1 1]) (by simp [results, Tryz.results101, go_sem, z0]) rfl ⟨_, rfl, HFIN.out.1, HFIN.out.2.1, HFIN.out.2.2⟩
/-- a mark: a number of one digit. -/
def Kc.mark (z : Int) : Kc := ⟨fun v w => ∃ g : Nat, v = .agg #[.slice (some ⟨g, 0, none⟩) 1 1] ∧ Bx w g 46 #[.int .u32 z], fun ⟨g, h1, h2⟩ hb => ⟨g, h1, h2.below hb⟩⟩
theorem bx_sl32 {w : World} {g : Nat} {d : Nat} (h : Bx w g 46 #[.int .u32 (d : Nat)]) : Sl w .u32 (some ⟨g, 0, none⟩) [d] := by
  refine .inr ⟨g, 0, rfl, fun i hi => ?_⟩
  have : i = 0 := by simpa using hi
  subst this
  exact h.cell (i := 0) rfl
set_option maxRecDepth 100000 in
theorem sameMark_any (g g' : Nat) (z : Int) (hz : 0 ≤ z) (w : World) (h : Bx w g 46 #[.int .u32 z]) (h' : Bx w g' 46 #[.int .u32 z]) :
    Calls Tryz.prog 38 #[.agg #[.slice (some ⟨g, 0, none⟩) 1 1], .agg #[.slice (some ⟨g', 0, none⟩) 1 1]] w fun e w' => e = .returned (.bool true) ∧ Below w.heap.size w w' := by
  obtain ⟨d, rfl⟩ : ∃ d : Nat, z = (d : Nat) := ⟨z.toNat, by omega⟩
  refine (samenat_any (some ⟨g, 0, none⟩) (some ⟨g', 0, none⟩) 1 1 [d] [d] w (bx_sl32 h) (bx_sl32 h') (by simp) (by simp)).mono ?_
  rintro e w' ⟨rfl, h⟩
  simpa using h
end Go.Proofs.YtcahnkocfbcchaaGreatDoor
