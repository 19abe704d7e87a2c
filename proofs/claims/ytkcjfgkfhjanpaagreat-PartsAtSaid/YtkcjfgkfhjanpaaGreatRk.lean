/- The walk of Least. -/
import Derived.Test.YtkcjfgkfhjanpaaGreatRj
namespace Go.Proofs.YtkcjfgkfhjanpaaGreat
open Go.RowKit Tnr

attribute [local go_sem] Oper.semAt_some

theorem lst_nil {l d : List R} (h : merge d = cn l) (h0 : merge d = []) : lst l = (0, false) := by unfold lst; rw [← h, h0]
theorem lst_cons {l d r : List R} {x : R} (h : merge d = cn l) (h0 : merge d = x :: r) : lst l = (x.1, true) := by unfold lst; rw [← h, h0]

set_option maxHeartbeats 800000 in
set_option maxRecDepth 100000 in
theorem least_any (p : Option Addr) (c : Nat) (l : List R) (w : World) (hp : SlR w p l) (hl : l.length ≤ 50000) :
    Calls Tryz.prog 24 #[.slice p l.length c] w fun e W' => e = .returned (.tuple #[.int .i64 (lst l).1, .bool (lst l).2]) ∧ Below w.heap.size w W' := by
  refine (callsIn_wide (n := 8)).1 ?_
  have hro : Fence.wide.round = none := rfl
  obtain ⟨m, hm⟩ : ∃ m, m = l.length := ⟨_, rfl⟩
  have HLE := Lib.hid hl
  have HJ := Lib.hid (joined_one p c m l ((w.alloc (.cells #[.int .i64 0] 3)).alloc (.cells #[.bool false] 4)) hm (hp.below (bl_trans (bl_alloc _ _) (bl_alloc _ _))) hl)
  rw [World.size_alloc, World.size_alloc] at HJ
  rw [← hm]
  clear hp hm hl
  refine callsIn_of_wp_marks Tryz.func24 rfl trivial ?_ hro
  simp only [Tryz.ntmps24, List.size_toArray, List.length_cons, List.length_nil, Nat.reduceAdd, Nat.reduceSub, Array.replicate_succ, Array.replicate_zero, List.push_toArray, List.append_toArray, List.nil_append, List.cons_append]
  gi_wp2_with (first | (refine ⟨trivial, ?_⟩; gi_at_call 36; refine (callsIn_wide.2 HJ.out).mono ?_; rintro e w5 ⟨q, cq, d, rfl, ho5, hp5, hs5, hb5⟩; have HO5 := Lib.hid ho5; have HP5 := Lib.hid hp5; have HS5 := Lib.hid hs5; have HB5 := Lib.hid hb5; clear ho5 hp5 hs5 hb5) | (refine ⟨trivial, ?_⟩; gi_at_call 37; refine (callsIn_wide.2 (all_any _ _ _ _)).mono ?_; rintro e w' ⟨rfl, rfl⟩))
  obtain ⟨B, hB⟩ : ∃ B, B = w.heap.size := ⟨_, rfl⟩
  rw [← hB] at HO5 HB5 ⊢
  have hin5 := in_perm HP5.out (puts_in in_nil)
  have hdl : d.length ≤ 50000 := by
    have hmr := HLE.out
    have h1 := puts_length l []
    have h2 := HP5.out.length_eq
    rw [List.length_nil] at h1
    omega
  obtain ⟨q', cq', e5, _, _, _, hsl5, hob5⟩ := ownR_form HO5.out
  simp only [Value.slice.injEq, true_and] at e5
  obtain ⟨rfl, rfl⟩ := e5
  have HEN := Lib.hid (cn_of HP5.out HS5.out)
  have bN0 : Boxed w5 B 3 (.int .i64 0) := by
    have h := (Boxed.new w 3 (.int .i64 0)).alloc (.cells #[.bool false] 4)
    rw [← hB] at h
    exact (HB5.out.block B (by omega)).trans h
  have bT0 : Boxed w5 (B + 1) 4 (.bool false) := by
    have h := Boxed.new (w.alloc (.cells #[.int .i64 0] 3)) 4 (.bool false)
    rw [World.size_alloc, ← hB] at h
    exact (HB5.out.block (B + 1) (by omega)).trans h
  have bN := bN0.alloc (.cells #[.slice q d.length cq] 86)
  have bT := bT0.alloc (.cells #[.slice q d.length cq] 86)
  have bS := Boxed.new w5 86 (.slice q d.length cq)
  have hsl0 := hsl5.below (bl_alloc w5 (.cells #[.slice q d.length cq] 86))
  have hB0 : Below w.heap.size w (w5.alloc (.cells #[.slice q d.length cq] 86)) := by
    have h1 := bl_trans (bl_alloc w (.cells #[.int .i64 0] 3)) (bl_alloc (w.alloc (.cells #[.int .i64 0] 3)) (.cells #[.bool false] 4))
    have h2 := h1.trans (HB5.out.mono (by omega))
    exact h2.alloc h2.size _
  obtain ⟨Bs, hBs⟩ : ∃ Bs, Bs = w5.heap.size := ⟨_, rfl⟩
  rw [← hBs] at bS ⊢
  have hsz : (w5.alloc (.cells #[.slice q d.length cq] 86)).heap.size = Bs + 1 := by rw [hBs]; simp
  have hBBs : B + 1 < Bs := by rw [hBs]; exact bT0.lt
  obtain ⟨W0, hW0⟩ : ∃ W0, w5.alloc (.cells #[.slice q d.length cq] 86) = W0 := ⟨_, rfl⟩
  rw [hW0] at bN bT bS hsl0 hB0 hsz ⊢
  have hst := all_stops (8 - 1) Bs q cq d hin5 (by omega) (by omega) W0 bS hsl0
  obtain ⟨md, hmd⟩ : ∃ md, md = d.length := ⟨_, rfl⟩
  rw [← hmd] at bS ⊢
  clear hmd hW0 hBs hob5 hsl5 bN0 bT0 hin5 hsl0
  refine wpIn_rangeFunc_ownH hro (by omega) (gf := 70) (lb := #[.pointer (some ⟨Bs, 0, none⟩)]) rfl trivial (enters_of Tryz.func70 (by kernel_rfl) rfl)
    hst (fun h k => h.trans k) kpb_b (Below.refl _ _) (fun _ => rfl)
    (fun pre W => pre = [] ∧ (Boxed W B 3 (.int .i64 0) ∧ Boxed W (B + 1) 4 (.bool false)) ∧ Boxed W Bs 86 (.slice q md cq) ∧ Below w.heap.size w W)
    (fun c pre W => (c = .ret ∧ ∃ x, pre = [x] ∧ Boxed W B 3 (.int .i64 x.1) ∧ Boxed W (B + 1) 4 (.bool true)) ∧ Below w.heap.size w W)
    (OwnFrom.and (fun _ _ _ _ hs _ _ => hs) (OwnFrom.and (OwnFrom.and (Own.from (boxed_own _ _ _) _) (Own.from (boxed_own _ _ _) _)) (OwnFrom.and (Own.from (boxed_own _ _ _) _) (ownFrom_below (Nat.le_refl _) (by omega)))))
    (fun c => OwnFrom.and (Own.from (fun s X Y row hs hg hr => by
      obtain ⟨h1, x, h2, h3, h4⟩ := hs
      exact ⟨h1, x, h2, boxed_own _ _ (fun (_ : Unit) => Value.int .i64 x.1) () X Y row h3 hg hr, boxed_own _ _ (fun (_ : Unit) => Value.bool true) () X Y row h4 hg hr⟩) _) (ownFrom_below (Nat.le_refl _) (by omega)))
    ⟨rfl, ⟨bN, bT⟩, bS, hB0⟩
    (fun x a' W => ∃ Bx, Bs < Bx ∧ W.heap[Bx]? = some (.cells #[.int .i64 x.1, .int .i64 x.2] 44 (0, 0)) ∧ a' = { tmps := #[.slice p m c, undef, .pointer (some ⟨B, 0, none⟩), .pointer (some ⟨B + 1, 0, none⟩), .pointer (some ⟨Bx, 0, none⟩), .slice p m c, .slice (some ⟨B + 1 + 1, 0, none⟩) 1 1, .agg #[.slice q md cq], .func (.func 70) #[] #[.pointer (some ⟨Bs, 0, none⟩)], .agg #[.int .i64 x.1, .int .i64 x.2], undef, undef], defers := [] })
    (fun x a' _ X Y row hs hg hr => by
      obtain ⟨Bx, h1, h2, h3⟩ := hs
      refine ⟨Bx, h1, (hg.block Bx (lt_of_block h2) fun e => ?_).trans h2, h3⟩
      obtain ⟨o, ho, hc⟩ := (hr Bx e.symm).2
      rw [h2] at ho; cases ho; cases hc)
    ?assign ?body ?done ?stop
  case assign =>
    rintro l pre x W K ⟨hpr, ⟨hN1, hT1⟩, hS1, hB1⟩ hK
    clear hB
    gi_wp2
    exact hK _ _ ((KeepsOthers.alloc _ _).from _) ⟨fun h => h.below (bl_alloc _ _), fun v hv => hv.alloc _⟩ ⟨hpr, ⟨hN1.alloc _, hT1.alloc _⟩, hS1.alloc _, hB1.alloc hB1.size _⟩ ⟨W.heap.size, hS1.lt, heap_alloc_new W _, rfl⟩
  case body =>
    rintro l pre x a' W hl ⟨r, hr⟩ ⟨hpr, ⟨hN1, hT1⟩, hS1, hB1⟩ ⟨Bx, hBx, hX1, rfl⟩ hlt
    subst hpr
    have cN := hN1.cell
    have fN := hN1.frozen
    have cT := hT1.cell
    have fT := hT1.frozen
    have cX0 := two_cell0 hX1
    have hne : B ≠ B + 1 := by omega
    have HNX := Lib.hid hN1
    have HTX := Lib.hid hT1
    have HBB := Lib.hid hB1
    have HHB := Lib.hid hB
    clear hN1 hX1 hS1 hT1 hB1 hB hr hlt
    gi_wp2
    have hbe := HHB.out
    refine ⟨((KeepsOthers.setCell _ _ _).trans (KeepsOthers.setCell _ _ _)).from _, ⟨rfl, x, rfl, (HNX.out.set _).other (by omega) _, (HTX.out.other (by omega) _).set _⟩, (HBB.out.setCell (p := ⟨B, 0, none⟩) (by simp; omega) _).setCell (p := ⟨B + 1, 0, none⟩) (by simp; omega) _⟩
  case done =>
    rintro D ys W hD rfl ⟨hpr, ⟨hN1, hT1⟩, hS1, hB1⟩ hK
    have cN := hN1.cell
    have fN := hN1.frozen
    have cT := hT1.cell
    have fT := hT1.frozen
    have HHB := Lib.hid hB
    have hne : B ≠ B + 1 := by omega
    have HNX := Lib.hid hN1
    have HTX := Lib.hid hT1
    have HKK := Lib.hid hK
    have HPR := Lib.hid hpr
    clear hB hN1 hT1 hS1 hK hpr
    gi_wp2
    have hK' := ((KeepsOthers.setCell W ⟨B, 0, none⟩ (.int .i64 0)).trans (KeepsOthers.setCell _ ⟨B + 1, 0, none⟩ (.bool false))).same D _ HKK.out rfl
    refine ⟨by simp, .inl ⟨_, _, rfl, run_takeDeferred hK', ?_⟩⟩
    have hc5 := cell_kept ((HNX.out.set (.int .i64 0)).other (B' := B + 1) (by omega) (.bool false)).cell (grownBy_putObj' _ D (.deferred none)) (fun r e => by cases e; exact ⟨_, hK', rfl⟩)
    have hc6 := cell_kept ((HTX.out.other (B' := B) (by omega) (.int .i64 0)).set (.bool false)).cell (grownBy_putObj' _ D (.deferred none)) (fun r e => by cases e; exact ⟨_, hK', rfl⟩)
    have hbe := HHB.out
    refine ⟨.tuple #[.int .i64 0, .bool false], ?_, by rw [lst_nil HEN.out HPR.out], (((hB1.setCell (p := ⟨B, 0, none⟩) (by simp; omega) _).setCell (p := ⟨B + 1, 0, none⟩) (by simp; omega) _)).trans (belowK_b (w := w) (Nat.le_refl _) _ D _ _ (by omega) hK' rfl rfl)⟩
    simp [results, Tryz.f24, go_sem, hc5, hc6]
  case stop =>
    rintro D c' pre W hD hSp ⟨⟨rfl, x, hpr, hN1, hT1⟩, hB1⟩ hK
    have HKK := Lib.hid hK
    have HHB := Lib.hid hB
    clear hB hK
    gi_wp2
    refine ⟨by simp, .inl ⟨_, _, rfl, run_takeDeferred HKK.out, ?_⟩⟩
    have hc5 := cell_kept hN1.cell (grownBy_putObj' _ D (.deferred none)) (fun r e => by cases e; exact ⟨_, HKK.out, rfl⟩)
    have hc6 := cell_kept hT1.cell (grownBy_putObj' _ D (.deferred none)) (fun r e => by cases e; exact ⟨_, HKK.out, rfl⟩)
    obtain ⟨t, ht⟩ := hSp
    rw [hpr] at ht
    have hbe := HHB.out
    refine ⟨.tuple #[.int .i64 x.1, .bool true], ?_, by rw [lst_cons HEN.out ht.symm], hB1.trans (belowK_b (w := w) (Nat.le_refl _) _ D _ _ (by omega) HKK.out rfl rfl)⟩
    simp [results, Tryz.f24, go_sem, hc5, hc6]
end Go.Proofs.YtkcjfgkfhjanpaaGreat
