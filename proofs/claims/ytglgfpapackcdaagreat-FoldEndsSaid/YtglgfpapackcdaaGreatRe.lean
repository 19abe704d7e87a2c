/- The walk of put: what of a range is of code points, behind the others. -/
import Derived.Test.YtglgfpapackcdaaGreatRd
import Derived.RangeFuncNested
import Derived.RangeFuncBound
import Derived.RangeFuncCalls
import Derived.RangeFuncLeaves
import Derived.RangeFuncBox
import Derived.Deep.RegionLaw

namespace Go.Proofs.YtglgfpapackcdaaGreat
open Go.RowKit Tnr

def BoxR (w : World) (b B : Nat) (T : TypeId) (l : List R) : Prop := ∃ p c, Boxed w b T (.slice p l.length c) ∧ OwnR w B (.slice p l.length c) l
theorem BoxR.below {w w' : World} {b B : Nat} {T : TypeId} {l : List R} (h : BoxR w b B T l) (hb : Below w.heap.size w w') : BoxR w' b B T l := by
  obtain ⟨p, c, h1, h2⟩ := h
  exact ⟨p, c, (hb.block b h1.lt).trans h1, ownR_below h2 hb⟩
theorem BoxR.ne {w : World} {b B : Nat} {T : TypeId} {l : List R} (h : BoxR w b B T l) {k : Nat} {cs : Array Value} {T' : TypeId} {fz : Nat × Nat} (hk : w.heap[k]? = some (.cells cs T' fz)) (hT : T' ≠ 24) (p : Option Addr) (n c : Nat) (hb : Boxed w b T (.slice p n c)) : (Value.slice p n c).ownBlock ≠ some k := by
  obtain ⟨p', c', h1, h2⟩ := h
  have e := (show _ = _ from h1).symm.trans hb
  simp only [Option.some.injEq, Obj.cells.injEq, Array.mk.injEq, List.cons.injEq, and_true] at e
  rw [← e]
  exact ownR_ne h2 hk hT
def PutPost (b B : Nat) (T : TypeId) (l : List R) (w : World) (e : Ending) (w' : World) : Prop :=
  e = .returned (.tuple #[]) ∧ BoxR w' b B T l ∧ KeepsOthers w w' ∧ Below B w w' ∧ (∀ k, k < w.heap.size → k ≠ b → (∀ p n c, Boxed w b T (.slice p n c) → (Value.slice p n c).ownBlock ≠ some k) → w'.heap[k]? = w.heap[k]?)

theorem put_end {b B gg cap : Nat} {T : TypeId} {l l' : List R} {p : Option Addr} {c : Nat} {x y : Int} {w z w1 : World} {O : Obj} (hl : l' = l ++ [(x, y)]) (hB : B ≤ b) (hT : T ≠ 24) (hb : Boxed w b T (.slice p l.length c)) (ho : OwnR w B (.slice p l.length c) l)
    (hzb : Below w.heap.size w z) (hzk : KeepsOthers w z) (hbw : Boxed w1 b T (.slice p l.length c))
    (hown : w1.ownsRow B 24 2 (.slice (some ⟨gg, 0, none⟩) (l.length + 1) cap) (l.length + 1) (l.flatMap encR ++ [.int .i64 x, .int .i64 y])) (hgrow : (z.alloc O).drew.grownBy w1 (Value.slice p l.length c).ownBlock) :
    PutPost b B T l' w (.returned (.tuple #[])) (w1.setCell ⟨b, 0, none⟩ (.slice (some ⟨gg, 0, none⟩) (l.length + 1) cap)) := by
  subst hl
  have hbl := hb.lt
  have e1 : (l ++ [(x, y)]).length = l.length + 1 := by simp
  have ho1 : OwnR w1 B (.slice (some ⟨gg, 0, none⟩) (l.length + 1) cap) (l ++ [(x, y)]) := ownR_appended (r := (x, y)) rfl hown
  have hsz := hzb.size
  have hg1 : ∀ k, k < w.heap.size → some k ≠ (Value.slice p l.length c).ownBlock → w1.heap[k]? = w.heap[k]? := by
    intro k hk hne
    rw [hgrow.block k (by simp; omega) hne]
    show (z.alloc O).heap[k]? = _
    rw [heap_alloc_old _ _ (by omega), hzb.block k hk]
  refine ⟨rfl, ⟨some ⟨gg, 0, none⟩, cap, ?_, ?_⟩, ?_, ?_, ?_⟩
  · rw [e1]; exact hbw.set _
  · rw [e1]
    exact ownsRow_setCell_other (a := ⟨b, 0, none⟩) ho1 (ownR_ne ho1 hbw hT) _
  · refine (hzk.trans ((KeepsOthers.alloc z O).trans ((KeepsOthers.drew _).trans (KeepsOthers.of_grownBy hgrow ?_)))).trans (KeepsOthers.setCell _ _ _)
    intro j o ej hj
    have hjl := (ho.lt j ej).2
    rcases ho.2 with ⟨e2, _⟩ | ⟨g, cap', cur, e2, _, hh, _⟩
    · rw [e2] at ej; simp [Value.ownBlock] at ej
    · rw [e2] at ej
      simp only [Value.ownBlock, Option.some.injEq] at ej
      subst ej
      have : ((z.alloc O).drew).heap[g]? = some (.cells cur 24 (0, 0)) := by
        show (z.alloc O).heap[g]? = _
        rw [heap_alloc_old _ _ (by omega), hzb.block g hjl]; exact hh
      rw [this] at hj
      simp only [Option.some.injEq] at hj
      subst hj; rfl
  · refine ((((hzb.mono (by omega)).alloc (by omega) O).drew).grown hgrow (by simp; omega) (fun k hk => (ho.lt k hk).1)).setCell hB _
  · intro k hk hkb hkt
    rw [Below.heap_setCell _ _ _ k (by simpa using fun e => hkb e)]
    exact hg1 k hk (hkt _ _ _ hb).symm

set_option maxHeartbeats 1600000 in
set_option maxRecDepth 100000 in
theorem put_any (b B : Nat) (T : TypeId) (l : List R) (r : R) (w : World) (hT : T ≠ 24) (hb : BoxR w b B T l) (hB : B ≤ b) (hl : l.length ≤ 1000000000) :
    Calls Tryz.prog 121 #[.pointer (some ⟨b, 0, none⟩), .agg #[.int .i64 r.1, .int .i64 r.2]] w (PutPost b B T (put l r) w) := by
  obtain ⟨i0, hinf, hz0, hz1, hz2⟩ := info_parts info_range
  obtain ⟨lo, hi⟩ := r
  obtain ⟨p, c, hb, ho⟩ := hb
  have hbl := hb.lt
  obtain ⟨x, hx⟩ : ∃ x, (if lo < 0 then (0 : Int) else lo) = x := ⟨_, rfl⟩
  obtain ⟨y, hy⟩ : ∃ y, (if 1114111 < hi then (1114111 : Int) else hi) = y := ⟨_, rfl⟩
  have hxm : max lo 0 = x := by rw [← hx]; split <;> omega
  have hym : min hi 1114111 = y := by rw [← hy]; split <;> omega
  have HP : Hid (put l (lo, hi) = if x ≤ y then l ++ [(x, y)] else l) := by
    show put l (lo, hi) = _
    unfold put
    rw [hxm, hym]
  have HL := Lib.hid hl
  have HB := Lib.hid hb
  have HO := Lib.hid ho
  have HBB := Lib.hid hB
  have HT := Lib.hid hT
  obtain ⟨rb, hrb⟩ : ∃ rb, rb = w.heap.size := ⟨_, rfl⟩
  have hne : b ≠ rb := by omega
  clear hxm hym hl ho hT hB
  have hbc := hb.cell
  have hbf := hb.frozen
  clear hb
  by_cases h : x ≤ y
  · go_enter Tryz.func121, Tryz.ntmps121
    go_wp2
    obtain ⟨z, hz⟩ : ∃ z, z = w.alloc (.cells #[.int .i64 x, .int .i64 y] 24) := ⟨_, rfl⟩
    rw [← hz, ← hrb]
    have hb1 : Boxed z b T (.slice p l.length c) := by rw [hz]; exact HB.out.alloc _
    have ho1 : OwnR z B (.slice p l.length c) l := by rw [hz]; exact ownR_below HO.out (bl_alloc _ _)
    have hzb : Below w.heap.size w z := by rw [hz]; exact bl_alloc _ _
    have hzk : KeepsOthers w z := by rw [hz]; exact KeepsOthers.alloc _ _
    have hzs : z.heap.size = rb + 1 := by rw [hz, hrb]; simp
    have hr0 : z.cell? ⟨rb, 0, none⟩ = some (.int .i64 x) := by rw [hz, hrb, World.cell?_alloc_at _ _ _ _ rfl]; rfl
    have hr1 : z.cell? ⟨rb, 1, none⟩ = some (.int .i64 y) := by rw [hz, hrb, World.cell?_alloc_at _ _ _ _ rfl]; rfl
    have hrg : z.heap[rb]? = some (.cells #[.int .i64 x, .int .i64 y] 24 (0, 0)) := by rw [hz, hrb]; exact heap_alloc_new w _
    have hc := hb1.cell
    have hf := hb1.frozen
    have hca : (z.alloc (.cells #[.int .i64 x, .int .i64 y] 24)).cell? ⟨b, 0, none⟩ = some (.slice p l.length c) := (hb1.alloc _).cell
    have hHS := Lib.hid (show B ≤ z.heap.size by have := HBB.out; omega)
    have HZS := Lib.hid hzs
    have hnr : Hid ((Value.slice p l.length c).ownBlock ≠ some rb ∧ (Value.slice p l.length c).ownBlock ≠ some b) := by
      refine ⟨fun e => ?_, ownR_ne HO.out HB.out HT.out⟩
      have := (HO.out.lt rb e).2
      omega
    have HB1 := Lib.hid hb1
    have HZB := Lib.hid hzb
    have HZK := Lib.hid hzk
    unfold OwnR at ho1
    have HO1 := Lib.hid ho1
    have HBL := Lib.hid hbl
    have HRB := Lib.hid hrb
    clear hb1 ho1 hzb hzk hz hbc hbf hzs hrg hbl hx hy hrb
    go_region_law ((refine step_append_lies _ (by rfl) _ _ _ (by rfl) B 24 i0 _ 2 16 Tryz.underlying132 hinf hz0 hz1 hz2 rfl (by omega) (.slice p l.length c) l.length _ (by rfl) ((HO1.out.alloc _).drew) ⟨z.heap.size, 0, none⟩ 1 1 [.int .i64 x, .int .i64 y] (by rfl) (by rfl) (World.news_of_block (cs := #[.int .i64 x, .int .i64 y]) (t := 24) (fr := (0, 0)) (heap_alloc_new z _)) (by simp [Value.oneCell']) (by omega) (by have := HL.out; simp only [maxLen]; omega) (by have := HL.out; omega) (by have := hHS.out; simp; omega) (z.heap.size + 1) (by simp) ?_; intro gg cap w1 hown1 hgrow hat hlt; have hbw : Boxed w1 b T (.slice p l.length c) := Boxed.kept (show Boxed ((z.alloc (.cells #[.int .i64 x, .int .i64 y] 24)).drew) b T (.slice p l.length c) from HB1.out.alloc _) hgrow (Ne.symm hnr.out.2); have hc1 := hbw.cell; have hf1 := hbw.frozen; have HBW := Lib.hid hbw; clear hbw))
    all_goals go_wp2
    all_goals go_end0
    all_goals exact put_end (by rw [HP.out, if_pos h]) HBB.out HT.out HB.out HO.out HZB.out HZK.out HBW.out hown1 hgrow
  · have hx1 : y < x := by omega
    go_enter Tryz.func121, Tryz.ntmps121
    go_wp2
    go_end0
    refine ⟨rfl, ?_, ?_, ?_, ?_⟩
    · rw [HP.out, if_neg (by omega)]
      exact BoxR.below ⟨p, c, HB.out, HO.out⟩ (bl_alloc _ _)
    · exact KeepsOthers.alloc _ _
    · exact (bl_alloc _ _).mono (by have := HBB.out; omega)
    · intro k hk _ _
      exact heap_alloc_old _ _ hk
end Go.Proofs.YtglgfpapackcdaaGreat
