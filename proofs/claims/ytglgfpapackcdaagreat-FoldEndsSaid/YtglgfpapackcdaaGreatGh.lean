/- Whether folds are right: the walk of foldsRight, by slices.ContainsFunc and its closure. -/
import Derived.Test.YtglgfpapackcdaaGreatGg
import Derived.Deep.Cut

namespace Go.Proofs.YtglgfpapackcdaaGreat
open Go.RowKit Tnr

def BoxT (w : World) (b : Nat) (q : Option Addr) (n cq : Nat) (pp : Option Addr) (mp cp : Nat) : Prop := w.heap[b]? = some (.cells #[.slice q n cq, .slice pp mp cp] 69 (0, 0))
theorem BoxT.below {w w' : World} {b : Nat} {q : Option Addr} {n cq : Nat} {pp : Option Addr} {mp cp : Nat} (h : BoxT w b q n cq pp mp cp) (hb : Below w.heap.size w w') : BoxT w' b q n cq pp mp cp := (hb.block b (lt_of_block h)).trans h
theorem BoxT.new (w : World) (q : Option Addr) (n cq : Nat) (pp : Option Addr) (mp cp : Nat) : BoxT (w.alloc (.cells #[.slice q n cq, .slice pp mp cp] 69)) w.heap.size q n cq pp mp cp := (MapKept.heap_alloc w _).1
theorem BoxT.c0 {w : World} {b : Nat} {q : Option Addr} {n cq : Nat} {pp : Option Addr} {mp cp : Nat} (h : BoxT w b q n cq pp mp cp) : w.cell? ⟨b, 0, none⟩ = some (.slice q n cq) := by simp [World.cell?, show w.heap[b]? = _ from h]
theorem BoxT.c1 {w : World} {b : Nat} {q : Option Addr} {n cq : Nat} {pp : Option Addr} {mp cp : Nat} (h : BoxT w b q n cq pp mp cp) : w.cell? ⟨b, 1, none⟩ = some (.slice pp mp cp) := by simp [World.cell?, show w.heap[b]? = _ from h]

set_option maxHeartbeats 800000 in
set_option maxRecDepth 100000 in
theorem fclos_any (b : Nat) (q pp : Option Addr) (cq n mp cp : Nat) (d : List R) (x y : Int) (w : World) (hb : BoxT w b q n cq pp mp cp) (hn : n = d.length) (hq : SlR w q d) (hr : Rise d) (hl : n ≤ 10000000000000) :
    Calls Tryz.prog 114 #[.agg #[.int .i64 x, .int .i64 y], .pointer (some ⟨b, 0, none⟩)] w fun e w' => ∃ t : Bool, e = .returned (.bool t) ∧ (t = true ↔ (look d y).isSome = true) ∧ Below w.heap.size w w' := by
  have HM := Lib.hid (ffold_any q pp cq cp n mp d y (w.alloc (.cells #[.int .i64 x, .int .i64 y] 33)) hn (hq.below (bl_alloc _ _)) hr hl)
  have hc0 := (hb.below (bl_alloc w (.cells #[.int .i64 x, .int .i64 y] 33))).c0
  have hc1 := (hb.below (bl_alloc w (.cells #[.int .i64 x, .int .i64 y] 33))).c1
  have hd0 := hb.c0
  have hd1 := hb.c1
  clear hb hn hq hr hl
  go_enter Tryz.func114, Tryz.ntmps114
  go_wp2_with fail
  refine HM.out.mono ?_
  rintro e w2 ⟨rfl, hb2⟩
  have HB2 := Lib.hid (bl_trans (bl_alloc w (.cells #[.int .i64 x, .int .i64 y] 33)) hb2)
  clear hb2 hc0 hc1 hd0 hd1 HM
  generalize hL : (look d y).isSome = L
  have HLL := Lib.hid hL
  clear hL
  generalize (look d y).getD 0 = z
  go_wp2
  go_ret
  exact ⟨L, rfl, by rw [HLL.out], HB2.out⟩

set_option maxHeartbeats 1600000 in
set_option maxRecDepth 100000 in
theorem findexFunc_any (b : Nat) (q pp : Option Addr) (cq n mp cp : Nat) (d : List R) (p : Option Addr) (c m : Nat) (l : List R) (w : World) (hb : BoxT w b q n cq pp mp cp) (hn : n = d.length) (hq : SlR w q d) (hr : Rise d) (hl : n ≤ 10000000000000) (hm : m = l.length) (hp : SlR w p l) (hml : m ≤ 10000000000000) :
    Calls Tryz.prog 146 #[.slice p m c, .func (.func 114) #[] #[.pointer (some ⟨b, 0, none⟩)]] w fun e w' => ∃ z : Int, e = .returned (.int .i64 z) ∧ (0 ≤ z ↔ ∃ r ∈ l, (look d r.2).isSome = true) ∧ Below w.heap.size w w' := by
  have HBX := Lib.hid hb
  have HN := Lib.hid hn
  have HQ := Lib.hid hq
  have HR := Lib.hid hr
  have HL := Lib.hid hl
  have HM := Lib.hid hm
  have HP := Lib.hid hp
  have hmI : (m : Int) ≤ 10000000000000 := by omega
  clear hb hn hq hr hl hm hp hml
  go_enter Tryz.func146, Tryz.ntmps146
  go_wp2
  go_loopw [8] (fun iv wr => ∃ i : Nat, i ≤ m ∧ iv = .int .i64 (i : Nat) ∧ Hid (Below w.heap.size w wr) ∧ Hid (∀ k, k < i → ¬ (look d (gr l k).2).isSome = true)) (fun iv _ => m - (intOf iv).toNat)
  case atStart => exact ⟨0, Nat.zero_le _, rfl, Below.refl _ _, fun k hk => absurd hk (by omega)⟩
  case round =>
    obtain ⟨i, hi, rfl, HB, HNO⟩ := hrel
    rename World => wr
    by_cases him : i < m
    · have hiI : (i : Int) < m := by omega
      obtain ⟨bb, o, rfl, hc0, hc1⟩ := slr_at (HP.out.below HB.out) (show i < l.length by have := HM.out; omega)
      obtain ⟨x, hx⟩ : ∃ x, x = (gr l i).1 := ⟨_, rfl⟩
      obtain ⟨y, hy⟩ : ∃ y, y = (gr l i).2 := ⟨_, rfl⟩
      rw [← hx] at hc0
      rw [← hy] at hc1
      have HG : Hid (gr l i = (x, y)) := by rw [hx, hy]; rfl
      have HW := Lib.hid (fclos_any b q pp cq n mp cp d x y wr (HBX.out.below HB.out) HN.out (HQ.out.below HB.out) HR.out HL.out)
      clear hx hy
      go_wp2_with fail
      refine HW.out.mono ?_
      clear HW
      rintro e w2 ⟨t, rfl, ht, hb2⟩
      have HB2 := Lib.hid (bl_trans HB.out hb2)
      clear hb2 hc0 hc1
      cases t with
      | true =>
        have HT : Hid (∃ r ∈ l, (look d r.2).isSome = true) := ⟨gr l i, gr_mem (by have := HM.out; omega), by rw [HG.out]; exact ht.1 rfl⟩
        clear ht
        go_wp2
        go_ret
        exact ⟨(i : Nat), rfl, ⟨fun _ => HT.out, fun _ => by omega⟩, HB2.out⟩
      | false =>
        have HN2 : Hid (∀ k, k < i + 1 → ¬ (look d (gr l k).2).isSome = true) := by
          intro k hk
          by_cases e : k = i
          · rw [e, HG.out]; exact fun q => absurd (ht.2 q) (by decide)
          · exact HNO.out k (by omega)
        clear ht
        go_wp2
        go_roundw
        case rel => exact ⟨i + 1, by omega, by go_num, HB2.out, HN2.out⟩
        case measure => simp [intOf]; omega
    · have hiI : (m : Int) ≤ i := by omega
      have HNN : Hid (¬ ∃ r ∈ l, (look d r.2).isSome = true) := by
        rintro ⟨r, hr, ht⟩
        obtain ⟨k, hk, rfl⟩ := mem_gr hr
        exact HNO.out k (by have := HM.out; omega) ht
      go_wp2
      go_ret
      exact ⟨-1, rfl, ⟨fun h => absurd h (by omega), fun h => absurd h HNN.out⟩, HB.out⟩

set_option maxHeartbeats 800000 in
set_option maxRecDepth 100000 in
theorem fcontains_any (b : Nat) (q pp : Option Addr) (cq n mp cp : Nat) (d : List R) (p : Option Addr) (c m : Nat) (l : List R) (w : World) (hb : BoxT w b q n cq pp mp cp) (hn : n = d.length) (hq : SlR w q d) (hr : Rise d) (hl : n ≤ 10000000000000) (hm : m = l.length) (hp : SlR w p l) (hml : m ≤ 10000000000000) :
    Calls Tryz.prog 113 #[.slice p m c, .func (.func 114) #[] #[.pointer (some ⟨b, 0, none⟩)]] w fun e w' => ∃ t : Bool, e = .returned (.bool t) ∧ (t = true ↔ ∃ r ∈ l, (look d r.2).isSome = true) ∧ Below w.heap.size w w' := by
  have HI := Lib.hid (findexFunc_any b q pp cq n mp cp d p c m l w hb hn hq hr hl hm hp hml)
  clear hb hn hq hr hl hm hp hml
  go_enter Tryz.func113, Tryz.ntmps113
  go_wp2_with fail
  refine HI.out.mono ?_
  rintro e w2 ⟨z, rfl, hz, hb2⟩
  have HZ := Lib.hid hz
  have HB2 := Lib.hid hb2
  clear hz hb2 HI
  go_wp2
  go_ret
  exact ⟨decide (0 ≤ z), rfl, by rw [decide_eq_true_iff]; exact HZ.out, HB2.out⟩


theorem point_any (x : Int) (w : World) : Calls Tryz.prog 112 #[.int .i64 x] w fun e w' => e = .returned (.bool (decide (0 ≤ x ∧ x ≤ 1114111))) ∧ w' = w := by
  by_cases h1 : 0 ≤ x
  · by_cases h2 : x ≤ 1114111
    · have HV : Hid (decide (0 ≤ x ∧ x ≤ 1114111) = true) := decide_eq_true ⟨h1, h2⟩
      go_enter Tryz.func112, Tryz.ntmps112
      go_wp2
      go_ret
      exact ⟨by first | rfl | (show Ending.returned (Value.bool true) = _; rw [HV.out]), rfl⟩
    · have HV : Hid (decide (0 ≤ x ∧ x ≤ 1114111) = false) := decide_eq_false (fun h => h2 h.2)
      have d2 : decide (x ≤ 1114111) = false := decide_eq_false h2
      go_enter Tryz.func112, Tryz.ntmps112
      go_wp2
      go_ret
      exact ⟨by first | rfl | (show Ending.returned (Value.bool false) = _; rw [HV.out]), rfl⟩
  · have HV : Hid (decide (0 ≤ x ∧ x ≤ 1114111) = false) := decide_eq_false (fun h => h1 h.1)
    have d2 : decide (0 ≤ x) = false := decide_eq_false h1
    go_enter Tryz.func112, Tryz.ntmps112
    go_wp2
    go_ret
    exact ⟨by first | rfl | (show Ending.returned (Value.bool false) = _; rw [HV.out]), rfl⟩
def PtI (x : Int) : Prop := 0 ≤ x ∧ x ≤ 1114111
instance (x : Int) : Decidable (PtI x) := by unfold PtI; infer_instance
def FR (F : List R) : Prop := (∀ i, i < F.length → PtI (gr F i).1 ∧ PtI (gr F i).2) ∧ Rise F ∧ ∀ f ∈ F, look F f.2 = none
def FRk (F : List R) (k : Nat) : Prop := (∀ i, i < k → PtI (gr F i).1 ∧ PtI (gr F i).2) ∧ ∀ i, i + 1 < k → (gr F i).1 < (gr F (i + 1)).1
theorem rise_of {F : List R} (h : ∀ i, i + 1 < F.length → (gr F i).1 < (gr F (i + 1)).1) : Rise F := by
  intro i j hij hj
  induction j with
  | zero => omega
  | succ j ih =>
    by_cases e : i = j
    · subst e; exact h i hj
    · have := ih (by omega) (by omega)
      have := h j hj
      omega
set_option maxHeartbeats 3200000 in
set_option maxRecDepth 100000 in
theorem foldsRight_any (pf pp : Option Addr) (cf cp n m : Nat) (F : List R) (w : World) (hn : n = F.length) (hp : SlR w pf F) (hl : n ≤ 10000000000000) :
    Calls Tryz.prog 68 #[.agg #[.slice pf n cf, .slice pp m cp]] w fun e w' => ∃ t : Bool, e = .returned (.bool t) ∧ (t = true ↔ FR F) ∧ Below w.heap.size w w' := by
  have hbx := BoxT.new w pf n cf pp m cp
  have hb1 : Below w.heap.size w (w.alloc (.cells #[.slice pf n cf, .slice pp m cp] 69)) := bl_alloc _ _
  have HP := Lib.hid (hp.below hb1)
  have HN := Lib.hid hn
  have HNL := Lib.hid hl
  have HBX := Lib.hid hbx
  have HB1 := Lib.hid hb1
  have hc0 := hbx.c0
  have hc1 := hbx.c1
  have hnI : (n : Int) ≤ 10000000000000 := by omega
  clear hn hp hl hbx hb1
  go_enter Tryz.func68, Tryz.ntmps68
  go_wp2
  obtain ⟨w1, hw1⟩ : ∃ W, W = w.alloc (.cells #[.slice pf n cf, .slice pp m cp] 69) := ⟨_, rfl⟩
  obtain ⟨bt, hbt⟩ : ∃ b, b = w.heap.size := ⟨_, rfl⟩
  rw [← hw1, ← hbt] at HBX hc0 hc1
  rw [← hw1] at HP
  rw [← hw1] at HB1
  rw [← hw1, ← hbt]
  clear hw1
  have HBT := Lib.hid hbt
  clear hbt
  go_loopw [9] (fun iv wr => ∃ i : Nat, i ≤ n ∧ iv = .int .i64 (i : Nat) ∧ Hid (FRk F i) ∧ Hid (Below w1.heap.size w1 wr)) (fun iv _ => n - (intOf iv).toNat)
  case atStart => exact ⟨0, Nat.zero_le _, rfl, ⟨fun i hi => absurd hi (by omega), fun i hi => absurd hi (by omega)⟩, Below.refl _ _⟩
  case round =>
    clear hc0 hc1
    obtain ⟨i, hi, rfl, HF, HB⟩ := hrel
    rename World => wr
    have hc0 := (HBX.out.below HB.out).c0
    have hc1 := (HBX.out.below HB.out).c1
    by_cases hin : i < n
    · have hiI : (i : Int) < n := by omega
      have HI := Lib.hid hin
      obtain ⟨bb, o, rfl, hd0, hd1⟩ := slr_at (HP.out.below HB.out) (show i < F.length by have := HN.out; omega)
      obtain ⟨x, hx⟩ : ∃ x, x = (gr F i).1 := ⟨_, rfl⟩
      obtain ⟨y, hy⟩ : ∃ y, y = (gr F i).2 := ⟨_, rfl⟩
      rw [← hx] at hd0
      rw [← hy] at hd1
      have HX := Lib.hid hx
      have HY := Lib.hid hy
      clear hx hy hin hi
      have hf0 : (wr.alloc (.cells #[.int .i64 x, .int .i64 y] 33)).cell? ⟨wr.heap.size, 0, none⟩ = some (.int .i64 x) := by rw [World.cell?_alloc_at _ _ _ _ rfl]; rfl
      have hf1 : (wr.alloc (.cells #[.int .i64 x, .int .i64 y] 33)).cell? ⟨wr.heap.size, 1, none⟩ = some (.int .i64 y) := by rw [World.cell?_alloc_at _ _ _ _ rfl]; rfl
      have he0 := ((HBX.out.below HB.out).below (bl_alloc wr (.cells #[.int .i64 x, .int .i64 y] 33))).c0
      have HPW := Lib.hid ((HP.out.below HB.out).below (bl_alloc wr (.cells #[.int .i64 x, .int .i64 y] 33)))
      have HBW : Hid (Below w1.heap.size w1 (wr.alloc (.cells #[.int .i64 x, .int .i64 y] 33))) := HB.out.alloc HB.out.size _
      go_upto_region 4 with fail
      clear hc0 hc1 hd0 hd1
      generalize wr.alloc (.cells #[.int .i64 x, .int .i64 y] 33) = W4 at *
      generalize wr.heap.size = bf at *
      have hg0 : ∀ s, (W4.drewN s).cell? ⟨bf, 0, none⟩ = some (.int .i64 x) := fun s => hf0
      have hg1 : ∀ s, (W4.drewN s).cell? ⟨bf, 1, none⟩ = some (.int .i64 y) := fun s => hf1
      have hg2 : ∀ s, (W4.drewN s).cell? ⟨bt, 0, none⟩ = some (.slice (some ⟨bb, o, none⟩) n cf) := fun s => he0
      have HBN : Hid (∀ s, Below w.heap.size w (W4.drewN s)) := fun s => bl_trans HB1.out (bl_trans HBW.out (drewN_below _ _))
      have HBM : Hid (∀ s, Below w1.heap.size w1 (W4.drewN s)) := fun s => bl_trans HBW.out (drewN_below _ _)
      clear HBW HB
      by_cases hx1 : 0 ≤ x ∧ x ≤ 1114111
      · by_cases hy1 : 0 ≤ y ∧ y ≤ 1114111
        · have HPX : Hid (∀ s, Calls Tryz.prog 112 #[.int .i64 x] (W4.drewN s) fun e w' => e = .returned (.bool true) ∧ w' = W4.drewN s) := fun s => (point_any x _).mono fun e w' h => ⟨by rw [h.1, decide_eq_true (by assumption)], h.2⟩
          have HPY : Hid (∀ s, Calls Tryz.prog 112 #[.int .i64 y] (W4.drewN s) fun e w' => e = .returned (.bool true) ∧ w' = W4.drewN s) := fun s => (point_any y _).mono fun e w' h => ⟨by rw [h.1, decide_eq_true (by assumption)], h.2⟩
          have HPT : Hid (PtI x ∧ PtI y) := ⟨hx1, hy1⟩
          clear hx1 hy1
          by_cases hi0 : i = 0
          · have hi0D : decide ((0 : Int) < (i : Int)) = false := decide_eq_false (by omega)
            have hi0N : decide (0 < i) = false := decide_eq_false (by omega)
            have HF2 : Hid (FRk F (i + 1)) := by
              refine ⟨fun j hj => ?_, fun j hj => by omega⟩
              obtain rfl : j = i := by omega
              rw [← HX.out, ← HY.out]; exact HPT.out
            clear hi0
            go_quiet ((go_at_call 112; first | (with_reducible exact (HPX.out _).mono fun _ _ h => ⟨h.1, _, h.2⟩) | (with_reducible exact (HPY.out _).mono fun _ _ h => ⟨h.1, _, h.2⟩)))
            go_wp2
            go_roundw
            case rel => exact ⟨i + 1, by have := HI.out; omega, by go_num, HF2.out, HBM.out _⟩
            case measure => have := HI.out; simp [intOf]; omega
          · have hi0D : decide ((0 : Int) < (i : Int)) = true := decide_eq_true (by omega)
            have hi0N : decide (0 < i) = true := decide_eq_true (by omega)
            obtain ⟨bb2, o2, e2, hd2, _⟩ := slr_at HPW.out (show i - 1 < F.length by have := HN.out; have := HI.out; omega)
            simp only [Option.some.injEq, Addr.mk.injEq, and_true] at e2
            obtain ⟨rfl, rfl⟩ := e2
            obtain ⟨v, hv⟩ : ∃ v, v = (gr F (i - 1)).1 := ⟨_, rfl⟩
            rw [← hv] at hd2
            have HV := Lib.hid hv
            have hg3 : ∀ s, (W4.drewN s).cell? ⟨bb, o + (i - 1) * 2, none⟩ = some (.int .i64 v) := fun s => hd2
            have hw1 : IntKind.i64.wrap ((i : Int) - 1) = (i : Int) - 1 := by rw [IntKind.wrap_i64]; omega
            have hk1 : (0 : Int) ≤ (i : Int) - 1 := by omega
            have hk2 : (i : Int) - 1 < n := by omega
            have hk3 : ((i : Int) - 1).toNat = i - 1 := by omega
            have HI1 : Hid (1 ≤ i) := by show _ ≤ _; omega
            clear hv hi0
            by_cases hxv : x ≤ v
            · have hxD : decide (x ≤ v) = true := decide_eq_true hxv
              have HNO : Hid (¬ FR F) := by
                rintro ⟨_, h2, _⟩
                have := h2 (i - 1) i (by have := HI1.out; omega) (by have := HN.out; have := HI.out; omega)
                rw [← HX.out, ← HV.out] at this; omega
              clear hxv
              go_quiet ((go_at_call 112; first | (with_reducible exact (HPX.out _).mono fun _ _ h => ⟨h.1, _, h.2⟩) | (with_reducible exact (HPY.out _).mono fun _ _ h => ⟨h.1, _, h.2⟩)))
              go_wp2
              go_ret
              exact ⟨false, rfl, ⟨(fun h => by cases h), fun h => absurd h HNO.out⟩, HBN.out _⟩
            · have hxD : decide (x ≤ v) = false := decide_eq_false hxv
              have HF2 : Hid (FRk F (i + 1)) := by
                refine ⟨fun j hj => ?_, fun j hj => ?_⟩
                · by_cases e : j = i
                  · subst e; rw [← HX.out, ← HY.out]; exact HPT.out
                  · exact HF.out.1 j (by omega)
                · by_cases e : j + 1 = i
                  · have e1 : i - 1 = j := by omega
                    rw [e, ← HX.out, ← e1, ← HV.out]; omega
                  · exact HF.out.2 j (by omega)
              clear hxv
              go_quiet ((go_at_call 112; first | (with_reducible exact (HPX.out _).mono fun _ _ h => ⟨h.1, _, h.2⟩) | (with_reducible exact (HPY.out _).mono fun _ _ h => ⟨h.1, _, h.2⟩)))
              go_wp2
              go_roundw
              case rel => exact ⟨i + 1, by have := HI.out; omega, by go_num, HF2.out, HBM.out _⟩
              case measure => have := HI.out; simp [intOf]; omega
        · have HPX : Hid (∀ s, Calls Tryz.prog 112 #[.int .i64 x] (W4.drewN s) fun e w' => e = .returned (.bool true) ∧ w' = W4.drewN s) := fun s => (point_any x _).mono fun e w' h => ⟨by rw [h.1, decide_eq_true (by assumption)], h.2⟩
          have HPY : Hid (∀ s, Calls Tryz.prog 112 #[.int .i64 y] (W4.drewN s) fun e w' => e = .returned (.bool false) ∧ w' = W4.drewN s) := fun s => (point_any y _).mono fun e w' h => ⟨by rw [h.1, decide_eq_false (by assumption)], h.2⟩
          have HNO : Hid (¬ FR F) := by
            rintro ⟨h1, _⟩
            have := (h1 i (by have := HN.out; have := HI.out; omega)).2
            rw [← HY.out] at this; exact hy1 this
          clear hy1
          go_quiet ((go_at_call 112; first | (with_reducible exact (HPX.out _).mono fun _ _ h => ⟨h.1, _, h.2⟩) | (with_reducible exact (HPY.out _).mono fun _ _ h => ⟨h.1, _, h.2⟩)))
          clear hx1
          go_wp2
          go_ret
          exact ⟨false, rfl, ⟨(fun h => by cases h), fun h => absurd h HNO.out⟩, HBN.out _⟩
      · have HPX : Hid (∀ s, Calls Tryz.prog 112 #[.int .i64 x] (W4.drewN s) fun e w' => e = .returned (.bool false) ∧ w' = W4.drewN s) := fun s => (point_any x _).mono fun e w' h => ⟨by rw [h.1, decide_eq_false (by assumption)], h.2⟩
        have HNO : Hid (¬ FR F) := by
          rintro ⟨h1, _⟩
          have := (h1 i (by have := HN.out; have := HI.out; omega)).1
          rw [← HX.out] at this; exact hx1 this
        go_quiet ((go_at_call 112; with_reducible exact (HPX.out _).mono fun _ _ h => ⟨h.1, _, h.2⟩))
        clear hx1
        go_wp2
        go_ret
        exact ⟨false, rfl, ⟨(fun h => by cases h), fun h => absurd h HNO.out⟩, HBN.out _⟩
    · obtain rfl : i = n := by omega
      have HRI : Hid (Rise F) := rise_of (fun j hj => HF.out.2 j (by rw [HN.out]; exact hj))
      have HCF := Lib.hid (fcontains_any bt pf pp cf i m cp F pf cf i F wr (HBX.out.below HB.out) HN.out (HP.out.below HB.out) HRI.out HNL.out HN.out (HP.out.below HB.out) HNL.out)
      have HBF := Lib.hid (bl_trans HB1.out HB.out)
      go_wp2_with fail
      refine HCF.out.mono ?_
      rintro e w2 ⟨t, rfl, ht, hb2⟩
      have HT := Lib.hid ht
      have HB2 := Lib.hid (bl_trans HBF.out hb2)
      have HV : Hid ((!t) = true ↔ FR F) := by
        show _ ↔ _
        constructor
        · intro h
          have htf : t = false := by simpa using h
          refine ⟨fun j hj => HF.out.1 j (by rw [HN.out]; exact hj), HRI.out, fun f hf => ?_⟩
          cases hl : look F f.2 with
          | none => rfl
          | some v => exact absurd (ht.2 ⟨f, hf, by rw [hl]; rfl⟩) (by rw [htf]; decide)
        · rintro ⟨_, _, h3⟩
          cases t with
          | false => rfl
          | true =>
            obtain ⟨f, hf, hs⟩ := ht.1 rfl
            rw [h3 f hf] at hs; cases hs
      clear ht hb2 HCF hc0 hc1
      go_wp2
      go_ret
      exact ⟨!t, rfl, HV.out, HB2.out⟩
end Go.Proofs.YtglgfpapackcdaaGreat
