/- A scan that is none tells nothing: the walk of the law. -/
import Derived.Test.YtkpkhjflelmdjaaYu
import Derived.Deep.RegionHeld3
namespace Go.Proofs.Ytkpkhjflelmdjaa
open Go.RowKit Tnd

theorem nilS_below {a c : Nat} {w W W' : World} {v0 v1 v2 : Value} {o : Nat} (h : W.cell? ⟨a, 0, none⟩ = some v0 ∧ W.cell? ⟨a, 1, none⟩ = some v1 ∧ W.cell? ⟨c, o, none⟩ = some v2 ∧ Hid (Below w.heap.size w W)) (hb : Below W.heap.size W W') :
    W'.cell? ⟨a, 0, none⟩ = some v0 ∧ W'.cell? ⟨a, 1, none⟩ = some v1 ∧ W'.cell? ⟨c, o, none⟩ = some v2 ∧ Hid (Below w.heap.size w W') :=
  ⟨by rw [hb.cell (World.block_lt_of_cell? W _ h.1)]; exact h.1, by rw [hb.cell (World.block_lt_of_cell? W _ h.2.1)]; exact h.2.1, by rw [hb.cell (World.block_lt_of_cell? W _ h.2.2.1)]; exact h.2.2.1, bl_trans h.2.2.2.out hb⟩
/-- what the law has at work. -/
def NilS (w W : World) (y : Int) (t : ByteArray) : Prop :=
  W.cell? ⟨w.heap.size, 0, none⟩ = some (.int .i64 y) ∧ W.cell? ⟨w.heap.size, 1, none⟩ = some (.string t) ∧ W.cell? ⟨w.heap.size + 1 + 1, 0, none⟩ = some (.pointer none) ∧ W.cell? ⟨w.heap.size + 1 + 1, 1, none⟩ = some (.pointer (some ⟨w.heap.size + 1, 0, none⟩)) ∧ W.cell? ⟨w.heap.size + 1, 2, none⟩ = some (.pointer none) ∧ Below w.heap.size w W
theorem heap3_0 (w : World) (x y z : Obj) : (((w.alloc x).alloc y).alloc z).heap[w.heap.size]? = some x := by
  rw [heap_alloc_old _ _ (by simp; omega), heap_alloc_old _ _ (by simp)]; exact heap_alloc_new w x
theorem heap3_1 (w : World) (x y z : Obj) : (((w.alloc x).alloc y).alloc z).heap[w.heap.size + 1]? = some y := by
  rw [heap_alloc_old _ _ (by simp)]
  have := heap_alloc_new (w.alloc x) y
  simpa using this
theorem heap3_2 (w : World) (x y z : Obj) : (((w.alloc x).alloc y).alloc z).heap[w.heap.size + 1 + 1]? = some z := by
  have := heap_alloc_new ((w.alloc x).alloc y) z
  simpa using this
theorem at_cell {w : World} {b : Nat} {cs : Array Value} {t : TypeId} {fr : Nat × Nat} (h : w.heap[b]? = some (.cells cs t fr)) (i : Nat) {v : Value} (hv : cs[i]? = some v) : w.cell? ⟨b, i, none⟩ = some v := by
  simp [World.cell?, h, hv]
theorem keep_below {W W' : World} (hb : Below W.heap.size W W') {a : Addr} {v : Value} (h : W.cell? a = some v) : W'.cell? a = some v := by
  rw [hb.cell (World.block_lt_of_cell? W _ h)]; exact h
theorem NilS.below {w W W' : World} {y : Int} {t : ByteArray} (h : NilS w W y t) (hb : Below W.heap.size W W') : NilS w W' y t := by
  obtain ⟨h0, h1, h2, h3, h4, h5⟩ := h
  exact ⟨keep_below hb h0, keep_below hb h1, keep_below hb h2, keep_below hb h3, keep_below hb h4, h5.trans (hb.mono h5.size)⟩

set_option maxHeartbeats 3200000 in
theorem nil_true (y : Int) (t : ByteArray) (w : World) (ht : t.size ≤ 9223372036854775807) :
    Calls Try.prog 4 #[.agg #[.int .i64 y, .string t]] w fun e w' => e = .returned (.bool true) ∧ Below w.heap.size w w' := by
  have htI : (t.size : Int) ≤ 9223372036854775807 := by omega
  by_cases hl : 300 < t.size
  · have hlI : (300 : Int) < t.size := by omega
    clear hl ht
    go_enter Try.func4, Try.ntmps4
    go_wp2_with fail
    refine (awake_true _).mono ?_
    rintro e w1 ⟨rfl, hb⟩
    go_wp2
    go_ret
    exact ⟨rfl, bl_trans (bl_alloc w _) hb⟩
  · have hlI : (t.size : Int) ≤ 300 := by omega
    have HNEQ : ∀ W : World, (binOp .neq 37 (.agg told0) (.agg told0)).run Try.prog W = .ok (.bool false) W := fun W => told_neq _ _ _ _ _ _ W
    unfold told0 tvl at HNEQ
    clear hl ht
    go_enter Try.func4, Try.ntmps4
    go_wp2
    go_loopw [4] (fun iv wr => ∃ i : Nat, i ≤ 2 ∧ iv = .int .i64 (i : Nat) ∧ Hid (NilS w wr y t)) (fun iv _ => 2 - (intOf iv).toNat)
    case atStart =>
      refine ⟨0, by omega, rfl, ?_⟩
      have h0 := heap3_0 w (.cells #[.int .i64 y, .string t] 33) (.cells #[.slice none 0 0, .int .i64 0, .pointer none] 48) (.cells #[.pointer none, .pointer (some ⟨w.heap.size + 1, 0, none⟩)] 26)
      have h1 := heap3_1 w (.cells #[.int .i64 y, .string t] 33) (.cells #[.slice none 0 0, .int .i64 0, .pointer none] 48) (.cells #[.pointer none, .pointer (some ⟨w.heap.size + 1, 0, none⟩)] 26)
      have h2 := heap3_2 w (.cells #[.int .i64 y, .string t] 33) (.cells #[.slice none 0 0, .int .i64 0, .pointer none] 48) (.cells #[.pointer none, .pointer (some ⟨w.heap.size + 1, 0, none⟩)] 26)
      exact ⟨two_cell0 h0, two_cell1 h0, two_cell0 h2, two_cell1 h2, at_cell h1 2 (by rfl), bl_three w _ _ _⟩
    case round =>
      obtain ⟨i, hi, rfl, HS⟩ := hrel
      rename World => wr
      have hcase : i = 2 ∨ i = 0 ∨ i = 1 := by omega
      rcases hcase with rfl | rfl | rfl
      · go_wp2_with fail
        refine (awake_true _).mono ?_
        rintro e w1 ⟨rfl, hb⟩
        go_wp2
        go_ret
        exact ⟨rfl, (HS.out.below hb).2.2.2.2.2⟩
      · have HOF : Hid (∀ W, Below wr.heap.size wr W → Calls Try.prog 16 #[.pointer none, .agg #[.int .i64 y, .string t]] W (OP W)) := fun W hW => off_any _ y t W (off_nil W)
        have HCO : Hid (∀ W, Below wr.heap.size wr W → Calls Try.prog 15 #[.pointer none] W fun e w' => e = .returned (.pointer none) ∧ w' = W) := fun W hW => Copy_off _ W (made_nil W)
        have c0 := HS.out.1
        have c1 := HS.out.2.1
        have c2 := HS.out.2.2.1
        unfold OP told0 tvl at HOF
        have hS0 : wr.cell? ⟨w.heap.size, 0, none⟩ = some (.int .i64 y) ∧ wr.cell? ⟨w.heap.size, 1, none⟩ = some (.string t) ∧ wr.cell? ⟨w.heap.size + 1 + 1, 0, none⟩ = some (.pointer none) ∧ Hid (Below wr.heap.size wr wr) := ⟨c0, c1, c2, Below.refl _ _⟩
        clear c0 c1 c2
        go_wp2
        go_region_held3 (fun W => W.cell? ⟨w.heap.size, 0, none⟩ = some (.int .i64 y) ∧ W.cell? ⟨w.heap.size, 1, none⟩ = some (.string t) ∧ W.cell? ⟨w.heap.size + 1 + 1, 0, none⟩ = some (.pointer none) ∧ Hid (Below wr.heap.size wr W)) (first | exact nilS_below hS0 (bl_drew _) | assumption | exact nilS_below (nilS_below hS0 (bl_drew _)) hb) (first | (go_at_call 16; (with_reducible refine (HOF.out _ (Hid.out (by exact (nilS_below hS0 (bl_drew _)).2.2.2))).mono ?_); rintro e w1 ⟨rfl, hb⟩) | (go_at_call 15; (with_reducible refine (HCO.out _ (Hid.out (by exact (nilS_below (nilS_below hS0 (bl_drew _)) hb).2.2.2))).mono ?_); rintro e w2 ⟨rfl, rfl⟩))
        have HBW : Hid (Below wr.heap.size wr w2) := bl_trans (bl_drew wr) hb
        clear hS0 hb
        rename_i hHeld
        clear hHeld
        go_wp2
        go_roundw
        case rel => exact ⟨0 + 1, by omega, by rfl, HS.out.below HBW.out⟩
        case measure => simp [intOf]
      · have HOF : Hid (∀ W, Below wr.heap.size wr W → Calls Try.prog 16 #[.pointer (some ⟨w.heap.size + 1, 0, none⟩), .agg #[.int .i64 y, .string t]] W (OP W)) := fun W hW => off_any _ y t W (off_bare (keep_below hW HS.out.2.2.2.2.1))
        have HCO : Hid (∀ W, Below wr.heap.size wr W → Calls Try.prog 15 #[.pointer (some ⟨w.heap.size + 1, 0, none⟩)] W fun e w' => e = .returned (.pointer none) ∧ w' = W) := fun W hW => Copy_off _ W (made_no _ W (keep_below hW HS.out.2.2.2.2.1))
        have c0 := HS.out.1
        have c1 := HS.out.2.1
        have c2 := HS.out.2.2.2.1
        unfold OP told0 tvl at HOF
        have hS0 : wr.cell? ⟨w.heap.size, 0, none⟩ = some (.int .i64 y) ∧ wr.cell? ⟨w.heap.size, 1, none⟩ = some (.string t) ∧ wr.cell? ⟨w.heap.size + 1 + 1, 1, none⟩ = some (.pointer (some ⟨w.heap.size + 1, 0, none⟩)) ∧ Hid (Below wr.heap.size wr wr) := ⟨c0, c1, c2, Below.refl _ _⟩
        clear c0 c1 c2
        go_wp2
        go_region_held3 (fun W => W.cell? ⟨w.heap.size, 0, none⟩ = some (.int .i64 y) ∧ W.cell? ⟨w.heap.size, 1, none⟩ = some (.string t) ∧ W.cell? ⟨w.heap.size + 1 + 1, 1, none⟩ = some (.pointer (some ⟨w.heap.size + 1, 0, none⟩)) ∧ Hid (Below wr.heap.size wr W)) (first | exact nilS_below hS0 (bl_drew _) | assumption | exact nilS_below (nilS_below hS0 (bl_drew _)) hb) (first | (go_at_call 16; (with_reducible refine (HOF.out _ (Hid.out (by exact (nilS_below hS0 (bl_drew _)).2.2.2))).mono ?_); rintro e w1 ⟨rfl, hb⟩) | (go_at_call 15; (with_reducible refine (HCO.out _ (Hid.out (by exact (nilS_below (nilS_below hS0 (bl_drew _)) hb).2.2.2))).mono ?_); rintro e w2 ⟨rfl, rfl⟩))
        have HBW : Hid (Below wr.heap.size wr w2) := bl_trans (bl_drew wr) hb
        clear hS0 hb
        rename_i hHeld
        clear hHeld
        go_wp2
        go_roundw
        case rel => exact ⟨1 + 1, by omega, by rfl, HS.out.below HBW.out⟩
        case measure => simp [intOf]
end Go.Proofs.Ytkpkhjflelmdjaa
