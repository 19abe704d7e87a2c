/- The walks of Right, Has, SameRanges. -/
import Derived.Test.YtglgfpapackcdaaGreatRb

namespace Go.Proofs.YtglgfpapackcdaaGreat
open Go.RowKit Tnr

theorem drop_gr {l : List R} {k : Nat} (h : k < l.length) : l.drop k = gr l k :: l.drop (k + 1) := by
  rw [gr_get h]; exact List.drop_eq_getElem_cons h

set_option maxHeartbeats 800000 in
set_option maxRecDepth 100000 in
theorem right_any (p : Option Addr) (c : Nat) (l : List R) (w : World) (hp : SlR w p l) (hl : l.length ≤ 4611686018427387904) :
    Calls Tryz.prog 116 #[.slice p l.length c] w fun e w' => e = .returned (.bool (rightB l)) ∧ Below w.heap.size w w' := by
  have HP := Lib.hid hp
  obtain ⟨n, hn⟩ : ∃ n, n = l.length := ⟨_, rfl⟩
  rw [← hn]
  have hnI : (n : Int) ≤ 4611686018427387904 := by omega
  have HN := Lib.hid hn
  clear hp hn hl
  go_enter Tryz.func116, Tryz.ntmps116
  go_wp2
  go_loopw [3, 8] (fun lv iv wr => ∃ (last : Int) (k : Nat), k ≤ n ∧ -2 ≤ last ∧ last ≤ 1114111 ∧ lv = .int .i64 last ∧ iv = .int .i64 (k : Nat) ∧ Hid (rightB l = rfB last (l.drop k)) ∧ Hid (Below w.heap.size w wr)) (fun _ iv _ => n - (intOf iv).toNat)
  case atStart => exact ⟨-2, 0, Nat.zero_le _, by omega, by omega, rfl, rfl, rfl, Below.refl _ _⟩
  case round =>
    obtain ⟨last, k, hk, hb1, hb2, rfl, rfl, HE, HB⟩ := hrel
    rename World => wr
    by_cases hkn : k < n
    · obtain ⟨b, o, rfl, hc1, hc2⟩ : ∃ b off, p = some ⟨b, off, none⟩ ∧ wr.cell? ⟨b, off + k * 2, none⟩ = some (.int .i64 (gr l k).1) ∧ wr.cell? ⟨b, off + k * 2 + 1, none⟩ = some (.int .i64 (gr l k).2) := by
        rcases HP.out.below HB.out with h | ⟨b, off, h1, h2⟩
        · have := HN.out; rw [h] at this; simp at this; omega
        · exact ⟨b, off, h1, h2 k (by have := HN.out; omega)⟩
      have hkI : (k : Int) < n := by omega
      obtain ⟨lo, hlo⟩ : ∃ x, x = (gr l k).1 := ⟨_, rfl⟩
      obtain ⟨hi, hhi⟩ : ∃ x, x = (gr l k).2 := ⟨_, rfl⟩
      rw [← hlo] at hc1
      rw [← hhi] at hc2
      have HD : Hid (rfB last (l.drop k) = (decide (last + 1 < lo) && decide (lo ≤ hi) && decide (hi ≤ 1114111) && rfB hi (l.drop (k + 1)))) := by
        show rfB last (l.drop k) = _
        rw [drop_gr (show k < l.length by have := HN.out; omega), hlo, hhi]; rfl
      clear hlo hhi
      by_cases h1 : lo ≤ last + 1
      · go_wp2
        go_ret
        exact ⟨ret_bool (by rw [HE.out, HD.out, decide_eq_false (show ¬ last + 1 < lo by omega)]; rfl), HB.out.trans (bl_alloc _ _ |>.mono HB.out.size)⟩
      · by_cases h2 : hi < lo
        · go_wp2
          go_ret
          exact ⟨ret_bool (by rw [HE.out, HD.out, decide_eq_false (show ¬ lo ≤ hi by omega)]; simp), HB.out.trans (bl_alloc _ _ |>.mono HB.out.size)⟩
        · by_cases h3 : 1114111 < hi
          · go_wp2
            go_ret
            exact ⟨ret_bool (by rw [HE.out, HD.out, decide_eq_false (show ¬ hi ≤ 1114111 by omega)]; simp), HB.out.trans (bl_alloc _ _ |>.mono HB.out.size)⟩
          · go_wp2
            go_roundw
            case rel =>
              refine ⟨hi, k + 1, by omega, by omega, by omega, rfl, by go_num, ?_, HB.out.trans (bl_alloc _ _ |>.mono HB.out.size)⟩
              show rightB l = _
              rw [HE.out, HD.out, decide_eq_true (show last + 1 < lo by omega), decide_eq_true (show lo ≤ hi by omega), decide_eq_true (show hi ≤ 1114111 by omega)]; rfl
            case measure => simp [intOf]; omega
    · have hkI : (n : Int) ≤ k := by omega
      go_wp2
      go_ret
      exact ⟨ret_bool (by rw [HE.out, List.drop_eq_nil_of_le (by have := HN.out; omega)]; rfl), HB.out⟩

theorem slr_at {w : World} {p : Option Addr} {l : List R} (h : SlR w p l) {k : Nat} (hk : k < l.length) :
    ∃ b off, p = some ⟨b, off, none⟩ ∧ w.cell? ⟨b, off + k * 2, none⟩ = some (.int .i64 (gr l k).1) ∧ w.cell? ⟨b, off + k * 2 + 1, none⟩ = some (.int .i64 (gr l k).2) := by
  rcases h with h | ⟨b, off, h1, h2⟩
  · rw [h] at hk; simp at hk
  · exact ⟨b, off, h1, h2 k hk⟩
theorem gr_mem {l : List R} {k : Nat} (h : k < l.length) : gr l k ∈ l := by rw [gr_get h]; exact List.getElem_mem h
theorem mem_gr {l : List R} {r : R} (h : r ∈ l) : ∃ k, k < l.length ∧ gr l k = r := by
  obtain ⟨k, hk, e⟩ := List.mem_iff_getElem.1 h
  exact ⟨k, hk, by rw [gr_get hk, e]⟩

theorem ext_gr {l m : List R} (hl : l.length = m.length) (h : ∀ j, j < l.length → gr l j = gr m j) : l = m := by
  apply List.ext_getElem hl
  intro i h1 h2
  have := h i h1
  rw [gr_get h1, gr_get h2] at this
  exact this
theorem range_stood : Tryz.prog.stoodInHeld 24 = false := by kernel_rfl
theorem range_guard : Tryz.prog.eqGuardType Tryz.prog.depth 24 = false := by kernel_rfl
theorem range_fields : Tryz.prog.underlying 24 = some (.struct (Tryz.prog.fieldsOf 24)) := by kernel_rfl
theorem equal_range (d : Nat) (x x' y y' : Int) (w : World) : (Op.equalIn (d + 2) 24 (.agg #[.int .i64 x, .int .i64 x']) (.agg #[.int .i64 y, .int .i64 y'])).run Tryz.prog w = .ok (x == y && x' == y') w := by
  rw [run_equalIn_agg _ _ _ _ _ range_fields range_stood]
  simp only [Program.fieldsOf, Tryz.underlying24]
  by_cases h1 : x = y <;> by_cases h2 : x' = y' <;> simp [Op.eqFields, part, run_equalIn_int, Tryz.underlying3, h1, h2]
theorem drewN_below (w : World) (n : Nat) : Below w.heap.size w (w.drewN n) := Joins.below_draws _ _ _

set_option maxHeartbeats 800000 in
set_option maxRecDepth 100000 in
theorem same_any (p q : Option Addr) (c d : Nat) (l m : List R) (w : World) (hp : SlR w p l) (hq : SlR w q m) (hl : l.length ≤ 4611686018427387904) (hm : m.length ≤ 4611686018427387904) :
    Calls Tryz.prog 21 #[.slice p l.length c, .slice q m.length d] w fun e w' => e = .returned (.bool (decide (l = m))) ∧ ∃ n, w.drewN n = w' := by
  by_cases hne : l.length = m.length
  · have HP := Lib.hid hp
    have HQ := Lib.hid hq
    obtain ⟨n, hn⟩ : ∃ n, n = m.length := ⟨_, rfl⟩
    rw [← hn, show l.length = n by rw [hn]; exact hne]
    have hnI : (n : Int) ≤ 4611686018427387904 := by omega
    have HN := Lib.hid (show l.length = n ∧ m.length = n by omega)
    clear hp hq hn hne hl hm
    go_enter Tryz.func21, Tryz.ntmps21
    go_wp2
    go_loopw [5] (fun iv wr => ∃ (k r : Nat), k ≤ n ∧ iv = .int .i64 (k : Nat) ∧ Hid (∀ j, j < k → gr l j = gr m j) ∧ wr = w.drewN r) (fun iv _ => n - (intOf iv).toNat)
    case atStart => exact ⟨0, 0, Nat.zero_le _, rfl, fun j hj => by omega, rfl⟩
    case round =>
      obtain ⟨k, r, hk, rfl, HE, rfl⟩ := hrel
      by_cases hkn : k < n
      · obtain ⟨b1, o1, rfl, hc1, hc2⟩ := slr_at HP.out (show k < l.length by have := HN.out.1; omega)
        obtain ⟨b2, o2, rfl, hc3, hc4⟩ := slr_at HQ.out (show k < m.length by have := HN.out.2; omega)
        have hkI : (k : Int) < n := by omega
        obtain ⟨x, hx⟩ : ∃ x, x = (gr l k).1 := ⟨_, rfl⟩
        obtain ⟨x', hx'⟩ : ∃ x, x = (gr l k).2 := ⟨_, rfl⟩
        obtain ⟨y, hy⟩ : ∃ y, y = (gr m k).1 := ⟨_, rfl⟩
        obtain ⟨y', hy'⟩ : ∃ y, y = (gr m k).2 := ⟨_, rfl⟩
        rw [← hx] at hc1
        rw [← hx'] at hc2
        rw [← hy] at hc3
        rw [← hy'] at hc4
        have HX := Lib.hid hx
        have HX' := Lib.hid hx'
        have HY := Lib.hid hy
        have HY' := Lib.hid hy'
        clear hx hy hx' hy'
        have hgd := range_guard
        have heq := fun W => equal_range 9998 x x' y y' W
        by_cases hxy : x = y ∧ x' = y'
        · have hb : (x == y && x' == y') = true := by simpa using hxy
          have HXY := Lib.hid hxy
          clear hxy
          rw [hb] at heq
          go_wp2
          go_quiet (fail)
          go_wp2
          go_roundw
          case rel =>
            refine ⟨k + 1, r + nq, by omega, by go_num, ?_, ?_⟩
            · intro j hj
              by_cases e : j = k
              · subst e; exact Prod.ext (by rw [← HX.out, ← HY.out]; exact HXY.out.1) (by rw [← HX'.out, ← HY'.out]; exact HXY.out.2)
              · exact HE.out j (by omega)
            · rfl
          case measure => simp [intOf]; omega
        · have hb : (x == y && x' == y') = false := by
            rw [Bool.eq_false_iff]; simpa using hxy
          have HXY := Lib.hid hxy
          clear hxy
          rw [hb] at heq
          go_wp2
          go_quiet (fail)
          go_wp2
          go_ret
          have hlm : ¬ (l = m) := fun e => HXY.out ⟨by rw [HX.out, HY.out, e], by rw [HX'.out, HY'.out, e]⟩
          exact ⟨ret_bool (by rw [decide_eq_false hlm]), r + nq, by first | rfl | simp⟩
      · have hkI : (n : Int) ≤ k := by omega
        go_wp2
        go_ret
        have hlm : l = m := ext_gr (by have := HN.out; omega) (fun j hj => HE.out j (by have := HN.out; omega))
        exact ⟨ret_bool (by rw [decide_eq_true hlm]), r, rfl⟩
  · have hb : ((l.length : Int) != (m.length : Int)) = true := by simp; omega
    have HNE := Lib.hid hne
    clear hp hq hne
    have hlI : (l.length : Int) ≤ 4611686018427387904 := by omega
    have hmI : (m.length : Int) ≤ 4611686018427387904 := by omega
    go_enter Tryz.func21, Tryz.ntmps21
    go_wp2
    go_ret
    have hlm : ¬ (l = m) := fun e => HNE.out (by rw [e])
    exact ⟨ret_bool (by rw [decide_eq_false hlm]), 0, rfl⟩
end Go.Proofs.YtglgfpapackcdaaGreat
