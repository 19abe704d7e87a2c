/- The walks of the document's Right, Many, Least, Meet, Not. -/
import Derived.Test.YtjpccmiaimkmbaaGreatRd

namespace Go.Proofs.YtjpccmiaimkmbaaGreat
open Go.RowKit Tnr

set_option maxHeartbeats 3200000 in
set_option maxRecDepth 100000 in
theorem rright_any (p : Option Addr) (c m : Nat) (l : List R) (w : World) (hm : m = l.length) (hp : SlR w p l) (hl : l.length ≤ 4611686018427387904) :
    Calls Tryz.prog 153 #[.slice p m c] w fun e w' => e = .returned (.bool (rightB l)) ∧ Below w.heap.size w w' := by
  have HP := Lib.hid hp
  have hnI : (m : Int) ≤ 4611686018427387904 := by omega
  have HN := Lib.hid hm
  clear hp hm hl
  go_enter Tryz.func153, Tryz.ntmps153
  go_wp2
  go_loopw [3] (fun iv wr => ∃ (last : Int) (k r : Nat), k ≤ m ∧ -2 ≤ last ∧ last ≤ 1114111 ∧ iv = .int .i64 (k : Nat) ∧ Hid (rightB l = rfB last (l.drop k)) ∧ Hid (k = 0 → last = -2) ∧ Hid (0 < k → 0 ≤ last ∧ last = (gr l (k - 1)).2) ∧ wr = w.drewN r) (fun iv _ => m - (intOf iv).toNat)
  case atStart => exact ⟨-2, 0, 0, Nat.zero_le _, by omega, by omega, rfl, rfl, fun _ => rfl, fun h => absurd h (Nat.lt_irrefl 0), rfl⟩
  case round =>
    obtain ⟨last, k, r, hk, hb1, hb2, rfl, HE, HZ, HK, rfl⟩ := hrel
    by_cases hkn : k < m
    · obtain ⟨b, o, rfl, hc1, hc2⟩ := slr_at HP.out (show k < l.length by have := HN.out; omega)
      have hkI : (k : Int) < m := by omega
      obtain ⟨lo, hlo⟩ : ∃ x, x = (gr l k).1 := ⟨_, rfl⟩
      obtain ⟨hi, hhi⟩ : ∃ x, x = (gr l k).2 := ⟨_, rfl⟩
      rw [← hlo] at hc1
      rw [← hhi] at hc2
      have HD : Hid (rfB last (l.drop k) = (decide (last + 1 < lo) && decide (lo ≤ hi) && decide (hi ≤ 1114111) && rfB hi (l.drop (k + 1)))) := by
        show rfB last (l.drop k) = _
        rw [drop_gr (show k < l.length by have := HN.out; omega), hlo, hhi]; rfl
      have HNX : Hid (hi = (gr l (k + 1 - 1)).2) := hhi
      clear hlo hhi
      by_cases h1 : lo < 0
      · have d1 : decide (lo < 0) = true := decide_eq_true h1
        go_wp2
        go_quiet (fail)
        go_wp2
        go_ret
        exact ⟨ret_bool (by rw [HE.out, HD.out, decide_eq_false (show ¬ last + 1 < lo by by_cases e : k = 0; (have := HZ.out e; omega); (have := (HK.out (by omega)).1; omega))]; rfl), by rw [World.drewN_drewN]; exact drewN_below _ _⟩
      · have d1 : decide (lo < 0) = false := decide_eq_false h1
        by_cases h2 : hi < lo
        · have d2 : decide (hi < lo) = true := decide_eq_true h2
          go_wp2
          go_quiet (fail)
          go_wp2
          go_ret
          exact ⟨ret_bool (by rw [HE.out, HD.out, decide_eq_false (show ¬ lo ≤ hi by omega)]; simp), by rw [World.drewN_drewN]; exact drewN_below _ _⟩
        · have d2 : decide (hi < lo) = false := decide_eq_false h2
          by_cases h3 : 1114111 < hi
          · have d3 : decide (1114111 < hi) = true := decide_eq_true h3
            go_wp2
            go_quiet (fail)
            go_wp2
            go_ret
            exact ⟨ret_bool (by rw [HE.out, HD.out, decide_eq_false (show ¬ hi ≤ 1114111 by omega)]; simp), by rw [World.drewN_drewN]; exact drewN_below _ _⟩
          · have d3 : decide (1114111 < hi) = false := decide_eq_false h3
            by_cases hk0 : k = 0
            · have HL2 := Lib.hid (HZ.out hk0)
              have HK0 := Lib.hid hk0
              have d4 : decide ((0 : Int) < (k : Int)) = false := by rw [decide_eq_false_iff_not]; omega
              have d4N : decide (0 < k) = false := by rw [decide_eq_false_iff_not]; omega
              clear hk0
              go_wp2
              go_quiet (fail)
              go_wp2
              go_roundw
              case rel => exact ⟨hi, k + 1, r + nq, by omega, by omega, by omega, by go_num, (by show rightB l = _; rw [HE.out, HD.out, decide_eq_true (show last + 1 < lo by have := HL2.out; omega), decide_eq_true (show lo ≤ hi by omega), decide_eq_true (show hi ≤ 1114111 by omega)]; rfl), (fun h => by omega), fun _ => ⟨by omega, HNX.out⟩, by first | rfl | exact World.drewN_drewN _ _ _⟩
              case measure => simp [intOf]; omega
            · obtain ⟨k1, rfl⟩ : ∃ k1, k = k1 + 1 := ⟨k - 1, by omega⟩
              obtain ⟨b', o', e', _, hc4⟩ := slr_at HP.out (show k1 < l.length by have := HN.out; omega)
              simp only [Option.some.injEq, Addr.mk.injEq, and_true] at e'
              obtain ⟨rfl, rfl⟩ := e'
              have hlast := (HK.out (by omega)).2
              rw [show k1 + 1 - 1 = k1 from rfl] at hlast
              rw [← hlast] at hc4
              have hkp : (0 : Int) < (k1 : Int) + 1 := by omega
              have d4 : decide ((0 : Int) < (k1 : Int) + 1) = true := decide_eq_true hkp
              have hw1 : IntKind.i64.wrap ((k1 : Int) + 1 - 1) = (k1 : Int) := by rw [IntKind.wrap_i64]; omega
              have hw2 : IntKind.i64.wrap (last + 1) = last + 1 := by rw [IntKind.wrap_i64]; omega
              clear hlast hk0
              by_cases h4 : lo ≤ last + 1
              · have d5 : decide (lo ≤ last + 1) = true := decide_eq_true h4
                go_wp2
                go_quiet (fail)
                go_wp2
                go_ret
                exact ⟨ret_bool (by rw [HE.out, HD.out, decide_eq_false (show ¬ last + 1 < lo by omega)]; rfl), by rw [World.drewN_drewN]; exact drewN_below _ _⟩
              · have d5 : decide (lo ≤ last + 1) = false := decide_eq_false h4
                go_wp2
                go_quiet (fail)
                go_wp2
                go_roundw
                case rel => exact ⟨hi, k1 + 1 + 1, r + nq, by omega, by omega, by omega, by go_num, (by show rightB l = _; rw [HE.out, HD.out, decide_eq_true (show last + 1 < lo by omega), decide_eq_true (show lo ≤ hi by omega), decide_eq_true (show hi ≤ 1114111 by omega)]; rfl), (fun h => by omega), fun _ => ⟨by omega, HNX.out⟩, by first | rfl | exact World.drewN_drewN _ _ _⟩
                case measure => simp [intOf]; omega
    · have hkI : (m : Int) ≤ k := by omega
      go_wp2
      go_ret
      exact ⟨ret_bool (by rw [HE.out, List.drop_eq_nil_of_le (by have := HN.out; omega)]; rfl), drewN_below _ _⟩

end Go.Proofs.YtjpccmiaimkmbaaGreat
