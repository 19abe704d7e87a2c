/- The walks of the document's Right, Many, Least, Meet, Not. -/
import Derived.Test.YtobdkkcihjpebaaGreatRzb
namespace Go.Proofs.YtobdkkcihjpebaaGreat
open Go.RowKit Tnr

theorem rt_mem : ∀ {l : List R} {a : Int}, RF a l → -2 ≤ a → ∀ r ∈ l, 0 ≤ r.1 ∧ r.1 ≤ r.2 ∧ r.2 ≤ 1114111
  | [], _, _, _, r, hr => by simp at hr
  | x :: l, a, h, ha, r, hr => by
    obtain ⟨h1, h2, h3, h4⟩ := h
    rcases List.mem_cons.1 hr with e | e
    · subst e; exact ⟨by omega, h2, h3⟩
    · exact rt_mem h4 (by omega) r e

set_option maxHeartbeats 3200000 in
set_option maxRecDepth 100000 in
theorem rright_any (p : Option Addr) (c m : Nat) (l : List R) (w : World) (hm : m = l.length) (hp : SlR w p l) (hl : l.length ≤ 4611686018427387904) :
    Calls Tryz.prog 18 #[.slice p m c] w fun e w' => e = .returned (.bool (rightB l)) ∧ Below w.heap.size w w' := by
  have HP := Lib.hid hp
  have hnI : (m : Int) ≤ 4611686018427387904 := by omega
  have HN := Lib.hid hm
  clear hp hm hl
  go_enter Tryz.func18, Tryz.ntmps18
  go_wp2
  go_loopw [3] (fun iv wr => ∃ (last : Int) (k r : Nat), k ≤ m ∧ -2 ≤ last ∧ last ≤ 1114111 ∧ iv = .int .i64 (k : Nat) ∧ Hid (rightB l = rfB last (l.drop k)) ∧ Hid (k = 0 → last = -2) ∧ Hid (0 < k → 0 ≤ last ∧ last = (gr l (k - 1)).2) ∧ wr = w.drewN r) (fun iv _ => m - (intOf iv).toNat)
  case atStart => exact ⟨-2, 0, 0, Nat.zero_le _, by omega, by omega, rfl, rfl, fun _ => rfl, fun h => absurd h (Nat.lt_irrefl 0), rfl⟩
  case round =>
    obtain ⟨last, k, r, hk, hb1, hb2, rfl, HE, HZ, HK, rfl⟩ := hrel
    by_cases hkn : k < m
    · obtain ⟨b, o, rfl, hc1, hc2⟩ := slr_at HP.out (show k < l.length by have := HN.out; omega)
      have hkI : (k : Int) < m := by omega
      obtain ⟨lo, hlo⟩ : ∃ x, x = (gr l k).1 := ⟨_, rfl⟩
      obtain ⟨hi, hhi⟩ : ∃ x, x = (gr l k).2 := ⟨_, rfl⟩
      rw [← hlo] at hc1
      rw [← hhi] at hc2
      have HD : Hid (rfB last (l.drop k) = (decide (last + 1 < lo) && decide (lo ≤ hi) && decide (hi ≤ 1114111) && rfB hi (l.drop (k + 1)))) := by
        show rfB last (l.drop k) = _
        rw [drop_gr (show k < l.length by have := HN.out; omega), hlo, hhi]; rfl
      have HNX : Hid (hi = (gr l (k + 1 - 1)).2) := hhi
      clear hlo hhi
      by_cases h1 : lo < 0
      · have d1 : decide (lo < 0) = true := decide_eq_true h1
        go_wp2
        go_quiet (fail)
        go_wp2
        go_ret
        exact ⟨ret_bool (by rw [HE.out, HD.out, decide_eq_false (show ¬ last + 1 < lo by by_cases e : k = 0; (have := HZ.out e; omega); (have := (HK.out (by omega)).1; omega))]; rfl), by rw [World.drewN_drewN]; exact drewN_below _ _⟩
      · have d1 : decide (lo < 0) = false := decide_eq_false h1
        by_cases h2 : hi < lo
        · have d2 : decide (hi < lo) = true := decide_eq_true h2
          go_wp2
          go_quiet (fail)
          go_wp2
          go_ret
          exact ⟨ret_bool (by rw [HE.out, HD.out, decide_eq_false (show ¬ lo ≤ hi by omega)]; simp), by rw [World.drewN_drewN]; exact drewN_below _ _⟩
        · have d2 : decide (hi < lo) = false := decide_eq_false h2
          by_cases h3 : 1114111 < hi
          · have d3 : decide (1114111 < hi) = true := decide_eq_true h3
            go_wp2
            go_quiet (fail)
            go_wp2
            go_ret
            exact ⟨ret_bool (by rw [HE.out, HD.out, decide_eq_false (show ¬ hi ≤ 1114111 by omega)]; simp), by rw [World.drewN_drewN]; exact drewN_below _ _⟩
          · have d3 : decide (1114111 < hi) = false := decide_eq_false h3
            by_cases hk0 : k = 0
            · have HL2 := Lib.hid (HZ.out hk0)
              have HK0 := Lib.hid hk0
              have d4 : decide ((0 : Int) < (k : Int)) = false := by rw [decide_eq_false_iff_not]; omega
              have d4N : decide (0 < k) = false := by rw [decide_eq_false_iff_not]; omega
              clear hk0
              go_wp2
              go_quiet (fail)
              go_wp2
              go_roundw
              case rel => exact ⟨hi, k + 1, r + nq, by omega, by omega, by omega, by go_num, (by show rightB l = _; rw [HE.out, HD.out, decide_eq_true (show last + 1 < lo by have := HL2.out; omega), decide_eq_true (show lo ≤ hi by omega), decide_eq_true (show hi ≤ 1114111 by omega)]; rfl), (fun h => by omega), fun _ => ⟨by omega, HNX.out⟩, by first | rfl | exact World.drewN_drewN _ _ _⟩
              case measure => simp [intOf]; omega
            · obtain ⟨k1, rfl⟩ : ∃ k1, k = k1 + 1 := ⟨k - 1, by omega⟩
              obtain ⟨b', o', e', _, hc4⟩ := slr_at HP.out (show k1 < l.length by have := HN.out; omega)
              simp only [Option.some.injEq, Addr.mk.injEq, and_true] at e'
              obtain ⟨rfl, rfl⟩ := e'
              have hlast := (HK.out (by omega)).2
              rw [show k1 + 1 - 1 = k1 from rfl] at hlast
              rw [← hlast] at hc4
              have hkp : (0 : Int) < (k1 : Int) + 1 := by omega
              have d4 : decide ((0 : Int) < (k1 : Int) + 1) = true := decide_eq_true hkp
              have hw1 : IntKind.i64.wrap ((k1 : Int) + 1 - 1) = (k1 : Int) := by rw [IntKind.wrap_i64]; omega
              have hw2 : IntKind.i64.wrap (last + 1) = last + 1 := by rw [IntKind.wrap_i64]; omega
              clear hlast hk0
              by_cases h4 : lo ≤ last + 1
              · have d5 : decide (lo ≤ last + 1) = true := decide_eq_true h4
                go_wp2
                go_quiet (fail)
                go_wp2
                go_ret
                exact ⟨ret_bool (by rw [HE.out, HD.out, decide_eq_false (show ¬ last + 1 < lo by omega)]; rfl), by rw [World.drewN_drewN]; exact drewN_below _ _⟩
              · have d5 : decide (lo ≤ last + 1) = false := decide_eq_false h4
                go_wp2
                go_quiet (fail)
                go_wp2
                go_roundw
                case rel => exact ⟨hi, k1 + 1 + 1, r + nq, by omega, by omega, by omega, by go_num, (by show rightB l = _; rw [HE.out, HD.out, decide_eq_true (show last + 1 < lo by omega), decide_eq_true (show lo ≤ hi by omega), decide_eq_true (show hi ≤ 1114111 by omega)]; rfl), (fun h => by omega), fun _ => ⟨by omega, HNX.out⟩, by first | rfl | exact World.drewN_drewN _ _ _⟩
                case measure => simp [intOf]; omega
    · have hkI : (m : Int) ≤ k := by omega
      go_wp2
      go_ret
      exact ⟨ret_bool (by rw [HE.out, List.drop_eq_nil_of_le (by have := HN.out; omega)]; rfl), drewN_below _ _⟩

set_option maxHeartbeats 1600000 in
set_option maxRecDepth 100000 in
theorem rnot_any (p : Option Addr) (c m : Nat) (l r : List R) (w : World) (hr : r = ng l) (hm : m = l.length) (hp : SlR w p l) (hl : l.length ≤ 10000) :
    Calls Tryz.prog 16 #[.slice p m c] w (WherePost r w) := by
  subst hm
  have HW := Lib.hid (where_any (some ⟨w.heap.size, 0, none⟩) 1 1 [(p, c, l)] 0 0 (w.alloc (.cells #[.slice p l.length c] 22)) r rfl (sls_new (fun x hx => by simp only [List.mem_singleton] at hx; subst hx; exact hp) rfl) (by rw [flat_one]; exact hl) (by omega) (by omega) (by omega) (by rw [hr]; exact ng_right _) (fun d h0 h1 => by
    rw [hr, ng_has]
    show _ ↔ 0 ≤ many [l] d ∧ many [l] d ≤ 0
    rw [many_cons, many_nil]
    by_cases hh : Has l d <;> simp [hh, h0, h1]))
  clear hr hp hl
  obtain ⟨m, hm⟩ : ∃ m, m = l.length := ⟨_, rfl⟩
  rw [← hm] at HW ⊢
  clear hm
  go_enter Tryz.func16, Tryz.ntmps16
  go_wp2_with (go_at_call 49; refine HW.out.mono ?_; rintro e w5 ⟨q5, d5, rfl, ho5, hb5⟩; have HO5 := Lib.hid ho5; have HB5 := Lib.hid hb5; clear ho5 hb5)
  go_ret
  exact where_back (bl_alloc _ _) ⟨q5, d5, rfl, HO5.out, HB5.out⟩

set_option maxHeartbeats 1600000 in
set_option maxRecDepth 100000 in
theorem rmeet_any (p q : Option Addr) (c e m n : Nat) (a b r : List R) (w : World) (hr : r = mt a b) (hm : m = a.length) (hn : n = b.length) (hp : SlR w p a) (hq : SlR w q b) (hl : a.length + b.length ≤ 10000) :
    Calls Tryz.prog 15 #[.slice p m c, .slice q n e] w (WherePost r w) := by
  have HW := Lib.hid (where_any (some ⟨w.heap.size, 0, none⟩) 2 2 [(p, c, a), (q, e, b)] 2 2 (w.alloc (.cells #[.slice p m c, .slice q n e] 22)) r rfl (sls_new (fun x hx => by simp only [List.mem_cons, List.not_mem_nil, or_false] at hx; rcases hx with rfl | rfl; exact hp; exact hq) (by subst hm; subst hn; rfl)) (by simp [flat]; omega) (by omega) (by omega) (by omega) (by rw [hr]; exact mt_right _ _) (fun d h0 h1 => by
    rw [hr, mt_has]
    show _ ↔ 2 ≤ many [a, b] d ∧ many [a, b] d ≤ 2
    rw [many_cons, many_cons, many_nil]
    by_cases h2 : Has a d <;> by_cases h3 : Has b d <;> simp [h2, h3]))
  clear hr hp hl hm hn hq
  go_enter Tryz.func15, Tryz.ntmps15
  go_wp2_with (go_at_call 49; refine HW.out.mono ?_; rintro e w5 ⟨q5, d5, rfl, ho5, hb5⟩; have HO5 := Lib.hid ho5; have HB5 := Lib.hid hb5; clear ho5 hb5)
  go_ret
  exact where_back (bl_alloc _ _) ⟨q5, d5, rfl, HO5.out, HB5.out⟩

set_option maxHeartbeats 1600000 in
set_option maxRecDepth 100000 in
theorem rleast_any (p : Option Addr) (c m : Nat) (l : List R) (w : World) (hm : m = l.length) (hp : SlR w p l) (hl : l.length ≤ 10000) :
    Calls Tryz.prog 13 #[.slice p m c] w fun e w' => e = .returned (.tuple #[.int .i64 (lst l).1, .bool (lst l).2]) ∧ Below w.heap.size w w' := by
  have HJ := Lib.hid (rjoin_one p c m l (cn l) w rfl hm hp hl)
  have hcl := cn_length l
  have hls : lst l = match cn l with | [] => (0, false) | r :: _ => (r.1, true) := rfl
  generalize cn l = d at *
  generalize lst l = s at *
  subst hls
  clear hm hp
  go_enter Tryz.func13, Tryz.ntmps13
  cases d with
  | nil =>
    go_wp2_with (go_at_call 26; refine HJ.out.mono ?_; rintro e w5 ⟨q5, d5, rfl, ho5, hb5⟩; have HB5 := Lib.hid hb5; clear ho5 hb5)
    refine bodyPost_ret (v := .tuple #[.int .i64 0, .bool false]) (by simp [results, Tryz.results13, go_sem]) rfl ?_
    exact ⟨rfl, HB5.out⟩
  | cons x d =>
    obtain ⟨n, hn⟩ : ∃ n, n = d.length := ⟨_, rfl⟩
    have hnI : (n : Int) ≤ 10000 := by rw [List.length_cons] at hcl; omega
    have HJ2 : Hid (Calls Tryz.prog 26 #[.slice (some ⟨w.heap.size, 0, none⟩) 1 1] (w.alloc (.cells #[.slice p m c] 22)) fun e w' => ∃ b o c5, e = .returned (.slice (some ⟨b, o, none⟩) (n + 1) c5) ∧ w'.cell? ⟨b, o, none⟩ = some (.int .i64 x.1) ∧ Below w.heap.size w w') := by
      refine HJ.out.mono ?_
      rintro e w5 ⟨q5, d5, rfl, ho5, hb5⟩
      obtain ⟨b, o, rfl, h1, _⟩ := slr_at (tells_sl ho5) (show 0 < (x :: d).length by simp)
      refine ⟨b, o, d5, by rw [List.length_cons, hn], ?_, hb5⟩
      simpa [gr] using h1
    obtain ⟨x1, hx1⟩ : ∃ y, y = x.1 := ⟨_, rfl⟩
    rw [← hx1] at HJ2 ⊢
    clear HJ hcl hn hx1
    go_wp2_with (go_at_call 26; refine HJ2.out.mono ?_; rintro e w5 ⟨b, o, c5, rfl, hc5, hb5⟩; have HB5 := Lib.hid hb5; clear hb5)
    refine bodyPost_ret (v := .tuple #[.int .i64 x1, .bool true]) (by simp [results, Tryz.results13, go_sem]) rfl ?_
    exact ⟨rfl, HB5.out⟩

set_option maxHeartbeats 1600000 in
set_option maxRecDepth 100000 in
theorem rmany_any (p : Option Addr) (c m : Nat) (l : List R) (w : World) (hm : m = l.length) (hp : SlR w p l) (hl : l.length ≤ 10000) :
    Calls Tryz.prog 22 #[.slice p m c] w fun e w' => e = .returned (.int .i64 (mny l)) ∧ Below w.heap.size w w' := by
  have HJ := Lib.hid (rjoin_one p c m l (cn l) w rfl hm hp hl)
  have HCL := Lib.hid (Nat.le_trans (cn_length l) hl)
  have HMEM := Lib.hid (rt_mem (cn_right l) (by omega))
  have HS : Hid (mny l = sum (cn l)) := rfl
  generalize mny l = y at *
  generalize cn l = d at *
  obtain ⟨n, hn⟩ : ∃ n, n = d.length := ⟨_, rfl⟩
  have hnI : (n : Int) ≤ 10000 := by have := HCL.out; omega
  have HJ2 : Hid (Calls Tryz.prog 26 #[.slice (some ⟨w.heap.size, 0, none⟩) 1 1] (w.alloc (.cells #[.slice p m c] 22)) fun e w' => ∃ q5 c5, e = .returned (.slice q5 n c5) ∧ SlR w' q5 d ∧ Below w.heap.size w w') := by
    refine HJ.out.mono ?_
    rintro e w5 ⟨q5, d5, rfl, ho5, hb5⟩
    exact ⟨q5, d5, by rw [hn], tells_sl ho5, hb5⟩
  have HN := Lib.hid hn
  clear hn hm hp hl HJ
  go_enter Tryz.func22, Tryz.ntmps22
  go_wp2_with (go_at_call 26; refine HJ2.out.mono ?_; rintro e w5 ⟨q5, c5, rfl, hs5, hb5⟩; have HS5 := Lib.hid hs5; have HB5 := Lib.hid hb5; clear hs5 hb5)
  go_loopw [3, 5] (fun nv iv wr => ∃ (k : Nat) (s : Int), k ≤ n ∧ nv = .int .i64 s ∧ iv = .int .i64 (k : Nat) ∧ 0 ≤ s ∧ s ≤ (k : Int) * 1114112 ∧ Hid (s = sum (d.take k)) ∧ ∃ r, wr = w5.drewN r) (fun _ iv _ => n - (intOf iv).toNat)
  case atStart => exact ⟨0, 0, Nat.zero_le _, rfl, rfl, by omega, by omega, rfl, 0, rfl⟩
  case round =>
    obtain ⟨k, s, hk, rfl, rfl, hs0, hs1, HE, r, rfl⟩ := hrel
    by_cases hkn : k < n
    · have hkd : k < d.length := by have := HN.out; omega
      obtain ⟨b, o, rfl, hc1, hc2⟩ := slr_at HS5.out hkd
      have hkI : (k : Int) < n := by omega
      obtain ⟨h1, h2, h3⟩ := HMEM.out (gr d k) (gr_mem hkd)
      have HT : Hid (sum (d.take (k + 1)) = sum (d.take k) + ((gr d k).2 - (gr d k).1 + 1)) := by
        show _ = _
        rw [take_gr hkd, sum_snoc]
      generalize (gr d k).1 = lo at *
      generalize (gr d k).2 = hi at *
      have hw : (k : Int) ≤ 10000 := by omega
      have w1 : IntKind.i64.wrap (s + hi) = s + hi := by rw [IntKind.wrap_i64]; omega
      have w2 : IntKind.i64.wrap (s + hi - lo) = s + hi - lo := by rw [IntKind.wrap_i64]; omega
      have w3 : IntKind.i64.wrap (s + hi - lo + 1) = s + hi - lo + 1 := by rw [IntKind.wrap_i64]; omega
      clear hkd
      go_wp2
      go_quiet (fail)
      go_wp2
      go_roundw
      case rel => exact ⟨k + 1, s + hi - lo + 1, by omega, rfl, by go_num, by omega, by omega, (by show _ = _; rw [HT.out, HE.out]; omega), r + nq, by first | rfl | exact World.drewN_drewN _ _ _⟩
      case measure => simp [intOf]; omega
    · have hkI : (n : Int) ≤ k := by omega
      go_wp2
      go_ret
      have e1 : s = y := by rw [HS.out, HE.out, List.take_of_length_le (by have := HN.out; omega)]
      subst e1
      exact ⟨rfl, bl_trans HB5.out (drewN_below _ _)⟩
end Go.Proofs.YtobdkkcihjpebaaGreat
