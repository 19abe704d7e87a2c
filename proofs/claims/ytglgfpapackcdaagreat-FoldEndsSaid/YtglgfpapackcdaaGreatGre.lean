/- The walk of the document's Right of tables. -/
import Derived.Test.YtglgfpapackcdaaGreatGo
import Derived.Test.YtglgfpapackcdaaGreatGc
import Derived.Test.YtglgfpapackcdaaGreatRzc

namespace Go.Proofs.YtglgfpapackcdaaGreat
open Go.RowKit Tnr

theorem look_self {F : List R} {i : Nat} (h : i < F.length) (hl : look F (gr F i).1 = none) : False := by
  unfold look at hl
  rw [Option.map_eq_none_iff, List.find?_eq_none] at hl
  have := hl (gr F i) (gr_mem h)
  simp at this
theorem s3_below {w1 W W' : World} {a b c : Addr} {v0 v1 v2 : Value} (h : W.cell? a = some v0 ∧ W.cell? b = some v1 ∧ W.cell? c = some v2 ∧ Hid (Below w1.heap.size w1 W)) (hb : Below W.heap.size W W') : W'.cell? a = some v0 ∧ W'.cell? b = some v1 ∧ W'.cell? c = some v2 ∧ Hid (Below w1.heap.size w1 W') :=
  ⟨keep_cell hb h.1, keep_cell hb h.2.1, keep_cell hb h.2.2.1, bl_trans h.2.2.2.out hb⟩
def geB (a b : ByteArray) : Bool := !Op.bytesLess a.toList b.toList
theorem ge_le (a b : ByteArray) : geB a b = leB b a := by
  have h := leB_iff b a
  unfold geB
  rw [bytesLess_eq, toList_data, toList_data]
  by_cases g : a.data.toList < b.data.toList
  · rw [h.2 g, decide_eq_true g]; rfl
  · cases e : leB b a with
    | false => exact absurd (h.1 e) g
    | true => rw [decide_eq_false g]; rfl
set_option maxHeartbeats 3200000 in
set_option maxRecDepth 100000 in
theorem rright_q (p : Option Addr) (c m : Nat) (l : List R) (w : World) (hm : m = l.length) (hp : SlR w p l) (hl : l.length ≤ 4611686018427387904) :
    Calls Tryz.prog 55 #[.slice p m c] w fun e w' => e = .returned (.bool (rightB l)) ∧ ∃ s, w' = w.drewN s := by
  have HP := Lib.hid hp
  have hnI : (m : Int) ≤ 4611686018427387904 := by omega
  have HN := Lib.hid hm
  clear hp hm hl
  go_enter Tryz.func55, Tryz.ntmps55
  go_wp2
  go_loopw [3] (fun iv wr => ∃ (last : Int) (k r : Nat), k ≤ m ∧ -2 ≤ last ∧ last ≤ 1114111 ∧ iv = .int .i64 (k : Nat) ∧ Hid (rightB l = rfB last (l.drop k)) ∧ Hid (k = 0 → last = -2) ∧ Hid (0 < k → 0 ≤ last ∧ last = (gr l (k - 1)).2) ∧ wr = w.drewN r) (fun iv _ => m - (intOf iv).toNat)
  case atStart => exact ⟨-2, 0, 0, Nat.zero_le _, by omega, by omega, rfl, rfl, fun _ => rfl, fun h => absurd h (Nat.lt_irrefl 0), rfl⟩
  case round =>
    obtain ⟨last, k, r, hk, hb1, hb2, rfl, HE, HZ, HK, rfl⟩ := hrel
    by_cases hkn : k < m
    · obtain ⟨b, o, rfl, hc1, hc2⟩ := slr_at HP.out (show k < l.length by have := HN.out; omega)
      have hkI : (k : Int) < m := by omega
      obtain ⟨lo, hlo⟩ : ∃ x, x = (gr l k).1 := ⟨_, rfl⟩
      obtain ⟨hi, hhi⟩ : ∃ x, x = (gr l k).2 := ⟨_, rfl⟩
      rw [← hlo] at hc1
      rw [← hhi] at hc2
      have HD : Hid (rfB last (l.drop k) = (decide (last + 1 < lo) && decide (lo ≤ hi) && decide (hi ≤ 1114111) && rfB hi (l.drop (k + 1)))) := by
        show rfB last (l.drop k) = _
        rw [drop_gr (show k < l.length by have := HN.out; omega), hlo, hhi]; rfl
      have HNX : Hid (hi = (gr l (k + 1 - 1)).2) := hhi
      clear hlo hhi
      by_cases h1 : lo < 0
      · have d1 : decide (lo < 0) = true := decide_eq_true h1
        go_wp2
        go_quiet (fail)
        go_wp2
        go_ret
        exact ⟨ret_bool (by rw [HE.out, HD.out, decide_eq_false (show ¬ last + 1 < lo by by_cases e : k = 0; (have := HZ.out e; omega); (have := (HK.out (by omega)).1; omega))]; rfl), ⟨_, by first | rfl | exact World.drewN_drewN _ _ _⟩⟩
      · have d1 : decide (lo < 0) = false := decide_eq_false h1
        by_cases h2 : hi < lo
        · have d2 : decide (hi < lo) = true := decide_eq_true h2
          go_wp2
          go_quiet (fail)
          go_wp2
          go_ret
          exact ⟨ret_bool (by rw [HE.out, HD.out, decide_eq_false (show ¬ lo ≤ hi by omega)]; simp), ⟨_, by first | rfl | exact World.drewN_drewN _ _ _⟩⟩
        · have d2 : decide (hi < lo) = false := decide_eq_false h2
          by_cases h3 : 1114111 < hi
          · have d3 : decide (1114111 < hi) = true := decide_eq_true h3
            go_wp2
            go_quiet (fail)
            go_wp2
            go_ret
            exact ⟨ret_bool (by rw [HE.out, HD.out, decide_eq_false (show ¬ hi ≤ 1114111 by omega)]; simp), ⟨_, by first | rfl | exact World.drewN_drewN _ _ _⟩⟩
          · have d3 : decide (1114111 < hi) = false := decide_eq_false h3
            by_cases hk0 : k = 0
            · have HL2 := Lib.hid (HZ.out hk0)
              have HK0 := Lib.hid hk0
              have d4 : decide ((0 : Int) < (k : Int)) = false := by rw [decide_eq_false_iff_not]; omega
              have d4N : decide (0 < k) = false := by rw [decide_eq_false_iff_not]; omega
              clear hk0
              go_wp2
              go_quiet (fail)
              go_wp2
              go_roundw
              case rel => exact ⟨hi, k + 1, r + nq, by omega, by omega, by omega, by go_num, (by show rightB l = _; rw [HE.out, HD.out, decide_eq_true (show last + 1 < lo by have := HL2.out; omega), decide_eq_true (show lo ≤ hi by omega), decide_eq_true (show hi ≤ 1114111 by omega)]; rfl), (fun h => by omega), fun _ => ⟨by omega, HNX.out⟩, by first | rfl | exact World.drewN_drewN _ _ _⟩
              case measure => simp [intOf]; omega
            · obtain ⟨k1, rfl⟩ : ∃ k1, k = k1 + 1 := ⟨k - 1, by omega⟩
              obtain ⟨b', o', e', _, hc4⟩ := slr_at HP.out (show k1 < l.length by have := HN.out; omega)
              simp only [Option.some.injEq, Addr.mk.injEq, and_true] at e'
              obtain ⟨rfl, rfl⟩ := e'
              have hlast := (HK.out (by omega)).2
              rw [show k1 + 1 - 1 = k1 from rfl] at hlast
              rw [← hlast] at hc4
              have hkp : (0 : Int) < (k1 : Int) + 1 := by omega
              have d4 : decide ((0 : Int) < (k1 : Int) + 1) = true := decide_eq_true hkp
              have hw1 : IntKind.i64.wrap ((k1 : Int) + 1 - 1) = (k1 : Int) := by rw [IntKind.wrap_i64]; omega
              have hw2 : IntKind.i64.wrap (last + 1) = last + 1 := by rw [IntKind.wrap_i64]; omega
              clear hlast hk0
              by_cases h4 : lo ≤ last + 1
              · have d5 : decide (lo ≤ last + 1) = true := decide_eq_true h4
                go_wp2
                go_quiet (fail)
                go_wp2
                go_ret
                exact ⟨ret_bool (by rw [HE.out, HD.out, decide_eq_false (show ¬ last + 1 < lo by omega)]; rfl), ⟨_, by first | rfl | exact World.drewN_drewN _ _ _⟩⟩
              · have d5 : decide (lo ≤ last + 1) = false := decide_eq_false h4
                go_wp2
                go_quiet (fail)
                go_wp2
                go_roundw
                case rel => exact ⟨hi, k1 + 1 + 1, r + nq, by omega, by omega, by omega, by go_num, (by show rightB l = _; rw [HE.out, HD.out, decide_eq_true (show last + 1 < lo by omega), decide_eq_true (show lo ≤ hi by omega), decide_eq_true (show hi ≤ 1114111 by omega)]; rfl), (fun h => by omega), fun _ => ⟨by omega, HNX.out⟩, by first | rfl | exact World.drewN_drewN _ _ _⟩
                case measure => simp [intOf]; omega
    · have hkI : (m : Int) ≤ k := by omega
      go_wp2
      go_ret
      exact ⟨ret_bool (by rw [HE.out, List.drop_eq_nil_of_le (by have := HN.out; omega)]; rfl), ⟨_, rfl⟩⟩

set_option maxHeartbeats 6400000 in
set_option maxRecDepth 100000 in
theorem rfright_any (pf pp : Option Addr) (cf cp n m : Nat) (F : List R) (xs : List PV) (w : World) (h : Tab w pf n pp m F xs) (hpn : ∀ x ∈ xs, x.1.size ≤ 1000000000) :
    Calls Tryz.prog 18 #[.agg #[.slice pf n cf, .slice pp m cp]] w fun e w' => ∃ t : Bool, e = .returned (.bool t) ∧ (t = true ↔ TR F xs) ∧ Below w.heap.size w w' := by
  have hb1 : Below w.heap.size w (w.alloc (.cells #[.slice pf n cf, .slice pp m cp] 30)) := bl_alloc _ _
  have hc0 : (w.alloc (.cells #[.slice pf n cf, .slice pp m cp] 30)).cell? ⟨w.heap.size, 0, none⟩ = some (.slice pf n cf) := by rw [World.cell?_alloc_at _ _ _ _ rfl]; rfl
  have hc1 : (w.alloc (.cells #[.slice pf n cf, .slice pp m cp] 30)).cell? ⟨w.heap.size, 1, none⟩ = some (.slice pp m cp) := by rw [World.cell?_alloc_at _ _ _ _ rfl]; rfl
  have HT := Lib.hid (h.below hb1)
  have HB1 := Lib.hid hb1
  have HN := Lib.hid h.fl
  have HPN := Lib.hid hpn
  have hnI : (n : Int) ≤ 10000000000000 := by have := h.fb; omega
  have hmI : (m : Int) ≤ 10000000000000 := by have := h.pb; omega
  clear h hb1 hpn
  go_enter Tryz.func18, Tryz.ntmps18
  go_wp2
  obtain ⟨w1, hw1⟩ : ∃ W, W = w.alloc (.cells #[.slice pf n cf, .slice pp m cp] 30) := ⟨_, rfl⟩
  rw [← hw1] at HT hc0 hc1 HB1
  rw [← hw1]
  clear hw1
  generalize hbt : w.heap.size = bt at hc0 hc1 ⊢
  have HBT := Lib.hid hbt
  clear hbt
  have HC := Lib.hid (And.intro hc0 hc1)
  have HP : Hid (SlR w1 pf F) := HT.out.fs
  go_loopw [3] (fun iv wr => ∃ i : Nat, i ≤ n ∧ iv = .int .i64 (i : Nat) ∧ Hid (FRk F i ∧ ∀ j, j < i → (gr F j).1 ≠ (gr F j).2) ∧ Hid (Below w1.heap.size w1 wr)) (fun iv _ => n - (intOf iv).toNat)
  case atStart => exact ⟨0, Nat.zero_le _, rfl, ⟨⟨fun i hi => absurd hi (by omega), fun i hi => absurd hi (by omega)⟩, fun i hi => absurd hi (by omega)⟩, Below.refl _ _⟩
  case round =>
  clear hc0 hc1
  obtain ⟨i, hi, rfl, HF, HB⟩ := hrel
  rename World => wr
  have hc0 := keep_cell HB.out HC.out.1
  have hc1 := keep_cell HB.out HC.out.2
  by_cases hin : i < n
  · have hiI : (i : Int) < n := by omega
    have HI := Lib.hid hin
    obtain ⟨bb, o, rfl, hd0, hd1⟩ := slr_at (HP.out.below HB.out) (show i < F.length by have := HN.out; omega)
    obtain ⟨x, hx⟩ : ∃ x, x = (gr F i).1 := ⟨_, rfl⟩
    obtain ⟨y, hy⟩ : ∃ y, y = (gr F i).2 := ⟨_, rfl⟩
    rw [← hx] at hd0
    rw [← hy] at hd1
    have HX := Lib.hid hx
    have HY := Lib.hid hy
    clear hx hy hin hi
    have hf0 : (wr.alloc (.cells #[.int .i64 x, .int .i64 y] 33)).cell? ⟨wr.heap.size, 0, none⟩ = some (.int .i64 x) := by rw [World.cell?_alloc_at _ _ _ _ rfl]; rfl
    have hf1 : (wr.alloc (.cells #[.int .i64 x, .int .i64 y] 33)).cell? ⟨wr.heap.size, 1, none⟩ = some (.int .i64 y) := by rw [World.cell?_alloc_at _ _ _ _ rfl]; rfl
    have hbl := bl_alloc wr (.cells #[.int .i64 x, .int .i64 y] 33)
    have he0 := keep_cell hbl hc0
    have HPW := Lib.hid ((HP.out.below HB.out).below hbl)
    have HBW : Hid (Below w1.heap.size w1 (wr.alloc (.cells #[.int .i64 x, .int .i64 y] 33))) := HB.out.alloc HB.out.size _
    go_upto_region 5 with fail
    clear hc0 hc1 hd0 hd1 hbl
    generalize wr.alloc (.cells #[.int .i64 x, .int .i64 y] 33) = W4 at *
    generalize wr.heap.size = bf at *
    have hg0 : ∀ s, (W4.drewN s).cell? ⟨bf, 0, none⟩ = some (.int .i64 x) := fun s => hf0
    have hg1 : ∀ s, (W4.drewN s).cell? ⟨bf, 1, none⟩ = some (.int .i64 y) := fun s => hf1
    have hg2 : ∀ s, (W4.drewN s).cell? ⟨bt, 0, none⟩ = some (.slice (some ⟨bb, o, none⟩) n cf) := fun s => he0
    have HBN : Hid (∀ s, Below w.heap.size w (W4.drewN s)) := fun s => bl_trans HB1.out (bl_trans HBW.out (drewN_below _ _))
    have HBM : Hid (∀ s, Below w1.heap.size w1 (W4.drewN s)) := fun s => bl_trans HBW.out (drewN_below _ _)
    clear HBW HB
    by_cases h1 : x < 0
    · have h1D : decide (x < 0) = true := decide_eq_true h1
      have HNO : Hid (¬ TR F xs) := fun h => by
        have hiF : i < F.length := by have := HN.out; have := HI.out; omega
        have hp := h.1.1 i hiF
        rw [← HX.out, ← HY.out] at hp
        have q1 := hp.1.1; have q2 := hp.1.2; have q3 := hp.2.1; have q4 := hp.2.2
        omega
      go_wp2
      go_quiet (fail)
      go_wp2
      go_ret
      exact ⟨false, rfl, ⟨(fun h => by cases h), fun h => absurd h HNO.out⟩, HBN.out _⟩
    · have h1D : decide (x < 0) = false := decide_eq_false h1
      by_cases h2 : 1114111 < x
      · have h2D : decide (1114111 < x) = true := decide_eq_true h2
        have HNO : Hid (¬ TR F xs) := fun h => by
          have hiF : i < F.length := by have := HN.out; have := HI.out; omega
          have hp := h.1.1 i hiF
          rw [← HX.out, ← HY.out] at hp
          have q1 := hp.1.1; have q2 := hp.1.2; have q3 := hp.2.1; have q4 := hp.2.2
          omega
        go_wp2
        go_quiet (fail)
        go_wp2
        go_ret
        exact ⟨false, rfl, ⟨(fun h => by cases h), fun h => absurd h HNO.out⟩, HBN.out _⟩
      · have h2D : decide (1114111 < x) = false := decide_eq_false h2
        by_cases h3 : y < 0
        · have h3D : decide (y < 0) = true := decide_eq_true h3
          have HNO : Hid (¬ TR F xs) := fun h => by
            have hiF : i < F.length := by have := HN.out; have := HI.out; omega
            have hp := h.1.1 i hiF
            rw [← HX.out, ← HY.out] at hp
            have q1 := hp.1.1; have q2 := hp.1.2; have q3 := hp.2.1; have q4 := hp.2.2
            omega
          go_wp2
          go_quiet (fail)
          go_wp2
          go_ret
          exact ⟨false, rfl, ⟨(fun h => by cases h), fun h => absurd h HNO.out⟩, HBN.out _⟩
        · have h3D : decide (y < 0) = false := decide_eq_false h3
          by_cases h4 : 1114111 < y
          · have h4D : decide (1114111 < y) = true := decide_eq_true h4
            have HNO : Hid (¬ TR F xs) := fun h => by
              have hiF : i < F.length := by have := HN.out; have := HI.out; omega
              have hp := h.1.1 i hiF
              rw [← HX.out, ← HY.out] at hp
              have q1 := hp.1.1; have q2 := hp.1.2; have q3 := hp.2.1; have q4 := hp.2.2
              omega
            go_wp2
            go_quiet (fail)
            go_wp2
            go_ret
            exact ⟨false, rfl, ⟨(fun h => by cases h), fun h => absurd h HNO.out⟩, HBN.out _⟩
          · have h4D : decide (1114111 < y) = false := decide_eq_false h4
            by_cases h5 : x = y
            · have h5D : (x == y) = true := by rw [h5]; exact BEq.rfl
              have HNO : Hid (¬ TR F xs) := fun h => by
                have hiF : i < F.length := by have := HN.out; have := HI.out; omega
                have hl := h.1.2.2 (gr F i) (gr_mem hiF)
                rw [← HY.out, ← h5, HX.out] at hl
                exact look_self hiF hl
              go_wp2
              go_quiet (fail)
              go_wp2
              go_ret
              exact ⟨false, rfl, ⟨(fun h => by cases h), fun h => absurd h HNO.out⟩, HBN.out _⟩
            · have h5D : (x == y) = false := beq_eq_false_iff_ne.2 h5
              by_cases hi0 : i = 0
              · have hi0D : decide ((0 : Int) < (i : Int)) = false := decide_eq_false (by omega)
                have hi0N : decide (0 < i) = false := decide_eq_false (by omega)
                have HF2 : Hid (FRk F (i + 1) ∧ ∀ j, j < i + 1 → (gr F j).1 ≠ (gr F j).2) := by
                  have hpt : PtI (gr F i).1 ∧ PtI (gr F i).2 := by rw [← HX.out, ← HY.out]; exact ⟨⟨by omega, by omega⟩, by omega, by omega⟩
                  have hne : (gr F i).1 ≠ (gr F i).2 := by rw [← HX.out, ← HY.out]; exact h5
                  refine ⟨⟨fun j hj => ?_, fun j hj => ?_⟩, fun j hj => ?_⟩
                  · by_cases e : j = i
                    · subst e; exact hpt
                    · exact HF.out.1.1 j (by omega)
                  · omega
                  · by_cases e : j = i
                    · subst e; exact hne
                    · exact HF.out.2 j (by omega)
                go_wp2
                go_quiet (fail)
                go_wp2
                go_roundw
                case rel => exact ⟨i + 1, by have := HI.out; omega, by go_num, HF2.out, HBM.out _⟩
                case measure => have := HI.out; simp [intOf]; omega
              · have hi0D : decide ((0 : Int) < (i : Int)) = true := decide_eq_true (by omega)
                have hi0N : decide (0 < i) = true := decide_eq_true (by omega)
                obtain ⟨bb2, o2, e2, hd2, _⟩ := slr_at HPW.out (show i - 1 < F.length by have := HN.out; have := HI.out; omega)
                simp only [Option.some.injEq, Addr.mk.injEq, and_true] at e2
                obtain ⟨rfl, rfl⟩ := e2
                obtain ⟨v, hv⟩ : ∃ v, v = (gr F (i - 1)).1 := ⟨_, rfl⟩
                rw [← hv] at hd2
                have HV := Lib.hid hv
                have hg3 : ∀ s, (W4.drewN s).cell? ⟨bb, o + (i - 1) * 2, none⟩ = some (.int .i64 v) := fun s => hd2
                have hw1 : IntKind.i64.wrap ((i : Int) - 1) = (i : Int) - 1 := by rw [IntKind.wrap_i64]; omega
                have hk1 : (0 : Int) ≤ (i : Int) - 1 := by omega
                have hk2 : (i : Int) - 1 < n := by omega
                have hk3 : ((i : Int) - 1).toNat = i - 1 := by omega
                have HI1 : Hid (1 ≤ i) := by show _ ≤ _; omega
                clear hv
                by_cases h6 : x ≤ v
                · have h6D : decide (x ≤ v) = true := decide_eq_true h6
                  have HNO : Hid (¬ TR F xs) := fun h => by
                    have hiF : i < F.length := by have := HN.out; have := HI.out; omega
                    have hr := h.1.2.1 (i - 1) i (by have := HI1.out; omega) hiF
                    rw [← HX.out, ← HV.out] at hr
                    omega
                  go_wp2
                  go_quiet (fail)
                  go_wp2
                  go_ret
                  exact ⟨false, rfl, ⟨(fun h => by cases h), fun h => absurd h HNO.out⟩, HBN.out _⟩
                · have h6D : decide (x ≤ v) = false := decide_eq_false h6
                  have HF2 : Hid (FRk F (i + 1) ∧ ∀ j, j < i + 1 → (gr F j).1 ≠ (gr F j).2) := by
                    have hpt : PtI (gr F i).1 ∧ PtI (gr F i).2 := by rw [← HX.out, ← HY.out]; exact ⟨⟨by omega, by omega⟩, by omega, by omega⟩
                    have hne : (gr F i).1 ≠ (gr F i).2 := by rw [← HX.out, ← HY.out]; exact h5
                    refine ⟨⟨fun j hj => ?_, fun j hj => ?_⟩, fun j hj => ?_⟩
                    · by_cases e : j = i
                      · subst e; exact hpt
                      · exact HF.out.1.1 j (by omega)
                    · by_cases e : j + 1 = i
                      · have e1 : i - 1 = j := by omega
                        rw [e, ← HX.out, ← e1, ← HV.out]; omega
                      · exact HF.out.1.2 j (by omega)
                    · by_cases e : j = i
                      · subst e; exact hne
                      · exact HF.out.2 j (by omega)
                  go_wp2
                  go_quiet (fail)
                  go_wp2
                  go_roundw
                  case rel => exact ⟨i + 1, by have := HI.out; omega, by go_num, HF2.out, HBM.out _⟩
                  case measure => have := HI.out; simp [intOf]; omega
  · have hiI : (n : Int) ≤ i := by omega
    have hin2 : i = n := by omega
    have HFK : Hid ((∀ j, j < F.length → PtI (gr F j).1 ∧ PtI (gr F j).2) ∧ Rise F) := ⟨fun j hj => HF.out.1.1 j (by rw [hin2, HN.out]; exact hj), rise_of (fun j hj => HF.out.1.2 j (by rw [hin2, HN.out]; exact hj))⟩
    have HB0 := HB
    clear HF hi hin hin2 HB
    go_wp2
    generalize decide (i < n) = d14
    go_loopw [5] (fun iv wr => ∃ i : Nat, i ≤ n ∧ iv = .int .i64 (i : Nat) ∧ Hid (∀ j, j < i → look F (gr F j).2 = none) ∧ Hid (Below w1.heap.size w1 wr)) (fun iv _ => n - (intOf iv).toNat)
    case atStart => exact ⟨0, Nat.zero_le _, rfl, fun i hi => absurd hi (by omega), HB0.out⟩
    case round =>
    clear hc0 hc1 hiI HB0
    obtain ⟨i, hi, rfl, HF, HB⟩ := hrel
    rename World => wr
    have hc0 := keep_cell HB.out HC.out.1
    have hc1 := keep_cell HB.out HC.out.2
    by_cases hin : i < n
    · have hiI : (i : Int) < n := by omega
      have HI := Lib.hid hin
      obtain ⟨bb, o, rfl, hd0, hd1⟩ := slr_at (HP.out.below HB.out) (show i < F.length by have := HN.out; omega)
      obtain ⟨y, hy⟩ : ∃ y, y = (gr F i).2 := ⟨_, rfl⟩
      rw [← hy] at hd1
      obtain ⟨lk, hlk⟩ : ∃ z, z = look F y := ⟨_, rfl⟩
      have HTO : Hid (∀ W, Below w1.heap.size w1 W → Calls Tryz.prog 53 #[.agg #[.slice (some ⟨bb, o, none⟩) n cf, .slice pp m cp], .int .i64 y] W fun e w' => e = .returned (.tuple #[.int .i64 (lk.getD 0), .bool lk.isSome]) ∧ Below W.heap.size W w') := fun W hb => by
        rw [hlk]; exact rto_any _ pp cf cp n m F y W HN.out (HP.out.below hb) HFK.out.2 (by omega)
      have HLK : Hid (look F (gr F i).2 = lk) := by rw [← hy]; exact hlk.symm
      have HBT2 : Hid (Below w.heap.size w wr) := bl_trans HB1.out HB.out
      clear hd0 hy hlk hin hi
      go_wp2
      have hS0 : wr.cell? ⟨bt, 0, none⟩ = some (.slice (some ⟨bb, o, none⟩) n cf) ∧ wr.cell? ⟨bt, 1, none⟩ = some (.slice pp m cp) ∧ wr.cell? ⟨bb, o + i * 2 + 1, none⟩ = some (.int .i64 y) ∧ Hid (Below w1.heap.size w1 wr) := ⟨hc0, hc1, hd1, HB⟩
      go_region_held3 (fun W => W.cell? ⟨bt, 0, none⟩ = some (.slice (some ⟨bb, o, none⟩) n cf) ∧ W.cell? ⟨bt, 1, none⟩ = some (.slice pp m cp) ∧ W.cell? ⟨bb, o + i * 2 + 1, none⟩ = some (.int .i64 y) ∧ Hid (Below w1.heap.size w1 W)) (first | exact s3_below hS0 (bl_drew _) | assumption | exact s3_below (s3_below hS0 (bl_drew _)) hb6) (first | (go_at_call 53; (with_reducible refine (HTO.out _ (Hid.out (by exact (s3_below hS0 (bl_drew _)).2.2.2))).mono ?_); rintro e w6 ⟨rfl, hb6⟩))
      have HB6 := Lib.hid (bl_trans HB.out (bl_trans (bl_drew wr) hb6))
      clear hb6 hS0 hc0 hc1
      cases lk with
      | some v =>
        have HNO : Hid (¬ TR F xs) := fun h => by
          have h1 := h.1.2.2 (gr F i) (gr_mem (show i < F.length by have := HN.out; have := HI.out; omega))
          rw [HLK.out] at h1; cases h1
        go_wp2
        go_ret
        exact ⟨false, rfl, ⟨(fun h => by cases h), fun h => absurd h HNO.out⟩, bl_trans HB1.out HB6.out⟩
      | none =>
        have HF2 : Hid (∀ j, j < i + 1 → look F (gr F j).2 = none) := fun j hj => by
          by_cases e : j = i
          · subst e; exact HLK.out
          · exact HF.out j (by omega)
        go_wp2
        go_roundw
        case rel => exact ⟨i + 1, by have := HI.out; omega, by go_num, HF2.out, HB6.out⟩
        case measure => have := HI.out; simp [intOf]; omega
    · have hiI : (n : Int) ≤ i := by omega
      have HFR : Hid (FR F) := ⟨HFK.out.1, HFK.out.2, fun f hf => by
        obtain ⟨j, hj, rfl⟩ := mem_gr hf
        exact HF.out j (by have := HN.out; omega)⟩
      have HB0 := HB
      clear HF hi HB
      go_wp2
      generalize decide (i < n) = d67
      go_loopw [8] (fun iv wr => ∃ i : Nat, i ≤ m ∧ iv = .int .i64 (i : Nat) ∧ Hid (∀ j, j < i → PR1 xs j) ∧ Hid (Below w1.heap.size w1 wr)) (fun iv _ => m - (intOf iv).toNat)
      case atStart => exact ⟨0, Nat.zero_le _, rfl, fun i hi => absurd hi (by omega), HB0.out⟩
      case round =>
      clear hc0 hc1 hiI HB0
      obtain ⟨i, hi, rfl, HF, HB⟩ := hrel
      rename World => wr
      have hc0 := keep_cell HB.out HC.out.1
      have hc1 := keep_cell HB.out HC.out.2
      by_cases hin : i < m
      · have hiI : (i : Int) < m := by omega
        have HI := Lib.hid hin
        have HPL := Lib.hid HT.out.pl
        have HPS := Lib.hid HT.out.ps
        have HIX : Hid (i < xs.length) := by have h1 := HPL.out; show _ < _; omega
        obtain ⟨bb, o, hpe, hall⟩ := (HPS.out.below HB.out).2.resolve_left (fun h => by have := HIX.out; rw [h] at this; exact absurd this (by simp))
        have hd0 := (hall i HIX.out).1
        have hd1 := (hall i HIX.out).2
        have HSR := Lib.hid (HPS.out.1 (gp xs i) (by rw [gp_get HIX.out]; exact List.getElem_mem _))
        have HL0 := Lib.hid (HT.out.pe (gp xs i) (by rw [gp_get HIX.out]; exact List.getElem_mem _))
        have HSS := Lib.hid (HPN.out (gp xs i) (by rw [gp_get HIX.out]; exact List.getElem_mem _))
        have HP1 : Hid (PR1 xs i ↔ nameB (gp xs i).1.data.toList = true ∧ (0 < i → leB (gp xs i).1 (gp xs (i - 1)).1 = false) ∧ (gp xs i).2.2.2.length ≤ 2000 ∧ rightB (gp xs i).2.2.2 = true) := Iff.rfl
        have HE2 : Hid (0 < i → wr.cell? ⟨bb, o + (i - 1) * 2, none⟩ = some (.string (gp xs (i - 1)).1)) := fun _ => (hall (i - 1) (by have := HIX.out; omega)).1
        clear hall
        subst hpe
        generalize (gp xs i).1 = s at *
        generalize (gp xs i).2.1 = q at *
        generalize (gp xs i).2.2.1 = c at *
        generalize (gp xs i).2.2.2 = l at *
        obtain ⟨s0, hs0⟩ : ∃ x, x = (gp xs (i - 1)).1 := ⟨_, rfl⟩
        rw [← hs0] at HE2
        have HS0 := Lib.hid hs0
        obtain ⟨m2, hm2⟩ : ∃ m, m = l.length := ⟨_, rfl⟩
        obtain ⟨r, hr⟩ : ∃ r, r = rightB l := ⟨_, rfl⟩
        have HRB : Hid (rightB l = r) := hr.symm
        have hmI2 : (m2 : Int) ≤ 10000000000000 := by have := HL0.out; omega
        have hbl := bl_alloc wr (.cells #[.string s, .slice q m2 c] 37)
        have HRT : Hid (∀ k, Calls Tryz.prog 55 #[.slice q m2 c] ((wr.alloc (.cells #[.string s, .slice q m2 c] 37)).drewN k) fun e w' => e = .returned (.bool r) ∧ ∃ k2, w' = (wr.alloc (.cells #[.string s, .slice q m2 c] 37)).drewN k2) := fun k =>
          (rright_q q c m2 l _ hm2 (HSR.out.below (bl_trans HB.out (bl_trans hbl (drewN_below _ k)))) (by have := HL0.out; omega)).mono fun e w' h => ⟨by rw [h.1, hr], by
            obtain ⟨k2, h2⟩ := h.2
            exact ⟨_, h2.trans (World.drewN_drewN _ _ _)⟩⟩
        obtain ⟨nm, hnm0⟩ : ∃ t, t = nameB s.data.toList := ⟨_, rfl⟩
        have HND : Hid (∀ W, Calls Tryz.prog 54 #[.string s] W fun e w' => e = .returned (.bool nm) ∧ w' = W) := fun W => by rw [hnm0]; exact rname_any s W HSS.out
        have hnm1 := hnm0.symm
        rw [← hm2] at hd1 HP1
        clear hm2 hr hs0 hin hi HSR HL0 hnm0
        have hf0 : (wr.alloc (.cells #[.string s, .slice q m2 c] 37)).cell? ⟨wr.heap.size, 0, none⟩ = some (.string s) := by rw [World.cell?_alloc_at _ _ _ _ rfl]; rfl
        have hf1 : (wr.alloc (.cells #[.string s, .slice q m2 c] 37)).cell? ⟨wr.heap.size, 1, none⟩ = some (.slice q m2 c) := by rw [World.cell?_alloc_at _ _ _ _ rfl]; rfl
        have he1 := keep_cell hbl hc1
        have HE3 : Hid (0 < i → (wr.alloc (.cells #[.string s, .slice q m2 c] 37)).cell? ⟨bb, o + (i - 1) * 2, none⟩ = some (.string s0)) := fun h => keep_cell hbl (HE2.out h)
        have HBW : Hid (Below w1.heap.size w1 (wr.alloc (.cells #[.string s, .slice q m2 c] 37))) := HB.out.alloc HB.out.size _
        go_upto_region 17 with fail
        clear hc0 hc1 hd0 hd1 hbl HE2
        generalize wr.alloc (.cells #[.string s, .slice q m2 c] 37) = W4 at *
        generalize wr.heap.size = bf at *
        have hg0 : ∀ s2, (W4.drewN s2).cell? ⟨bf, 0, none⟩ = some (.string s) := fun s2 => hf0
        have hg1 : ∀ s2, (W4.drewN s2).cell? ⟨bf, 1, none⟩ = some (.slice q m2 c) := fun s2 => hf1
        have hg2 : ∀ s2, (W4.drewN s2).cell? ⟨bt, 1, none⟩ = some (.slice (some ⟨bb, o, none⟩) m cp) := fun s2 => he1
        have HBN : Hid (∀ s, Below w.heap.size w (W4.drewN s)) := fun s => bl_trans HB1.out (bl_trans HBW.out (drewN_below _ _))
        have HBM : Hid (∀ s, Below w1.heap.size w1 (W4.drewN s)) := fun s => bl_trans HBW.out (drewN_below _ _)
        clear HBW HB
        cases hnm : nm with
        | false =>
          rw [hnm] at hnm1 HND
          have HNO : Hid (¬ TR F xs) := fun h => by
            have h1 := HP1.out.1 (h.2 i HIX.out)
            have h2 := h1.1
            rw [hnm1] at h2; cases h2
          clear hnm1 hnm
          go_quiet (first | (go_at_call 54; with_reducible exact (HND.out _).mono fun _ _ h => ⟨h.1, _, h.2⟩) | (go_at_call 55; with_reducible exact (HRT.out _).mono fun _ _ h => ⟨h.1, _, h.2.choose_spec⟩))
          go_wp2
          go_ret
          exact ⟨false, rfl, ⟨(fun h => by cases h), fun h => absurd h HNO.out⟩, HBN.out _⟩
        | true =>
          rw [hnm] at hnm1 HND
          clear hnm
          have hnm := hnm1
          clear hnm1
          by_cases hi0 : i = 0
          · have hi0D : decide ((0 : Int) < (i : Int)) = false := decide_eq_false (by omega)
            have hi0N : decide (0 < i) = false := decide_eq_false (by omega)
            clear HE3
            by_cases hbig0 : m2 ≤ 2000
            · have hbig : decide ((2000 : Int) < (m2 : Int)) = false := decide_eq_false (by omega)
              have hbigN : decide (2000 < m2) = false := decide_eq_false (by omega)
              cases r with
              | true =>
                have HNX : Hid (∀ j, j < i + 1 → PR1 xs j) := fun j hj => by
                  by_cases e : j = i
                  · subst e
                    exact HP1.out.2 ⟨hnm, fun h => absurd h (by omega), by omega, HRB.out⟩
                  · exact HF.out j (by omega)
                clear hnm hbig0
                go_quiet (first | (go_at_call 54; with_reducible exact (HND.out _).mono fun _ _ h => ⟨h.1, _, h.2⟩) | (go_at_call 55; with_reducible exact (HRT.out _).mono fun _ _ h => ⟨h.1, _, h.2.choose_spec⟩))
                go_wp2
                go_roundw
                case rel => exact ⟨i + 1, by have := HI.out; omega, by go_num, HNX.out, HBM.out _⟩
                case measure => have := HI.out; simp [intOf]; omega
              | false =>
                have HNO : Hid (¬ TR F xs) := fun h => by
                  have h1 := HP1.out.1 (h.2 i HIX.out)
                  have h2 := h1.2.2.2
                  rw [HRB.out] at h2; cases h2
                clear hnm hbig0
                go_quiet (first | (go_at_call 54; with_reducible exact (HND.out _).mono fun _ _ h => ⟨h.1, _, h.2⟩) | (go_at_call 55; with_reducible exact (HRT.out _).mono fun _ _ h => ⟨h.1, _, h.2.choose_spec⟩))
                go_wp2
                go_ret
                exact ⟨false, rfl, ⟨(fun h => by cases h), fun h => absurd h HNO.out⟩, HBN.out _⟩
            · have hbig : decide ((2000 : Int) < (m2 : Int)) = true := decide_eq_true (by omega)
              have hbigN : decide (2000 < m2) = true := decide_eq_true (by omega)
              have HNO : Hid (¬ TR F xs) := fun h => by
                have h1 := HP1.out.1 (h.2 i HIX.out)
                have h2 := h1.2.2.1; omega
              clear hnm hbig0
              go_quiet (first | (go_at_call 54; with_reducible exact (HND.out _).mono fun _ _ h => ⟨h.1, _, h.2⟩) | (go_at_call 55; with_reducible exact (HRT.out _).mono fun _ _ h => ⟨h.1, _, h.2.choose_spec⟩))
              go_wp2
              go_ret
              exact ⟨false, rfl, ⟨(fun h => by cases h), fun h => absurd h HNO.out⟩, HBN.out _⟩
          · have hi0D : decide ((0 : Int) < (i : Int)) = true := decide_eq_true (by omega)
            have hi0N : decide (0 < i) = true := decide_eq_true (by omega)
            have he2 := HE3.out (by omega)
            have hg3 : ∀ s2, (W4.drewN s2).cell? ⟨bb, o + (i - 1) * 2, none⟩ = some (.string s0) := fun s2 => he2
            have hw1 : IntKind.i64.wrap ((i : Int) - 1) = (i : Int) - 1 := by rw [IntKind.wrap_i64]; omega
            have hk1 : (0 : Int) ≤ (i : Int) - 1 := by omega
            have hk2 : (i : Int) - 1 < m := by omega
            have hk3 : ((i : Int) - 1).toNat = i - 1 := by omega
            have HI1 : Hid (1 ≤ i) := by show _ ≤ _; omega
            clear HE3
            cases hle : leB s s0 with
            | true =>
              have hge : geB s0 s = true := by rw [ge_le]; exact hle
              have HNO : Hid (¬ TR F xs) := fun h => by
                have h1 := HP1.out.1 (h.2 i HIX.out)
                have h2 := h1.2.1 (by have := HI1.out; omega)
                rw [← HS0.out, hle] at h2; cases h2
              clear hnm hle
              unfold geB at hge
              go_quiet (first | (go_at_call 54; with_reducible exact (HND.out _).mono fun _ _ h => ⟨h.1, _, h.2⟩) | (go_at_call 55; with_reducible exact (HRT.out _).mono fun _ _ h => ⟨h.1, _, h.2.choose_spec⟩))
              go_wp2
              go_ret
              exact ⟨false, rfl, ⟨(fun h => by cases h), fun h => absurd h HNO.out⟩, HBN.out _⟩
            | false =>
              have hge : geB s0 s = false := by rw [ge_le]; exact hle
              have HLE : Hid (leB s (gp xs (i - 1)).1 = false) := by rw [← HS0.out]; exact hle
              clear hle
              unfold geB at hge
              by_cases hbig0 : m2 ≤ 2000
              · have hbig : decide ((2000 : Int) < (m2 : Int)) = false := decide_eq_false (by omega)
                have hbigN : decide (2000 < m2) = false := decide_eq_false (by omega)
                cases r with
                | true =>
                  have HNX : Hid (∀ j, j < i + 1 → PR1 xs j) := fun j hj => by
                    by_cases e : j = i
                    · subst e
                      exact HP1.out.2 ⟨hnm, fun _ => HLE.out, by omega, HRB.out⟩
                    · exact HF.out j (by omega)
                  clear hnm hbig0
                  go_quiet (first | (go_at_call 54; with_reducible exact (HND.out _).mono fun _ _ h => ⟨h.1, _, h.2⟩) | (go_at_call 55; with_reducible exact (HRT.out _).mono fun _ _ h => ⟨h.1, _, h.2.choose_spec⟩))
                  go_wp2
                  go_roundw
                  case rel => exact ⟨i + 1, by have := HI.out; omega, by go_num, HNX.out, HBM.out _⟩
                  case measure => have := HI.out; simp [intOf]; omega
                | false =>
                  have HNO : Hid (¬ TR F xs) := fun h => by
                    have h1 := HP1.out.1 (h.2 i HIX.out)
                    have h2 := h1.2.2.2
                    rw [HRB.out] at h2; cases h2
                  clear hnm hbig0
                  go_quiet (first | (go_at_call 54; with_reducible exact (HND.out _).mono fun _ _ h => ⟨h.1, _, h.2⟩) | (go_at_call 55; with_reducible exact (HRT.out _).mono fun _ _ h => ⟨h.1, _, h.2.choose_spec⟩))
                  go_wp2
                  go_ret
                  exact ⟨false, rfl, ⟨(fun h => by cases h), fun h => absurd h HNO.out⟩, HBN.out _⟩
              · have hbig : decide ((2000 : Int) < (m2 : Int)) = true := decide_eq_true (by omega)
                have hbigN : decide (2000 < m2) = true := decide_eq_true (by omega)
                have HNO : Hid (¬ TR F xs) := fun h => by
                  have h1 := HP1.out.1 (h.2 i HIX.out)
                  have h2 := h1.2.2.1; omega
                clear hnm hbig0
                go_quiet (first | (go_at_call 54; with_reducible exact (HND.out _).mono fun _ _ h => ⟨h.1, _, h.2⟩) | (go_at_call 55; with_reducible exact (HRT.out _).mono fun _ _ h => ⟨h.1, _, h.2.choose_spec⟩))
                go_wp2
                go_ret
                exact ⟨false, rfl, ⟨(fun h => by cases h), fun h => absurd h HNO.out⟩, HBN.out _⟩
      · have hiI : (m : Int) ≤ i := by omega
        have HTR : Hid (TR F xs) := ⟨HFR.out, fun j hj => HF.out j (by have := HT.out.pl; omega)⟩
        have HBN := Lib.hid (bl_trans HB1.out HB.out)
        go_wp2
        go_ret
        exact ⟨true, rfl, ⟨fun _ => HTR.out, fun _ => rfl⟩, HBN.out⟩
end Go.Proofs.YtglgfpapackcdaaGreat
