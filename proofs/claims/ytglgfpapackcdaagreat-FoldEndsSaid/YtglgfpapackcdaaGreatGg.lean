/- fold's searches: has (does a right set have a number?), the search of a fold by its From. -/
/- fold's searches: a fold by its From; the To of it. -/
import Derived.Test.YtglgfpapackcdaaGreatRl
import Derived.Test.YtglgfpapackcdaaGreatGc

namespace Go.Proofs.YtglgfpapackcdaaGreat
open Go.RowKit Tnr

def cmpI (y z : Int) : Int := if y < z then -1 else if z < y then 1 else 0
set_option maxHeartbeats 800000 in
set_option maxRecDepth 100000 in
theorem mcmp_any (x y z : Int) (w : World) : Calls Tryz.prog 125 #[.agg #[.int .i64 x, .int .i64 y], .int .i64 z] w fun e w' => e = .returned (.int .i64 (cmpI y z)) ∧ Below w.heap.size w w' := by
  have HC : Hid (cmpI y z = if y < z then -1 else if z < y then 1 else 0) := rfl
  by_cases h1 : y < z
  · go_enter Tryz.func125, Tryz.ntmps125
    go_wp2
    go_ret
    exact ⟨by show Ending.returned (Value.int .i64 (-1)) = _; rw [HC.out, if_pos h1], bl_alloc _ _⟩
  · by_cases h2 : z < y
    · go_enter Tryz.func125, Tryz.ntmps125
      go_wp2
      go_ret
      exact ⟨by show Ending.returned (Value.int .i64 1) = _; rw [HC.out, if_neg (by omega), if_pos h2], bl_alloc _ _⟩
    · go_enter Tryz.func125, Tryz.ntmps125
      go_wp2
      go_ret
      exact ⟨by show Ending.returned (Value.int .i64 0) = _; rw [HC.out, if_neg (by omega), if_neg (by omega)], bl_alloc _ _⟩

def RiseH (d : List R) : Prop := ∀ i j, i < j → j < d.length → (gr d i).2 < (gr d j).2
theorem rf_rise : ∀ {l : List R} {a : Int}, RF a l → RiseH l ∧ ∀ i, i < l.length → a < (gr l i).2
  | [], _, _ => ⟨fun i j _ h => by simp at h, fun i h => by simp at h⟩
  | r :: l, a, h => by
    obtain ⟨h1, h2, h3, h4⟩ := h
    obtain ⟨i1, i2⟩ := rf_rise h4
    have e0 : gr (r :: l) 0 = r := rfl
    have es : ∀ k, gr (r :: l) (k + 1) = gr l k := fun k => rfl
    refine ⟨fun i j hij hj => ?_, fun i hi => ?_⟩
    · rcases j with _ | j
      · omega
      · rw [List.length_cons] at hj
        rw [es]
        rcases i with _ | i
        · rw [e0]; exact i2 j (by omega)
        · rw [es]; exact i1 i j (by omega) (by omega)
    · rcases i with _ | i
      · rw [e0]; omega
      · rw [es, ]
        rw [List.length_cons] at hi
        have := i2 i (by omega); omega

def AtIs (d : List R) (z : Int) (k : Nat) : Prop := k ≤ d.length ∧ (∀ i, i < k → (gr d i).2 < z) ∧ ∀ i, k ≤ i → i < d.length → z ≤ (gr d i).2
set_option maxHeartbeats 1600000 in
set_option maxRecDepth 100000 in
theorem bsearch_any (p : Option Addr) (c n : Nat) (d : List R) (z : Int) (w : World) (hn : n = d.length) (hp : SlR w p d) (hr : RiseH d) (hl : n ≤ 10000000000000) :
    Calls Tryz.prog 124 #[.slice p n c, .int .i64 z, .func (.func 125) #[] #[]] w fun e w' => ∃ (k : Nat) (b : Bool), e = .returned (.tuple #[.int .i64 (k : Nat), .bool b]) ∧ AtIs d z k ∧ Below w.heap.size w w' := by
  have HP := Lib.hid hp
  have HN := Lib.hid hn
  have HR := Lib.hid hr
  have hlI : (n : Int) ≤ 10000000000000 := by omega
  have HM := Lib.hid mcmp_any
  clear hp hn hr hl
  go_enter Tryz.func124, Tryz.ntmps124
  go_wp2
  go_loopw [9, 10] (fun iv jv wr => ∃ i j : Nat, i ≤ j ∧ j ≤ n ∧ iv = .int .i64 (i : Nat) ∧ jv = .int .i64 (j : Nat) ∧ Hid (Below w.heap.size w wr) ∧ Hid (∀ k, k < i → (gr d k).2 < z) ∧ Hid (∀ k, j ≤ k → k < d.length → z ≤ (gr d k).2)) (fun iv jv _ => (intOf jv).toNat - (intOf iv).toNat)
  case atStart => exact ⟨0, n, Nat.zero_le _, Nat.le_refl _, rfl, rfl, Below.refl _ _, fun k h => absurd h (by omega), fun k h1 h2 => by have := HN.out; omega⟩
  case round =>
    obtain ⟨i, j, hij, hj, rfl, rfl, HB, HL, HH⟩ := hrel
    rename World => wr
    by_cases hlt : i < j
    · have hltI : (i : Int) < j := by omega
      have hjI : (j : Int) ≤ n := by omega
      have hh1 : i ≤ (i + j) / 2 := by omega
      have hh2 : (i + j) / 2 < j := by omega
      obtain ⟨b, o, rfl, hc0, hc1⟩ := slr_at (HP.out.below HB.out) (show (i + j) / 2 < d.length by have := HN.out; omega)
      obtain ⟨x, hx⟩ : ∃ x, x = (gr d ((i + j) / 2)).1 := ⟨_, rfl⟩
      obtain ⟨y, hy⟩ : ∃ y, y = (gr d ((i + j) / 2)).2 := ⟨_, rfl⟩
      rw [← hx] at hc0
      rw [← hy] at hc1
      have HY : Hid (y = (gr d ((i + j) / 2)).2) := hy
      clear hx hy
      go_wp2_with fail
      refine (HM.out x y z wr).mono ?_
      rintro e w2 ⟨rfl, hb2⟩
      have HB2 := Lib.hid (bl_trans HB.out hb2)
      clear hb2 hc0 hc1
      by_cases hyz : y < z
      · have e1 : cmpI y z = -1 := by unfold cmpI; rw [if_pos hyz]
        rw [e1]
        have HL2 : Hid (∀ k, k < (i + j) / 2 + 1 → (gr d k).2 < z) := by
          intro k hk
          by_cases e : k = (i + j) / 2
          · rw [e, ← HY.out]; exact hyz
          · have h1 := HR.out k ((i + j) / 2) (by omega) (by have := HN.out; omega)
            rw [← HY.out] at h1; omega
        clear e1 hyz
        go_wp2
        go_roundw
        case rel => exact ⟨(i + j) / 2 + 1, j, by omega, hj, by go_num, rfl, HB2.out, HL2.out, HH.out⟩
        case measure => simp [intOf]; omega
      · have hc : 0 ≤ cmpI y z := by unfold cmpI; rw [if_neg hyz]; split <;> omega
        obtain ⟨q, hq⟩ : ∃ q, q = cmpI y z := ⟨_, rfl⟩
        rw [← hq] at hc ⊢
        have HH2 : Hid (∀ k, (i + j) / 2 ≤ k → k < d.length → z ≤ (gr d k).2) := by
          intro k hk hkd
          by_cases e : k = (i + j) / 2
          · rw [e, ← HY.out]; omega
          · have h1 := HR.out ((i + j) / 2) k (by omega) hkd
            rw [← HY.out] at h1; omega
        clear hyz hq
        go_wp2
        go_roundw
        case rel => exact ⟨i, (i + j) / 2, hh1, by omega, rfl, by go_num, HB2.out, HL.out, HH2.out⟩
        case measure => simp [intOf]; omega
    · have hji : j = i := by omega
      subst hji
      have HAT : Hid (AtIs d z j) := ⟨by have := HN.out; omega, HL.out, HH.out⟩
      by_cases hjn : j < n
      · have hjI : (j : Int) < n := by omega
        obtain ⟨b, o, rfl, hc0, hc1⟩ := slr_at (HP.out.below HB.out) (show j < d.length by have := HN.out; omega)
        obtain ⟨x, hx⟩ : ∃ x, x = (gr d j).1 := ⟨_, rfl⟩
        obtain ⟨y, hy⟩ : ∃ y, y = (gr d j).2 := ⟨_, rfl⟩
        rw [← hx] at hc0
        rw [← hy] at hc1
        clear hx hy hlt
        go_wp2_with fail
        refine (HM.out x y z wr).mono ?_
        rintro e w2 ⟨rfl, hb2⟩
        have HB2 := Lib.hid (bl_trans HB.out hb2)
        clear hb2 hc0 hc1
        obtain ⟨q, hq⟩ : ∃ q, q = cmpI y z := ⟨_, rfl⟩
        rw [← hq]
        clear hq
        go_wp2
        refine bodyPost_ret (v := .tuple #[.int .i64 (j : Nat), .bool (q == 0)]) (by simp [results, Tryz.f124, go_sem]) rfl ⟨j, q == 0, rfl, HAT.out, HB2.out⟩
      · have hjI : (n : Int) ≤ j := by omega
        clear hlt
        go_wp2
        refine bodyPost_ret (v := .tuple #[.int .i64 (j : Nat), .bool false]) (by simp [results, Tryz.f124, go_sem]) rfl ⟨j, false, rfl, HAT.out, HB.out⟩

theorem rf_low : ∀ {l : List R} {a : Int}, RF a l → (∀ i j, i < j → j < l.length → (gr l i).2 < (gr l j).1) ∧ (∀ i, i < l.length → a + 1 < (gr l i).1 ∧ (gr l i).1 ≤ (gr l i).2)
  | [], _, _ => ⟨fun i j _ h => by simp at h, fun i h => by simp at h⟩
  | r :: l, a, h => by
    obtain ⟨h1, h2, h3, h4⟩ := h
    obtain ⟨i1, i2⟩ := rf_low h4
    have e0 : gr (r :: l) 0 = r := rfl
    have es : ∀ k, gr (r :: l) (k + 1) = gr l k := fun k => rfl
    refine ⟨fun i j hij hj => ?_, fun i hi => ?_⟩
    · rcases j with _ | j
      · omega
      · rw [List.length_cons] at hj
        rw [es]
        rcases i with _ | i
        · rw [e0]; have := (i2 j (by omega)).1; omega
        · rw [es]; exact i1 i j (by omega) (by omega)
    · rcases i with _ | i
      · rw [e0]; omega
      · rw [es]
        rw [List.length_cons] at hi
        have := i2 i (by omega); omega
def Touch (d : List R) (r : R) : Prop := ∃ c, Cov d c ∧ r.1 ≤ c ∧ c ≤ r.2
theorem touch_iff {d : List R} {lo hi : Int} {k : Nat} (h : Rt d) (a : AtIs d lo k) : Touch d (lo, hi) ↔ k < d.length ∧ lo ≤ hi ∧ (gr d k).1 ≤ hi := by
  obtain ⟨l1, l2⟩ := rf_low h
  obtain ⟨a1, a2, a3⟩ := a
  constructor
  · rintro ⟨c, ⟨r, hr, h1, h2⟩, h3, h4⟩
    simp only at h3 h4
    obtain ⟨i, hi, rfl⟩ := mem_gr hr
    have hik : k ≤ i := by
      by_cases q : k ≤ i
      · exact q
      · have := a2 i (by omega); omega
    refine ⟨by omega, by omega, ?_⟩
    by_cases e : k = i
    · rw [e]; omega
    · have := l1 k i (by omega) hi
      have := l2 k (by omega)
      omega
  · rintro ⟨h1, h2, h3⟩
    have h4 := l2 k h1
    have h5 := a3 k (Nat.le_refl _) h1
    exact ⟨max lo (gr d k).1, ⟨gr d k, gr_mem h1, by omega, by omega⟩, by show lo ≤ _; omega, by show _ ≤ hi; omega⟩

theorem touch_cov {d : List R} {x : Int} : Touch d (x, x) ↔ Cov d x := by
  unfold Touch
  constructor
  · rintro ⟨c, h1, h2, h3⟩
    simp only at h2 h3
    have : c = x := by omega
    rw [← this]; exact h1
  · intro h; exact ⟨x, h, Int.le_refl _, Int.le_refl _⟩
set_option maxHeartbeats 1600000 in
set_option maxRecDepth 100000 in
theorem fhas_any (p : Option Addr) (c n : Nat) (d : List R) (z : Int) (w : World) (hn : n = d.length) (hp : SlR w p d) (hr : Rt d) (hl : n ≤ 10000000000000) :
    Calls Tryz.prog 81 #[.slice p n c, .int .i64 z] w fun e w' => e = .returned (.bool (decide (Cov d z))) ∧ Below w.heap.size w w' := by
  have HBS := Lib.hid (bsearch_any p c n d z w hn hp (rf_rise hr).1 hl)
  have HP := Lib.hid hp
  have HN := Lib.hid hn
  have HR := Lib.hid hr
  have hlI : (n : Int) ≤ 10000000000000 := by omega
  clear hp hn hr hl
  go_enter Tryz.func81, Tryz.ntmps81
  go_wp2_with fail
  refine HBS.out.mono ?_
  rintro e W2 ⟨k, b, rfl, hat, hb2⟩
  have HB2 := Lib.hid hb2
  have HP2 := Lib.hid (HP.out.below hb2)
  have HT := Lib.hid (touch_iff (hi := z) HR.out hat)
  clear hat hb2 HBS
  by_cases hk : k < n
  · have hkI : (k : Int) < n := by omega
    have hkD : decide ((k : Int) < n) = true := by simpa using hkI
    obtain ⟨bb, o, rfl, hc0, hc1⟩ := slr_at HP2.out (show k < d.length by have := HN.out; omega)
    obtain ⟨x, hx⟩ : ∃ x, x = (gr d k).1 := ⟨_, rfl⟩
    have HX0 : Hid (x = (gr d k).1) := hx
    rw [← hx] at hc0
    clear hx hc1
    have HKD : Hid (k < d.length) := by have := HN.out; show k < _; omega
    have HV : Hid (decide (x ≤ z) = decide (Cov d z)) := by
      show _ = _
      rw [decide_eq_decide, ← touch_cov, HT.out, ← HX0.out]
      exact ⟨fun q => ⟨HKD.out, Int.le_refl _, q⟩, fun q => q.2.2⟩
    go_wp2
    go_ret
    exact ⟨by show Ending.returned (Value.bool (decide (x ≤ z))) = _; rw [HV.out], HB2.out⟩
  · have hkD : decide ((k : Int) < n) = false := by simp; omega
    have hkD2 : decide (k < n) = false := by simpa using hk
    have HV : Hid (decide (Cov d z) = false) := by
      show _ = _
      rw [decide_eq_false_iff_not, ← touch_cov, HT.out]
      exact fun q => absurd q.1 (by have := HN.out; omega)
    clear hk
    go_wp2
    go_ret
    exact ⟨by show Ending.returned (Value.bool false) = _; rw [HV.out], HB2.out⟩
end Go.Proofs.YtglgfpapackcdaaGreat


namespace Go.Proofs.YtglgfpapackcdaaGreat
open Go.RowKit Tnr

set_option maxHeartbeats 800000 in
set_option maxRecDepth 100000 in
theorem fcmp_any (x y z : Int) (w : World) : Calls Tryz.prog 84 #[.agg #[.int .i64 x, .int .i64 y], .int .i64 z] w fun e w' => e = .returned (.int .i64 (cmpI x z)) ∧ Below w.heap.size w w' := by
  have HC : Hid (cmpI x z = if x < z then -1 else if z < x then 1 else 0) := rfl
  by_cases h1 : x < z
  · go_enter Tryz.func84, Tryz.ntmps84
    go_wp2
    go_ret
    exact ⟨by show Ending.returned (Value.int .i64 (-1)) = _; rw [HC.out, if_pos h1], bl_alloc _ _⟩
  · by_cases h2 : z < x
    · go_enter Tryz.func84, Tryz.ntmps84
      go_wp2
      go_ret
      exact ⟨by show Ending.returned (Value.int .i64 1) = _; rw [HC.out, if_neg (by omega), if_pos h2], bl_alloc _ _⟩
    · go_enter Tryz.func84, Tryz.ntmps84
      go_wp2
      go_ret
      exact ⟨by show Ending.returned (Value.int .i64 0) = _; rw [HC.out, if_neg (by omega), if_neg (by omega)], bl_alloc _ _⟩
def AtF (d : List R) (z : Int) (k : Nat) : Prop := k ≤ d.length ∧ (∀ i, i < k → (gr d i).1 < z) ∧ ∀ i, k ≤ i → i < d.length → z ≤ (gr d i).1
theorem atF_look {d : List R} {z : Int} {k : Nat} (hr : Rise d) (h : AtF d z k) : (k < d.length ∧ (gr d k).1 = z → look d z = some (gr d k).2) ∧ (¬ (k < d.length ∧ (gr d k).1 = z) → look d z = none) := by
  refine ⟨fun ⟨h1, h2⟩ => look_some hr h1 h2, fun hn => look_none fun i hi => ?_⟩
  obtain ⟨a1, a2, a3⟩ := h
  by_cases hik : i < k
  · have := a2 i hik; omega
  · by_cases e : i = k
    · subst e; exact fun e2 => hn ⟨hi, e2⟩
    · have h1 := hr k i (by omega) hi
      have h2 := a3 k (Nat.le_refl _) (by omega)
      omega
set_option maxHeartbeats 1600000 in
set_option maxRecDepth 100000 in
theorem fsearch_any (p : Option Addr) (c n : Nat) (d : List R) (z : Int) (w : World) (hn : n = d.length) (hp : SlR w p d) (hr : Rise d) (hl : n ≤ 10000000000000) :
    Calls Tryz.prog 83 #[.slice p n c, .int .i64 z, .func (.func 84) #[] #[]] w fun e w' => ∃ k : Nat, e = .returned (.tuple #[.int .i64 (k : Nat), .bool (decide (k < n ∧ (gr d k).1 = z))]) ∧ AtF d z k ∧ Below w.heap.size w w' := by
  have HP := Lib.hid hp
  have HN := Lib.hid hn
  have HR := Lib.hid hr
  have hlI : (n : Int) ≤ 10000000000000 := by omega
  have HM := Lib.hid fcmp_any
  clear hp hn hr hl
  go_enter Tryz.func83, Tryz.ntmps83
  go_wp2
  go_loopw [9, 10] (fun iv jv wr => ∃ i j : Nat, i ≤ j ∧ j ≤ n ∧ iv = .int .i64 (i : Nat) ∧ jv = .int .i64 (j : Nat) ∧ Hid (Below w.heap.size w wr) ∧ Hid (∀ k, k < i → (gr d k).1 < z) ∧ Hid (∀ k, j ≤ k → k < d.length → z ≤ (gr d k).1)) (fun iv jv _ => (intOf jv).toNat - (intOf iv).toNat)
  case atStart => exact ⟨0, n, Nat.zero_le _, Nat.le_refl _, rfl, rfl, Below.refl _ _, fun k h => absurd h (by omega), fun k h1 h2 => by have := HN.out; omega⟩
  case round =>
    obtain ⟨i, j, hij, hj, rfl, rfl, HB, HL, HH⟩ := hrel
    rename World => wr
    by_cases hlt : i < j
    · have hltI : (i : Int) < j := by omega
      have hjI : (j : Int) ≤ n := by omega
      have hh1 : i ≤ (i + j) / 2 := by omega
      have hh2 : (i + j) / 2 < j := by omega
      obtain ⟨b, o, rfl, hc0, hc1⟩ := slr_at (HP.out.below HB.out) (show (i + j) / 2 < d.length by have := HN.out; omega)
      obtain ⟨x, hx⟩ : ∃ x, x = (gr d ((i + j) / 2)).1 := ⟨_, rfl⟩
      obtain ⟨y, hy⟩ : ∃ y, y = (gr d ((i + j) / 2)).2 := ⟨_, rfl⟩
      rw [← hx] at hc0
      rw [← hy] at hc1
      have HY : Hid (x = (gr d ((i + j) / 2)).1) := hx
      clear hx hy
      go_wp2_with fail
      refine (HM.out x y z wr).mono ?_
      rintro e w2 ⟨rfl, hb2⟩
      have HB2 := Lib.hid (bl_trans HB.out hb2)
      clear hb2 hc0 hc1
      by_cases hyz : x < z
      · have e1 : cmpI x z = -1 := by unfold cmpI; rw [if_pos hyz]
        rw [e1]
        have HL2 : Hid (∀ k, k < (i + j) / 2 + 1 → (gr d k).1 < z) := by
          intro k hk
          by_cases e : k = (i + j) / 2
          · rw [e, ← HY.out]; exact hyz
          · have h1 := HR.out k ((i + j) / 2) (by omega) (by have := HN.out; omega)
            rw [← HY.out] at h1; omega
        clear e1 hyz
        go_wp2
        go_roundw
        case rel => exact ⟨(i + j) / 2 + 1, j, by omega, hj, by go_num, rfl, HB2.out, HL2.out, HH.out⟩
        case measure => simp [intOf]; omega
      · have hc : 0 ≤ cmpI x z := by unfold cmpI; rw [if_neg hyz]; split <;> omega
        obtain ⟨q, hq⟩ : ∃ q, q = cmpI x z := ⟨_, rfl⟩
        rw [← hq] at hc ⊢
        have HH2 : Hid (∀ k, (i + j) / 2 ≤ k → k < d.length → z ≤ (gr d k).1) := by
          intro k hk hkd
          by_cases e : k = (i + j) / 2
          · rw [e, ← HY.out]; omega
          · have h1 := HR.out ((i + j) / 2) k (by omega) hkd
            rw [← HY.out] at h1; omega
        clear hyz hq
        go_wp2
        go_roundw
        case rel => exact ⟨i, (i + j) / 2, hh1, by omega, rfl, by go_num, HB2.out, HL.out, HH2.out⟩
        case measure => simp [intOf]; omega
    · have hji : j = i := by omega
      subst hji
      have HAT : Hid (AtF d z j) := ⟨by have := HN.out; omega, HL.out, HH.out⟩
      by_cases hjn : j < n
      · have hjI : (j : Int) < n := by omega
        obtain ⟨b, o, rfl, hc0, hc1⟩ := slr_at (HP.out.below HB.out) (show j < d.length by have := HN.out; omega)
        obtain ⟨x, hx⟩ : ∃ x, x = (gr d j).1 := ⟨_, rfl⟩
        obtain ⟨y, hy⟩ : ∃ y, y = (gr d j).2 := ⟨_, rfl⟩
        rw [← hx] at hc0
        rw [← hy] at hc1
        have HY : Hid (x = (gr d j).1) := hx
        clear hx hy hlt
        go_wp2_with fail
        refine (HM.out x y z wr).mono ?_
        rintro e w2 ⟨rfl, hb2⟩
        have HB2 := Lib.hid (bl_trans HB.out hb2)
        clear hb2 hc0 hc1
        obtain ⟨q, hq⟩ : ∃ q, q = cmpI x z := ⟨_, rfl⟩
        have HE : Hid ((q == 0) = decide (j < n ∧ (gr d j).1 = z)) := by
          show _ = _
          rw [← HY.out, hq]
          have hjn2 : j < n := by omega
          by_cases e : x = z
          · rw [decide_eq_true (show j < n ∧ x = z from ⟨hjn2, e⟩)]; unfold cmpI; rw [if_neg (by omega), if_neg (by omega)]; rfl
          · rw [decide_eq_false (fun h => e h.2)]; unfold cmpI; split
            · rfl
            · rw [if_pos (by omega)]; rfl
        rw [← hq]
        clear hq
        go_wp2
        refine bodyPost_ret (v := .tuple #[.int .i64 (j : Nat), .bool (q == 0)]) (by simp [results, Tryz.f83, go_sem]) rfl ⟨j, by rw [← HE.out], HAT.out, HB2.out⟩
      · have hjI : (n : Int) ≤ j := by omega
        have HE : Hid (decide (j < n ∧ (gr d j).1 = z) = false) := decide_eq_false (fun h => hjn h.1)
        clear hlt
        go_wp2
        refine bodyPost_ret (v := .tuple #[.int .i64 (j : Nat), .bool false]) (by simp [results, Tryz.f83, go_sem]) rfl ⟨j, by rw [HE.out], HAT.out, HB.out⟩


set_option maxHeartbeats 1600000 in
set_option maxRecDepth 100000 in
theorem ffold_any (pf pp : Option Addr) (cf cp n m : Nat) (F : List R) (c : Int) (w : World) (hn : n = F.length) (hp : SlR w pf F) (hs : Rise F) (hl : n ≤ 10000000000000) :
    Calls Tryz.prog 56 #[.agg #[.slice pf n cf, .slice pp m cp], .int .i64 c] w fun e w' => e = .returned (.tuple #[.int .i64 ((look F c).getD 0), .bool (look F c).isSome]) ∧ Below w.heap.size w w' := by
  have hb1 : Below w.heap.size w (w.alloc (.cells #[.slice pf n cf, .slice pp m cp] 69)) := bl_alloc _ _
  have hbx : (w.alloc (.cells #[.slice pf n cf, .slice pp m cp] 69)).cell? ⟨w.heap.size, 0, none⟩ = some (.slice pf n cf) := by rw [World.cell?_alloc_at _ _ _ _ rfl]; rfl
  have HBX := Lib.hid hbx
  have HSR := Lib.hid (fsearch_any pf cf n F c (w.alloc (.cells #[.slice pf n cf, .slice pp m cp] 69)) hn (hp.below hb1) hs hl)
  have HP := Lib.hid (hp.below hb1)
  have HN := Lib.hid hn
  have HS := Lib.hid hs
  have HB1 := Lib.hid hb1
  have hnI : (n : Int) ≤ 10000000000000 := by omega
  clear hn hp hs hl hb1 hbx
  go_enter Tryz.func56, Tryz.ntmps56
  go_wp2_with fail
  refine HSR.out.mono ?_
  rintro e w2 ⟨k, rfl, hat, hb2⟩
  obtain ⟨hl1, hl2⟩ := atF_look HS.out hat
  rw [← HN.out] at hl1 hl2
  have HB2 := Lib.hid (bl_trans HB1.out hb2)
  have hbx2 : w2.cell? ⟨w.heap.size, 0, none⟩ = some (.slice pf n cf) := by rw [hb2.cell (World.block_lt_of_cell? _ _ HBX.out)]; exact HBX.out
  have HP2 := Lib.hid (HP.out.below hb2)
  clear hat hb2 HSR HP HBX HB1
  by_cases hk : k < n ∧ (gr F k).1 = c
  · have e1 := hl1 hk
    have hkI : (k : Int) < n := by omega
    have hD : decide (k < n ∧ (gr F k).1 = c) = true := decide_eq_true hk
    obtain ⟨b, o, rfl, hc1, hc2⟩ := slr_at HP2.out (show k < F.length by rw [← HN.out]; exact hk.1)
    obtain ⟨t, ht⟩ : ∃ x, x = (gr F k).2 := ⟨_, rfl⟩
    rw [← ht] at hc2 e1
    have E1 := Lib.hid e1
    rw [hD]
    clear hD hl1 hl2 e1 hk ht hc1
    go_wp2
    refine bodyPost_ret (v := .tuple #[.int .i64 t, .bool true]) (by simp [results, Tryz.f56, go_sem]) rfl ⟨by rw [E1.out]; rfl, HB2.out⟩
  · have e1 := hl2 hk
    have hD : decide (k < n ∧ (gr F k).1 = c) = false := decide_eq_false hk
    have E1 := Lib.hid e1
    rw [hD]
    clear hD hl1 hl2 e1 hk
    go_wp2
    refine bodyPost_ret (v := .tuple #[.int .i64 0, .bool false]) (by simp [results, Tryz.f56, go_sem]) rfl ⟨by rw [E1.out]; rfl, HB2.out⟩
end Go.Proofs.YtglgfpapackcdaaGreat

