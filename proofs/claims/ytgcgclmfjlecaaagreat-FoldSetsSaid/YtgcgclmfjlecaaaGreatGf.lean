/- fold's searches: has (does a right set have a number?), the search of a fold by its From. -/
import Derived.Test.YtgcgclmfjlecaaaGreatRl
import Derived.Test.YtgcgclmfjlecaaaGreatGc

namespace Go.Proofs.YtgcgclmfjlecaaaGreat
open Go.RowKit Tnr

def cmpI (y z : Int) : Int := if y < z then -1 else if z < y then 1 else 0
set_option maxHeartbeats 800000 in
set_option maxRecDepth 100000 in
theorem mcmp_any (x y z : Int) (w : World) : Calls Tryz.prog 98 #[.agg #[.int .i64 x, .int .i64 y], .int .i64 z] w fun e w' => e = .returned (.int .i64 (cmpI y z)) ∧ Below w.heap.size w w' := by
  have HC : Hid (cmpI y z = if y < z then -1 else if z < y then 1 else 0) := rfl
  by_cases h1 : y < z
  · go_enter Tryz.func98, Tryz.ntmps98
    go_wp2
    go_ret
    exact ⟨by show Ending.returned (Value.int .i64 (-1)) = _; rw [HC.out, if_pos h1], bl_alloc _ _⟩
  · by_cases h2 : z < y
    · go_enter Tryz.func98, Tryz.ntmps98
      go_wp2
      go_ret
      exact ⟨by show Ending.returned (Value.int .i64 1) = _; rw [HC.out, if_neg (by omega), if_pos h2], bl_alloc _ _⟩
    · go_enter Tryz.func98, Tryz.ntmps98
      go_wp2
      go_ret
      exact ⟨by show Ending.returned (Value.int .i64 0) = _; rw [HC.out, if_neg (by omega), if_neg (by omega)], bl_alloc _ _⟩

/-- the last ones rise. -/
def RiseH (d : List R) : Prop := ∀ i j, i < j → j < d.length → (gr d i).2 < (gr d j).2
theorem rf_rise : ∀ {l : List R} {a : Int}, RF a l → RiseH l ∧ ∀ i, i < l.length → a < (gr l i).2
  | [], _, _ => ⟨fun i j _ h => by simp at h, fun i h => by simp at h⟩
  | r :: l, a, h => by
    obtain ⟨h1, h2, h3, h4⟩ := h
    obtain ⟨i1, i2⟩ := rf_rise h4
    have e0 : gr (r :: l) 0 = r := rfl
    have es : ∀ k, gr (r :: l) (k + 1) = gr l k := fun k => rfl
    refine ⟨fun i j hij hj => ?_, fun i hi => ?_⟩
    · rcases j with _ | j
      · omega
      · rw [List.length_cons] at hj
        rw [es]
        rcases i with _ | i
        · rw [e0]; exact i2 j (by omega)
        · rw [es]; exact i1 i j (by omega) (by omega)
    · rcases i with _ | i
      · rw [e0]; omega
      · rw [es, ]
        rw [List.length_cons] at hi
        have := i2 i (by omega); omega

def AtIs (d : List R) (z : Int) (k : Nat) : Prop := k ≤ d.length ∧ (∀ i, i < k → (gr d i).2 < z) ∧ ∀ i, k ≤ i → i < d.length → z ≤ (gr d i).2
set_option maxHeartbeats 1600000 in
set_option maxRecDepth 100000 in
theorem bsearch_any (p : Option Addr) (c n : Nat) (d : List R) (z : Int) (w : World) (hn : n = d.length) (hp : SlR w p d) (hr : RiseH d) (hl : n ≤ 10000000000000) :
    Calls Tryz.prog 97 #[.slice p n c, .int .i64 z, .func (.func 98) #[] #[]] w fun e w' => ∃ (k : Nat) (b : Bool), e = .returned (.tuple #[.int .i64 (k : Nat), .bool b]) ∧ AtIs d z k ∧ Below w.heap.size w w' := by
  have HP := Lib.hid hp
  have HN := Lib.hid hn
  have HR := Lib.hid hr
  have hlI : (n : Int) ≤ 10000000000000 := by omega
  have HM := Lib.hid mcmp_any
  clear hp hn hr hl
  go_enter Tryz.func97, Tryz.ntmps97
  go_wp2
  go_loopw [9, 10] (fun iv jv wr => ∃ i j : Nat, i ≤ j ∧ j ≤ n ∧ iv = .int .i64 (i : Nat) ∧ jv = .int .i64 (j : Nat) ∧ Hid (Below w.heap.size w wr) ∧ Hid (∀ k, k < i → (gr d k).2 < z) ∧ Hid (∀ k, j ≤ k → k < d.length → z ≤ (gr d k).2)) (fun iv jv _ => (intOf jv).toNat - (intOf iv).toNat)
  case atStart => exact ⟨0, n, Nat.zero_le _, Nat.le_refl _, rfl, rfl, Below.refl _ _, fun k h => absurd h (by omega), fun k h1 h2 => by have := HN.out; omega⟩
  case round =>
    obtain ⟨i, j, hij, hj, rfl, rfl, HB, HL, HH⟩ := hrel
    rename World => wr
    by_cases hlt : i < j
    · have hltI : (i : Int) < j := by omega
      have hjI : (j : Int) ≤ n := by omega
      have hh1 : i ≤ (i + j) / 2 := by omega
      have hh2 : (i + j) / 2 < j := by omega
      obtain ⟨b, o, rfl, hc0, hc1⟩ := slr_at (HP.out.below HB.out) (show (i + j) / 2 < d.length by have := HN.out; omega)
      obtain ⟨x, hx⟩ : ∃ x, x = (gr d ((i + j) / 2)).1 := ⟨_, rfl⟩
      obtain ⟨y, hy⟩ : ∃ y, y = (gr d ((i + j) / 2)).2 := ⟨_, rfl⟩
      rw [← hx] at hc0
      rw [← hy] at hc1
      have HY : Hid (y = (gr d ((i + j) / 2)).2) := hy
      clear hx hy
      go_wp2_with fail
      refine (HM.out x y z wr).mono ?_
      rintro e w2 ⟨rfl, hb2⟩
      have HB2 := Lib.hid (bl_trans HB.out hb2)
      clear hb2 hc0 hc1
      by_cases hyz : y < z
      · have e1 : cmpI y z = -1 := by unfold cmpI; rw [if_pos hyz]
        rw [e1]
        have HL2 : Hid (∀ k, k < (i + j) / 2 + 1 → (gr d k).2 < z) := by
          intro k hk
          by_cases e : k = (i + j) / 2
          · rw [e, ← HY.out]; exact hyz
          · have h1 := HR.out k ((i + j) / 2) (by omega) (by have := HN.out; omega)
            rw [← HY.out] at h1; omega
        clear e1 hyz
        go_wp2
        go_roundw
        case rel => exact ⟨(i + j) / 2 + 1, j, by omega, hj, by go_num, rfl, HB2.out, HL2.out, HH.out⟩
        case measure => simp [intOf]; omega
      · have hc : 0 ≤ cmpI y z := by unfold cmpI; rw [if_neg hyz]; split <;> omega
        obtain ⟨q, hq⟩ : ∃ q, q = cmpI y z := ⟨_, rfl⟩
        rw [← hq] at hc ⊢
        have HH2 : Hid (∀ k, (i + j) / 2 ≤ k → k < d.length → z ≤ (gr d k).2) := by
          intro k hk hkd
          by_cases e : k = (i + j) / 2
          · rw [e, ← HY.out]; omega
          · have h1 := HR.out ((i + j) / 2) k (by omega) hkd
            rw [← HY.out] at h1; omega
        clear hyz hq
        go_wp2
        go_roundw
        case rel => exact ⟨i, (i + j) / 2, hh1, by omega, rfl, by go_num, HB2.out, HL.out, HH2.out⟩
        case measure => simp [intOf]; omega
    · have hji : j = i := by omega
      subst hji
      have HAT : Hid (AtIs d z j) := ⟨by have := HN.out; omega, HL.out, HH.out⟩
      by_cases hjn : j < n
      · have hjI : (j : Int) < n := by omega
        obtain ⟨b, o, rfl, hc0, hc1⟩ := slr_at (HP.out.below HB.out) (show j < d.length by have := HN.out; omega)
        obtain ⟨x, hx⟩ : ∃ x, x = (gr d j).1 := ⟨_, rfl⟩
        obtain ⟨y, hy⟩ : ∃ y, y = (gr d j).2 := ⟨_, rfl⟩
        rw [← hx] at hc0
        rw [← hy] at hc1
        clear hx hy hlt
        go_wp2_with fail
        refine (HM.out x y z wr).mono ?_
        rintro e w2 ⟨rfl, hb2⟩
        have HB2 := Lib.hid (bl_trans HB.out hb2)
        clear hb2 hc0 hc1
        obtain ⟨q, hq⟩ : ∃ q, q = cmpI y z := ⟨_, rfl⟩
        rw [← hq]
        clear hq
        go_wp2
        refine bodyPost_ret (v := .tuple #[.int .i64 (j : Nat), .bool (q == 0)]) (by simp [results, Tryz.f97, go_sem]) rfl ⟨j, q == 0, rfl, HAT.out, HB2.out⟩
      · have hjI : (n : Int) ≤ j := by omega
        clear hlt
        go_wp2
        refine bodyPost_ret (v := .tuple #[.int .i64 (j : Nat), .bool false]) (by simp [results, Tryz.f97, go_sem]) rfl ⟨j, false, rfl, HAT.out, HB.out⟩

theorem rf_low : ∀ {l : List R} {a : Int}, RF a l → (∀ i j, i < j → j < l.length → (gr l i).2 < (gr l j).1) ∧ (∀ i, i < l.length → a + 1 < (gr l i).1 ∧ (gr l i).1 ≤ (gr l i).2)
  | [], _, _ => ⟨fun i j _ h => by simp at h, fun i h => by simp at h⟩
  | r :: l, a, h => by
    obtain ⟨h1, h2, h3, h4⟩ := h
    obtain ⟨i1, i2⟩ := rf_low h4
    have e0 : gr (r :: l) 0 = r := rfl
    have es : ∀ k, gr (r :: l) (k + 1) = gr l k := fun k => rfl
    refine ⟨fun i j hij hj => ?_, fun i hi => ?_⟩
    · rcases j with _ | j
      · omega
      · rw [List.length_cons] at hj
        rw [es]
        rcases i with _ | i
        · rw [e0]; have := (i2 j (by omega)).1; omega
        · rw [es]; exact i1 i j (by omega) (by omega)
    · rcases i with _ | i
      · rw [e0]; omega
      · rw [es]
        rw [List.length_cons] at hi
        have := i2 i (by omega); omega
def Touch (d : List R) (r : R) : Prop := ∃ c, Cov d c ∧ r.1 ≤ c ∧ c ≤ r.2
theorem touch_iff {d : List R} {lo hi : Int} {k : Nat} (h : Rt d) (a : AtIs d lo k) : Touch d (lo, hi) ↔ k < d.length ∧ lo ≤ hi ∧ (gr d k).1 ≤ hi := by
  obtain ⟨l1, l2⟩ := rf_low h
  obtain ⟨a1, a2, a3⟩ := a
  constructor
  · rintro ⟨c, ⟨r, hr, h1, h2⟩, h3, h4⟩
    simp only at h3 h4
    obtain ⟨i, hi, rfl⟩ := mem_gr hr
    have hik : k ≤ i := by
      by_cases q : k ≤ i
      · exact q
      · have := a2 i (by omega); omega
    refine ⟨by omega, by omega, ?_⟩
    by_cases e : k = i
    · rw [e]; omega
    · have := l1 k i (by omega) hi
      have := l2 k (by omega)
      omega
  · rintro ⟨h1, h2, h3⟩
    have h4 := l2 k h1
    have h5 := a3 k (Nat.le_refl _) h1
    exact ⟨max lo (gr d k).1, ⟨gr d k, gr_mem h1, by omega, by omega⟩, by show lo ≤ _; omega, by show _ ≤ hi; omega⟩

theorem touch_cov {d : List R} {x : Int} : Touch d (x, x) ↔ Cov d x := by
  unfold Touch
  constructor
  · rintro ⟨c, h1, h2, h3⟩
    simp only at h2 h3
    have : c = x := by omega
    rw [← this]; exact h1
  · intro h; exact ⟨x, h, Int.le_refl _, Int.le_refl _⟩
set_option maxHeartbeats 1600000 in
set_option maxRecDepth 100000 in
theorem fhas_any (p : Option Addr) (c n : Nat) (d : List R) (z : Int) (w : World) (hn : n = d.length) (hp : SlR w p d) (hr : Rt d) (hl : n ≤ 10000000000000) :
    Calls Tryz.prog 59 #[.slice p n c, .int .i64 z] w fun e w' => e = .returned (.bool (decide (Cov d z))) ∧ Below w.heap.size w w' := by
  have HBS := Lib.hid (bsearch_any p c n d z w hn hp (rf_rise hr).1 hl)
  have HP := Lib.hid hp
  have HN := Lib.hid hn
  have HR := Lib.hid hr
  have hlI : (n : Int) ≤ 10000000000000 := by omega
  clear hp hn hr hl
  go_enter Tryz.func59, Tryz.ntmps59
  go_wp2_with fail
  refine HBS.out.mono ?_
  rintro e W2 ⟨k, b, rfl, hat, hb2⟩
  have HB2 := Lib.hid hb2
  have HP2 := Lib.hid (HP.out.below hb2)
  have HT := Lib.hid (touch_iff (hi := z) HR.out hat)
  clear hat hb2 HBS
  by_cases hk : k < n
  · have hkI : (k : Int) < n := by omega
    have hkD : decide ((k : Int) < n) = true := by simpa using hkI
    obtain ⟨bb, o, rfl, hc0, hc1⟩ := slr_at HP2.out (show k < d.length by have := HN.out; omega)
    obtain ⟨x, hx⟩ : ∃ x, x = (gr d k).1 := ⟨_, rfl⟩
    have HX0 : Hid (x = (gr d k).1) := hx
    rw [← hx] at hc0
    clear hx hc1
    have HKD : Hid (k < d.length) := by have := HN.out; show k < _; omega
    have HV : Hid (decide (x ≤ z) = decide (Cov d z)) := by
      show _ = _
      rw [decide_eq_decide, ← touch_cov, HT.out, ← HX0.out]
      exact ⟨fun q => ⟨HKD.out, Int.le_refl _, q⟩, fun q => q.2.2⟩
    go_wp2
    go_ret
    exact ⟨by show Ending.returned (Value.bool (decide (x ≤ z))) = _; rw [HV.out], HB2.out⟩
  · have hkD : decide ((k : Int) < n) = false := by simp; omega
    have hkD2 : decide (k < n) = false := by simpa using hk
    have HV : Hid (decide (Cov d z) = false) := by
      show _ = _
      rw [decide_eq_false_iff_not, ← touch_cov, HT.out]
      exact fun q => absurd q.1 (by have := HN.out; omega)
    clear hk
    go_wp2
    go_ret
    exact ⟨by show Ending.returned (Value.bool false) = _; rw [HV.out], HB2.out⟩
end Go.Proofs.YtgcgclmfjlecaaaGreat
