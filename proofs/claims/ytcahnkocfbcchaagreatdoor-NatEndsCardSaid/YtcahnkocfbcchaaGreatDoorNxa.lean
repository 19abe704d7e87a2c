/- The walk of the document's Pow at small numbers and powers. -/
import Derived.Test.YtcahnkocfbcchaaGreatDoorNi
import Derived.Test.YtcahnkocfbcchaaGreatDoorWo
import Derived.BigQuiet

namespace Go.Proofs.YtcahnkocfbcchaaGreatDoor
open Go.RowKit Tnd

set_option maxRecDepth 100000 in
theorem rpow_neg (p : Option Addr) (l c : Nat) (n : Int) (w : World) (hn : n < 0) :
    Calls Tryz.prog 25 #[.agg #[.slice p l c], .int .i64 n] w fun e w' => e = .returned (.tuple #[.agg #[.slice none 0 0], .int .i64 2]) ∧ Below w.heap.size w w' := by
  obtain ⟨w0, hw0⟩ : ∃ w0, w0 = (w.alloc (.cells #[.slice p l c] 24)).alloc (.cells #[.slice none 0 0] 24) := ⟨_, rfl⟩
  have hB0 : Below w.heap.size w w0 := by subst hw0; exact ((Below.refl _ _).alloc (Nat.le_refl _) _).alloc (by simp) _
  have hR0 : w0.heap[w.heap.size + 1]? = some (.cells #[.slice none 0 0] 24 (0, 0)) := by
    subst hw0
    have h := heap_alloc_new (w.alloc (.cells #[.slice p l c] 24)) (.cells #[.slice none 0 0] 24)
    simpa using h
  have hcr := cell_of_one hR0
  have hfr := free_of_one hR0
  have HB0 := Lib.hid hB0
  have HW0 := Lib.hid hw0
  clear hB0 hR0 hw0
  go_enter Tryz.func25, Tryz.ntmps25
  go_wp2_with (rw [← HW0.out])
  refine bodyPost_ret (v := .tuple #[.agg #[.slice none 0 0], .int .i64 2]) (by simp [results, Tryz.results25, go_sem, hcr]) rfl ?_
  exact ⟨rfl, HB0.out.setCell (by simp) _⟩

def kbits : Nat := 4000
theorem kbits_eq : kbits = 4000 := rfl
theorem pow_small (a k n : Nat) (ha : a < 2 ^ (32 * k)) : a ^ n < 2 ^ (32 * k * n) ∨ n = 0 := by
  by_cases h0 : n = 0
  · exact .inr h0
  · left; rw [Nat.pow_mul]; exact Nat.pow_lt_pow_left ha h0
theorem row_one {N : List Nat} {x : Nat} (hd : Digs 10 N) (hr : RightL N) (hv : nv 10 N = x) : (N.length = 0 ↔ x = 0) ∧ (N.length = 1 → gd N 0 = x) := by
  match N, hd, hr, hv with
  | [], _, _, hv => exact ⟨by simp [nv] at hv; simp [hv.symm], by simp⟩
  | d :: L, _, hr, hv =>
    have h := right_ge 10 (d :: L) hr (by simp)
    have h1 : 0 < 10 ^ ((d :: L).length - 1) := Nat.pow_pos (by omega)
    refine ⟨by simp; omega, fun h2 => ?_⟩
    have : L = [] := by simpa using h2
    subst this
    simpa [nv, gd] using hv

set_option maxHeartbeats 1600000 in
set_option maxRecDepth 100000 in
theorem rpow_pos (p : Option Addr) (c : Nat) (l : List Nat) (n : Nat) (z : Int) (hz : z = (n : Nat)) (w : World) (hs : Sl w .u32 p l) (hd : Digs 4294967296 l) (hl : l.length ≤ 3) (hn : n ≤ 40) :
    Calls Tryz.prog 25 #[.agg #[.slice p l.length c], .int .i64 z] w fun e w' => ∃ v, e = .returned (.tuple #[v, .int .i64 0]) ∧ FNat w' w.heap.size v (nv 4294967296 l ^ n) ∧ Below w.heap.size w w' := by
  obtain ⟨w0, hw0⟩ : ∃ w0, w0 = (w.alloc (.cells #[.slice p l.length c] 24)).alloc (.cells #[.slice none 0 0] 24) := ⟨_, rfl⟩
  obtain ⟨nb, hnb⟩ : ∃ nb, nb = w.heap.size + 1 := ⟨_, rfl⟩
  have hs0 : w0.heap.size = nb + 1 := by subst hw0; simp [hnb]
  have hP0 : w0.heap[w.heap.size]? = some (.cells #[.slice p l.length c] 24 (0, 0)) := by
    subst hw0
    rw [Below.heap_alloc _ _ _ (by simp)]; exact heap_alloc_new w _
  have hR0 : w0.heap[nb]? = some (.cells #[.slice none 0 0] 24 (0, 0)) := by
    have h := heap_alloc_new (w.alloc (.cells #[.slice p l.length c] 24)) (.cells #[.slice none 0 0] 24)
    subst hw0; subst hnb
    simpa using h
  have hB0 : Below w.heap.size w w0 := by subst hw0; exact ((Below.refl _ _).alloc (Nat.le_refl _) _).alloc (by simp) _
  have hsl : Sl w0 .u32 p l := by
    rcases hs with h | ⟨b, off, h1, h2⟩
    · exact .inl h
    · refine .inr ⟨b, off, h1, fun i hi => ?_⟩
      have h3 := World.block_lt_of_cell? w _ (h2 i hi)
      rw [hB0.cell (by simpa using h3)]; exact h2 i hi
  have HIN := Lib.hid (in_any p c l w0 hsl hd (by omega))
  have hX := nv_lt32 l hd
  have HX : Hid (nv 4294967296 l < 2 ^ 96) := Lib.hid (Nat.lt_of_lt_of_le hX (Nat.pow_le_pow_right (by omega) (by omega)))
  have HBIG := Lib.hid (small_big (nv 4294967296 l) l.length n (by rw [show (4294967296 : Nat) = 2 ^ 32 from rfl, ← Nat.pow_mul]; exact hX) (by have := Nat.mul_le_mul hl hn; omega))
  have HPS : Hid (∀ k, k ≤ n → nv 4294967296 l ^ k < 2 ^ kbits) := Lib.hid fun k hk => by
    rcases pow_small (nv 4294967296 l) l.length k hX with h | h
    · exact Nat.lt_of_lt_of_le h (Nat.pow_le_pow_right (by omega) (by have := Nat.mul_le_mul (Nat.mul_le_mul_left 32 hl) (show k ≤ 40 by omega); have := kbits_eq; omega))
    · subst h; rw [Nat.pow_zero]; exact Nat.one_lt_two_pow (by have := kbits_eq; omega)
  have hcp := cell_of_one hP0
  have HB0 := Lib.hid hB0
  have HR0 := Lib.hid hR0
  have HS0 := Lib.hid hs0
  have HW0 := Lib.hid hw0
  have HNB := Lib.hid hnb
  have E1 : Hid (w.heap.size + 1 = nb) := hnb.symm
  have hn0 : ¬ z < 0 := by omega
  have hn1 : ¬ (64000 : Int) ≤ z := by omega
  have HZ := Lib.hid (And.intro hz hn)
  clear hz hn
  generalize hx : nv 4294967296 l = X at *
  clear hP0 hB0 hR0 hs0 hw0 hsl hs hd hX hx hnb hl
  go_enter Tryz.func25, Tryz.ntmps25
  go_wp2_with (rw [← HW0.out])
  try rw [← HW0.out]
  try rw [E1.out]
  refine HIN.out.mono ?_
  rintro e w1 ⟨q, qc, N, rfl, hdr1, hb1⟩
  obtain ⟨ho1, hd1, hr1, hv1⟩ := hdr1
  obtain ⟨q', c', e1, _, _, hn2, hs1, _⟩ := own_form ho1
  simp only [Value.slice.injEq, true_and] at e1
  obtain ⟨rfl, rfl⟩ := e1
  have hro := row_one hd1 hr1 hv1
  have hNl : N.length ≤ 96 := dlen hr1 hv1 HX.out
  have HOB := Lib.hid hb1
  have HO1 := Lib.hid ho1
  have HD1 := Lib.hid (And.intro hd1 (And.intro hr1 hv1))
  have HN2 := Lib.hid hn2
  have HS1 := Lib.hid hs1
  have HRO := Lib.hid hro
  clear hb1 ho1 hd1 hr1 hv1 hn2 hs1 hro HIN
  have fin : ∀ (wr : World) (q2 : Option Addr) (qc2 : Nat) (M : List Nat) (x : Nat), x < tooBig → x < 2 ^ kbits → Below w0.heap.size w0 wr → DRow wr w0.heap.size q2 qc2 M x → Calls Tryz.prog 36 #[.slice q2 M.length qc2] wr fun e w' => ∃ (pa : Option Addr) (ca : Nat) (L : List Nat), e = .returned (.agg #[.slice pa L.length ca]) ∧ L.length ≤ 2000 ∧ FNat w' wr.heap.size (.agg #[.slice pa L.length ca]) x ∧ Below wr.heap.size wr w' := by
    intro wr q2 qc2 M x hx1 hx2 hb hdr
    obtain ⟨ho, hd, hr, hv⟩ := hdr
    obtain ⟨q', c', e1, _, _, hn2, hs1, _⟩ := own_form ho
    simp only [Value.slice.injEq, true_and] at e1
    obtain ⟨rfl, rfl⟩ := e1
    refine (out_any q2 qc2 M wr hs1 hn2 hd hr (by have := dlen hr hv hx2; have := kbits_eq; omega)).mono ?_
    rintro e w' ⟨v, rfl, hf, hb'⟩
    rw [hv] at hf
    obtain ⟨pa, ca, L, rfl, ho', hd', hr', hv'⟩ := hf
    refine ⟨pa, ca, L, rfl, ?_, ⟨pa, ca, L, rfl, ho', hd', hr', hv'⟩, hb'⟩
    by_cases h : 2000 < L.length
    · have := big_of_len hr' h; omega
    · omega
  have FIN := Lib.hid fin
  clear fin
  obtain ⟨m, hm⟩ : ∃ m, m = N.length := ⟨_, rfl⟩
  rw [← hm]
  have HM := Lib.hid (And.intro hm (And.intro hNl hn0))
  have hcase : z = 0 ∨ ((0 : Int) < z ∧ m = 0) ∨ ((0 : Int) < z ∧ m = 1 ∧ gd N 0 = 1) ∨ ((0 : Int) < z ∧ m = 1 ∧ ¬ gd N 0 = 1) ∨ ((0 : Int) < z ∧ 2 ≤ m) := by omega
  clear hm hNl hn0
  rcases hcase with rfl | ⟨h1, rfl⟩ | ⟨h1, rfl, h2⟩ | ⟨h1, rfl, h2⟩ | ⟨h1, h2⟩
  · go_wp2_with fail
    have hD1 : DRow (w1.alloc (.cells #[.int .u8 1] 5)) w1.heap.size (some ⟨w1.heap.size, 0, none⟩) 1 [1] (X ^ 0) := by
      refine ⟨?_, ?_, ?_, ?_⟩
      · have h := World.ownsRow_lit (base := w1.heap.size) (e := 5) (size := 1) w1 #[.int .u8 1] 1 (by omega) (by simp only [maxLen]; omega) (by simp)
        unfold Own
        simpa using h
      · intro x hx; simp only [List.mem_singleton] at hx; omega
      · simp [RightL]
      · simp [nv]
    have HD := Lib.hid hD1
    clear hD1
    go_loopw [7, 8] (fun v iv wr => ∃ (k : Nat) (q2 : Option Addr) (qc2 : Nat) (M : List Nat), k ≤ n ∧ iv = .int .i64 k ∧ v = .slice q2 M.length qc2 ∧ Hid (DRow wr w1.heap.size q2 qc2 M (X ^ k)) ∧ Hid (Below w1.heap.size w1 wr)) (fun _ i _ => n - (intOf i).toNat)
    case atStart => exact ⟨0, some ⟨w1.heap.size, 0, none⟩, 1, [1], by omega, rfl, rfl, HD, (Below.refl _ _).alloc (Nat.le_refl _) _⟩
    case round =>
      clear HD
      obtain ⟨k, q2, qc2, M, hk, rfl, rfl, HDR, HB⟩ := hrel
      rename World => wr
      by_cases hkz : (k : Int) < 0
      · exact absurd hkz (by omega)
      · obtain rfl : k = n := by have := HZ.out.1; omega
        obtain ⟨ho2, hd2⟩ := HDR.out
        have HF := Lib.hid (FIN.out wr q2 qc2 M (X ^ k) HBIG.out (HPS.out k (Nat.le_refl _)) (HOB.out.trans (HB.out.mono HOB.out.size)) ⟨own_down ho2 HOB.out.size, hd2⟩)
        clear ho2 hd2
        go_wp2_with fail
        refine (HF.out).mono ?_
        rintro e w7 ⟨pa, ca, L, rfl, hL, hf7, hb7⟩
        have hbw : Below w0.heap.size w0 w7 := (HOB.out.trans (HB.out.mono HOB.out.size)).trans (hb7.mono (Nat.le_trans HOB.out.size HB.out.size))
        obtain ⟨w8, hw8⟩ : ∃ W, W = w7.alloc (.cells #[.slice pa L.length ca] 24) := ⟨_, rfl⟩
        have hb8 : Below w7.heap.size w7 w8 := by rw [hw8]; exact (Below.refl _ _).alloc (Nat.le_refl _) _
        have hc8 : w8.cell? ⟨w7.heap.size, 0, none⟩ = some (.slice pa L.length ca) := cell_of_one (by rw [hw8]; exact heap_alloc_new w7 _)
        have hbw8 : Below w0.heap.size w0 w8 := hbw.trans (hb8.mono hbw.size)
        have hR8 : w8.heap[nb]? = some (.cells #[.slice none 0 0] 24 (0, 0)) := by rw [hbw8.block _ (by rw [HS0.out]; omega)]; exact HR0.out
        have hcr := cell_of_one hR8
        have hfr := free_of_one hR8
        have hf8 := hf7.below hb8
        have h9 : ¬ (2000 : Int) < (L.length : Int) := by omega
        have HR8 := Lib.hid hR8
        have HF8 := Lib.hid hf8
        have HW8 := Lib.hid hw8
        have HB8 := Lib.hid (HB0.out.trans (hbw8.mono (by rw [HS0.out, HNB.out]; omega)))
        have HOS := Lib.hid (Nat.le_trans HOB.out.size HB.out.size)
        clear hR8 hf7 hf8 hb7 hb8 hbw hbw8 hL hw8 HF
        go_wp2_with (rw [← HW8.out])
        refine bodyPost_ret (v := .tuple #[.agg #[.slice pa L.length ca], .int .i64 0]) (by simp [results, Tryz.results25, go_sem, hcr]) rfl ?_
        exact ⟨_, rfl, (HF8.out.setCell HR8.out (by decide) _).down (by have := HOS.out; have := HS0.out; have := HNB.out; omega), HB8.out.setCell (by have := HNB.out; simp; omega) _⟩
  · have hX0 : X ^ n = X := by
      have h5 := (HRO.out).1.1 HM.out.1.symm
      have h6 := HZ.out.1
      subst h5; rw [Nat.zero_pow (by omega)]
    have HF := Lib.hid (FIN.out w1 q qc N (X ^ n) HBIG.out (HPS.out n (Nat.le_refl _)) HOB.out ⟨HO1.out, by rw [hX0]; exact HD1.out⟩)
    rw [← HM.out.1] at HF
    clear hX0
    go_wp2_with fail
    refine (HF.out).mono ?_
    rintro e w7 ⟨pa, ca, L, rfl, hL, hf7, hb7⟩
    have hbw : Below w0.heap.size w0 w7 := HOB.out.trans (hb7.mono HOB.out.size)
    have hR7 : w7.heap[nb]? = some (.cells #[.slice none 0 0] 24 (0, 0)) := by rw [hbw.block _ (by rw [HS0.out]; omega)]; exact HR0.out
    have hcr := cell_of_one hR7
    have hfr := free_of_one hR7
    have HR7 := Lib.hid hR7
    have HF7 := Lib.hid hf7
    have HB7 := Lib.hid (HB0.out.trans (hbw.mono (by rw [HS0.out, HNB.out]; omega)))
    have HOS := Lib.hid HOB.out.size
    clear hR7 hf7 hb7 hbw hL
    go_wp2
    refine bodyPost_ret (v := .tuple #[.agg #[.slice pa L.length ca], .int .i64 0]) (by simp [results, Tryz.results25, go_sem, hcr]) rfl ?_
    exact ⟨_, rfl, (HF7.out.setCell HR7.out (by decide) _).down (by have := HOS.out; have := HS0.out; have := HNB.out; omega), HB7.out.setCell (by have := HNB.out; simp; omega) _⟩
  · have hN : 0 < N.length := by have := HM.out.1; omega
    have hX0 : X ^ n = X := by
      have h5 := (HRO.out).2 HM.out.1.symm
      rw [h2] at h5
      rw [← h5, Nat.one_pow]
    have HF := Lib.hid (FIN.out w1 q qc N (X ^ n) HBIG.out (HPS.out n (Nat.le_refl _)) HOB.out ⟨HO1.out, by rw [hX0]; exact HD1.out⟩)
    rw [← HM.out.1] at HF
    clear hX0
    obtain ⟨g, rfl⟩ : ∃ g, q = some ⟨g, 0, none⟩ := by
      rcases HO1.out.2 with ⟨h, hn⟩ | ⟨g, cap, cur, h, _⟩
      · simp only [Value.slice.injEq] at h; omega
      · simp only [Value.slice.injEq] at h; exact ⟨g, h.1⟩
    have hc0 : w1.cell? ⟨g, 0, none⟩ = some (.int .u8 1) := by
      rcases HS1.out with h | ⟨b, off, h1, h3⟩
      · rw [h] at hN; simp at hN
      · simp only [Option.some.injEq] at h1
        have h4 := h3 0 hN
        rw [h2] at h4
        cases h1
        exact h4
    have H2 := Lib.hid h2
    clear h2 hN
    go_wp2_with fail
    refine (HF.out).mono ?_
    rintro e w7 ⟨pa, ca, L, rfl, hL, hf7, hb7⟩
    have hbw : Below w0.heap.size w0 w7 := HOB.out.trans (hb7.mono HOB.out.size)
    have hR7 : w7.heap[nb]? = some (.cells #[.slice none 0 0] 24 (0, 0)) := by rw [hbw.block _ (by rw [HS0.out]; omega)]; exact HR0.out
    have hcr := cell_of_one hR7
    have hfr := free_of_one hR7
    have HR7 := Lib.hid hR7
    have HF7 := Lib.hid hf7
    have HB7 := Lib.hid (HB0.out.trans (hbw.mono (by rw [HS0.out, HNB.out]; omega)))
    have HOS := Lib.hid HOB.out.size
    clear hR7 hf7 hb7 hbw hL
    go_wp2
    refine bodyPost_ret (v := .tuple #[.agg #[.slice pa L.length ca], .int .i64 0]) (by simp [results, Tryz.results25, go_sem, hcr]) rfl ?_
    exact ⟨_, rfl, (HF7.out.setCell HR7.out (by decide) _).down (by have := HOS.out; have := HS0.out; have := HNB.out; omega), HB7.out.setCell (by have := HNB.out; simp; omega) _⟩
  · have hN : 0 < N.length := by have := HM.out.1; omega
    obtain ⟨g, rfl⟩ : ∃ g, q = some ⟨g, 0, none⟩ := by
      rcases HO1.out.2 with ⟨h, hn⟩ | ⟨g, cap, cur, h, _⟩
      · simp only [Value.slice.injEq] at h; omega
      · simp only [Value.slice.injEq] at h; exact ⟨g, h.1⟩
    obtain ⟨d, hd, hd1⟩ : ∃ d : Int, w1.cell? ⟨g, 0, none⟩ = some (.int .u8 d) ∧ ¬ d = 1 := by
      rcases HS1.out with h | ⟨b, off, h1, h3⟩
      · rw [h] at hN; simp at hN
      · simp only [Option.some.injEq] at h1
        have h4 := h3 0 hN
        cases h1
        exact ⟨_, h4, by omega⟩
    have H2 := Lib.hid h2
    clear h2 hN
    go_wp2_with fail
    have hD1 : DRow (w1.alloc (.cells #[.int .u8 1] 5)) w1.heap.size (some ⟨w1.heap.size, 0, none⟩) 1 [1] (X ^ 0) := by
      refine ⟨?_, ?_, ?_, ?_⟩
      · have h := World.ownsRow_lit (base := w1.heap.size) (e := 5) (size := 1) w1 #[.int .u8 1] 1 (by omega) (by simp only [maxLen]; omega) (by simp)
        unfold Own
        simpa using h
      · intro x hx; simp only [List.mem_singleton] at hx; omega
      · simp [RightL]
      · simp [nv]
    have HD := Lib.hid hD1
    clear hD1
    go_loopw [7, 8] (fun v iv wr => ∃ (k : Nat) (q2 : Option Addr) (qc2 : Nat) (M : List Nat), k ≤ n ∧ iv = .int .i64 k ∧ v = .slice q2 M.length qc2 ∧ Hid (DRow wr w1.heap.size q2 qc2 M (X ^ k)) ∧ Hid (Below w1.heap.size w1 wr)) (fun _ i _ => n - (intOf i).toNat)
    case atStart => exact ⟨0, some ⟨w1.heap.size, 0, none⟩, 1, [1], by omega, rfl, rfl, HD, (Below.refl _ _).alloc (Nat.le_refl _) _⟩
    case round =>
      clear HD
      obtain ⟨k, q2, qc2, M, hk, rfl, rfl, HDR, HB⟩ := hrel
      rename World => wr
      by_cases hkz : (k : Int) < z
      · have hkn : k < n := by have := HZ.out.1; omega
        obtain ⟨ho2, hd2, hr2, hv2⟩ := HDR.out
        obtain ⟨q', c', e1, _, _, _, hs2, _⟩ := own_form ho2
        simp only [Value.slice.injEq, true_and] at e1
        obtain ⟨rfl, rfl⟩ := e1
        have ho3 := own_below HO1.out HB.out
        obtain ⟨q', c', e1, _, _, _, hs3, _⟩ := own_form ho3
        simp only [Value.slice.injEq, true_and] at e1
        obtain ⟨rfl, rfl⟩ := e1
        have hsm := rprod_any _ _ qc2 qc M N wr hs2 hs3 hd2 HD1.out.1 (by have := dlen hr2 hv2 (HPS.out k (by omega)); have := kbits_eq; omega) (by have := HM.out.2.1; omega)
        unfold MulPost at hsm
        rw [hv2, HD1.out.2.2, ← Nat.pow_succ, ← HM.out.1] at hsm
        have HSM := Lib.hid hsm
        have HKN := Lib.hid hkn
        clear hsm ho2 hd2 hr2 hv2 hs2 ho3 hs3 hkn
        go_wp2_with fail
        refine (HSM.out).mono ?_
        rintro e w3 ⟨q3, qc3, M3, rfl, hdr3, hb3⟩
        have HDR3 : Hid (DRow w3 w1.heap.size q3 qc3 M3 (X ^ (k + 1))) := ⟨own_down hdr3.1 HB.out.size, hdr3.2⟩
        have HB3 := Lib.hid (HB.out.trans (hb3.mono HB.out.size))
        have h8 : ¬ (20000 : Int) < (M3.length : Int) := by
          have := dlen hdr3.2.2.1 hdr3.2.2.2 (HPS.out (k + 1) HKN.out); have := kbits_eq; omega
        clear hdr3 hb3 HSM
        go_wp2
        go_roundw
        case rel => exact ⟨k + 1, q3, qc3, M3, HKN.out, by go_num, rfl, HDR3, HB3⟩
        case measure => have := HKN.out; simp [intOf]; omega
      · obtain rfl : k = n := by have := HZ.out.1; omega
        obtain ⟨ho2, hd2⟩ := HDR.out
        have HF := Lib.hid (FIN.out wr q2 qc2 M (X ^ k) HBIG.out (HPS.out k (Nat.le_refl _)) (HOB.out.trans (HB.out.mono HOB.out.size)) ⟨own_down ho2 HOB.out.size, hd2⟩)
        clear ho2 hd2
        go_wp2_with fail
        refine (HF.out).mono ?_
        rintro e w7 ⟨pa, ca, L, rfl, hL, hf7, hb7⟩
        have hbw : Below w0.heap.size w0 w7 := (HOB.out.trans (HB.out.mono HOB.out.size)).trans (hb7.mono (Nat.le_trans HOB.out.size HB.out.size))
        obtain ⟨w8, hw8⟩ : ∃ W, W = w7.alloc (.cells #[.slice pa L.length ca] 24) := ⟨_, rfl⟩
        have hb8 : Below w7.heap.size w7 w8 := by rw [hw8]; exact (Below.refl _ _).alloc (Nat.le_refl _) _
        have hc8 : w8.cell? ⟨w7.heap.size, 0, none⟩ = some (.slice pa L.length ca) := cell_of_one (by rw [hw8]; exact heap_alloc_new w7 _)
        have hbw8 : Below w0.heap.size w0 w8 := hbw.trans (hb8.mono hbw.size)
        have hR8 : w8.heap[nb]? = some (.cells #[.slice none 0 0] 24 (0, 0)) := by rw [hbw8.block _ (by rw [HS0.out]; omega)]; exact HR0.out
        have hcr := cell_of_one hR8
        have hfr := free_of_one hR8
        have hf8 := hf7.below hb8
        have h9 : ¬ (2000 : Int) < (L.length : Int) := by omega
        have HR8 := Lib.hid hR8
        have HF8 := Lib.hid hf8
        have HW8 := Lib.hid hw8
        have HB8 := Lib.hid (HB0.out.trans (hbw8.mono (by rw [HS0.out, HNB.out]; omega)))
        have HOS := Lib.hid (Nat.le_trans HOB.out.size HB.out.size)
        clear hR8 hf7 hf8 hb7 hb8 hbw hbw8 hL hw8 HF
        go_wp2_with (rw [← HW8.out])
        refine bodyPost_ret (v := .tuple #[.agg #[.slice pa L.length ca], .int .i64 0]) (by simp [results, Tryz.results25, go_sem, hcr]) rfl ?_
        exact ⟨_, rfl, (HF8.out.setCell HR8.out (by decide) _).down (by have := HOS.out; have := HS0.out; have := HNB.out; omega), HB8.out.setCell (by have := HNB.out; simp; omega) _⟩
  · have h3 : ¬ m = 0 := by omega
    have h4 : ¬ m = 1 := by omega
    have h5 : ¬ (m : Int) = 0 := by omega
    have h6 : ¬ (m : Int) = 1 := by omega
    have H2 := Lib.hid h2
    clear h2
    go_wp2_with fail
    have hD1 : DRow (w1.alloc (.cells #[.int .u8 1] 5)) w1.heap.size (some ⟨w1.heap.size, 0, none⟩) 1 [1] (X ^ 0) := by
      refine ⟨?_, ?_, ?_, ?_⟩
      · have h := World.ownsRow_lit (base := w1.heap.size) (e := 5) (size := 1) w1 #[.int .u8 1] 1 (by omega) (by simp only [maxLen]; omega) (by simp)
        unfold Own
        simpa using h
      · intro x hx; simp only [List.mem_singleton] at hx; omega
      · simp [RightL]
      · simp [nv]
    have HD := Lib.hid hD1
    clear hD1
    go_loopw [7, 8] (fun v iv wr => ∃ (k : Nat) (q2 : Option Addr) (qc2 : Nat) (M : List Nat), k ≤ n ∧ iv = .int .i64 k ∧ v = .slice q2 M.length qc2 ∧ Hid (DRow wr w1.heap.size q2 qc2 M (X ^ k)) ∧ Hid (Below w1.heap.size w1 wr)) (fun _ i _ => n - (intOf i).toNat)
    case atStart => exact ⟨0, some ⟨w1.heap.size, 0, none⟩, 1, [1], by omega, rfl, rfl, HD, (Below.refl _ _).alloc (Nat.le_refl _) _⟩
    case round =>
      clear HD
      obtain ⟨k, q2, qc2, M, hk, rfl, rfl, HDR, HB⟩ := hrel
      rename World => wr
      by_cases hkz : (k : Int) < z
      · have hkn : k < n := by have := HZ.out.1; omega
        obtain ⟨ho2, hd2, hr2, hv2⟩ := HDR.out
        obtain ⟨q', c', e1, _, _, _, hs2, _⟩ := own_form ho2
        simp only [Value.slice.injEq, true_and] at e1
        obtain ⟨rfl, rfl⟩ := e1
        have ho3 := own_below HO1.out HB.out
        obtain ⟨q', c', e1, _, _, _, hs3, _⟩ := own_form ho3
        simp only [Value.slice.injEq, true_and] at e1
        obtain ⟨rfl, rfl⟩ := e1
        have hsm := rprod_any _ _ qc2 qc M N wr hs2 hs3 hd2 HD1.out.1 (by have := dlen hr2 hv2 (HPS.out k (by omega)); have := kbits_eq; omega) (by have := HM.out.2.1; omega)
        unfold MulPost at hsm
        rw [hv2, HD1.out.2.2, ← Nat.pow_succ, ← HM.out.1] at hsm
        have HSM := Lib.hid hsm
        have HKN := Lib.hid hkn
        clear hsm ho2 hd2 hr2 hv2 hs2 ho3 hs3 hkn
        go_wp2_with fail
        refine (HSM.out).mono ?_
        rintro e w3 ⟨q3, qc3, M3, rfl, hdr3, hb3⟩
        have HDR3 : Hid (DRow w3 w1.heap.size q3 qc3 M3 (X ^ (k + 1))) := ⟨own_down hdr3.1 HB.out.size, hdr3.2⟩
        have HB3 := Lib.hid (HB.out.trans (hb3.mono HB.out.size))
        have h8 : ¬ (20000 : Int) < (M3.length : Int) := by
          have := dlen hdr3.2.2.1 hdr3.2.2.2 (HPS.out (k + 1) HKN.out); have := kbits_eq; omega
        clear hdr3 hb3 HSM
        go_wp2
        go_roundw
        case rel => exact ⟨k + 1, q3, qc3, M3, HKN.out, by go_num, rfl, HDR3, HB3⟩
        case measure => have := HKN.out; simp [intOf]; omega
      · obtain rfl : k = n := by have := HZ.out.1; omega
        obtain ⟨ho2, hd2⟩ := HDR.out
        have HF := Lib.hid (FIN.out wr q2 qc2 M (X ^ k) HBIG.out (HPS.out k (Nat.le_refl _)) (HOB.out.trans (HB.out.mono HOB.out.size)) ⟨own_down ho2 HOB.out.size, hd2⟩)
        clear ho2 hd2
        go_wp2_with fail
        refine (HF.out).mono ?_
        rintro e w7 ⟨pa, ca, L, rfl, hL, hf7, hb7⟩
        have hbw : Below w0.heap.size w0 w7 := (HOB.out.trans (HB.out.mono HOB.out.size)).trans (hb7.mono (Nat.le_trans HOB.out.size HB.out.size))
        obtain ⟨w8, hw8⟩ : ∃ W, W = w7.alloc (.cells #[.slice pa L.length ca] 24) := ⟨_, rfl⟩
        have hb8 : Below w7.heap.size w7 w8 := by rw [hw8]; exact (Below.refl _ _).alloc (Nat.le_refl _) _
        have hc8 : w8.cell? ⟨w7.heap.size, 0, none⟩ = some (.slice pa L.length ca) := cell_of_one (by rw [hw8]; exact heap_alloc_new w7 _)
        have hbw8 : Below w0.heap.size w0 w8 := hbw.trans (hb8.mono hbw.size)
        have hR8 : w8.heap[nb]? = some (.cells #[.slice none 0 0] 24 (0, 0)) := by rw [hbw8.block _ (by rw [HS0.out]; omega)]; exact HR0.out
        have hcr := cell_of_one hR8
        have hfr := free_of_one hR8
        have hf8 := hf7.below hb8
        have h9 : ¬ (2000 : Int) < (L.length : Int) := by omega
        have HR8 := Lib.hid hR8
        have HF8 := Lib.hid hf8
        have HW8 := Lib.hid hw8
        have HB8 := Lib.hid (HB0.out.trans (hbw8.mono (by rw [HS0.out, HNB.out]; omega)))
        have HOS := Lib.hid (Nat.le_trans HOB.out.size HB.out.size)
        clear hR8 hf7 hf8 hb7 hb8 hbw hbw8 hL hw8 HF
        go_wp2_with (rw [← HW8.out])
        refine bodyPost_ret (v := .tuple #[.agg #[.slice pa L.length ca], .int .i64 0]) (by simp [results, Tryz.results25, go_sem, hcr]) rfl ?_
        exact ⟨_, rfl, (HF8.out.setCell HR8.out (by decide) _).down (by have := HOS.out; have := HS0.out; have := HNB.out; omega), HB8.out.setCell (by have := HNB.out; simp; omega) _⟩
end Go.Proofs.YtcahnkocfbcchaaGreatDoor
