/- The walk of the document's Sum: two rows of decimal digits, added. -/
/- The walk of the document's Product: two rows of decimal digits, multiplied. -/
import Derived.Test.YtcahnkocfbcchaaGreatDoorNc
import Derived.BigRegion
import Derived.StillTailTactics

namespace Go.Proofs.YtcahnkocfbcchaaGreatDoor
open Go.RowKit Tnd

theorem nv_take_gd (K : Nat) (l : List Nat) (k : Nat) : nv K (l.take (k + 1)) = nv K (l.take k) + K ^ k * gd l k := by
  rcases Nat.lt_or_ge k l.length with h | h
  · exact nv_take_succ K l k h
  · have h1 : l.take (k + 1) = l := List.take_of_length_le (by omega)
    have h2 : l.take k = l := List.take_of_length_le h
    have h3 : gd l k = 0 := getD_off h
    rw [h1, h2, h3]; simp
theorem sum_step {a b N : List Nat} {i c : Nat} (hN : N.length = i) (hd : Digs 10 N) (hv : nv 10 N + 10 ^ i * c = nv 10 (a.take i) + nv 10 (b.take i)) {t : Nat} (ht : t = c + gd a i + gd b i) :
    Digs 10 (N ++ [t % 10]) ∧ nv 10 (N ++ [t % 10]) + 10 ^ (i + 1) * (t / 10) = nv 10 (a.take (i + 1)) + nv 10 (b.take (i + 1)) := by
  subst ht
  refine ⟨digs_append.2 ⟨hd, fun x hx => by rw [List.mem_singleton.1 hx]; exact Nat.mod_lt _ (by omega)⟩, ?_⟩
  rw [nv_snoc, hN, nv_take_gd, nv_take_gd]
  have e1 : 10 ^ (i + 1) * ((c + gd a i + gd b i) / 10) = 10 ^ i * (10 * ((c + gd a i + gd b i) / 10)) := by rw [Nat.pow_succ, Nat.mul_assoc]
  have e2 : 10 ^ i * ((c + gd a i + gd b i) % 10) + 10 ^ i * (10 * ((c + gd a i + gd b i) / 10)) = 10 ^ i * (c + gd a i + gd b i) := by rw [← Nat.mul_add, Nat.mod_add_div]
  have e3 : 10 ^ i * (c + gd a i + gd b i) = 10 ^ i * c + 10 ^ i * gd a i + 10 ^ i * gd b i := by rw [Nat.mul_add, Nat.mul_add]
  omega

def SumPost (a b : List Nat) (w : World) (e : Ending) (w' : World) : Prop :=
  ∃ q qc N, e = .returned (.slice q N.length qc) ∧ DRow w' w.heap.size q qc N (nv 10 a + nv 10 b) ∧ Below w.heap.size w w'

set_option maxHeartbeats 3200000 in
set_option maxRecDepth 100000 in
theorem rsum_any (p1 p2 : Option Addr) (cp1 cp2 : Nat) (a b : List Nat) (w : World) (h1 : Sl w .u8 p1 a) (h2 : Sl w .u8 p2 b) (d1 : Digs 10 a) (d2 : Digs 10 b) (l1 : a.length ≤ 1000000000) (l2 : b.length ≤ 1000000000) :
    Calls Tryz.prog 102 #[.slice p1 a.length cp1, .slice p2 b.length cp2] w (SumPost a b w) := by
  obtain ⟨i0, hi, hz0, hz1, hz2⟩ := info_parts info_u8
  have H1 := Lib.hid h1
  have H2 := Lib.hid h2
  have D1 := Lib.hid d1
  have D2 := Lib.hid d2
  obtain ⟨la, hla⟩ : ∃ la, la = a.length := ⟨_, rfl⟩
  obtain ⟨lb, hlb⟩ : ∃ lb, lb = b.length := ⟨_, rfl⟩
  rw [← hla, ← hlb]
  have HLA := Lib.hid hla
  have HLB := Lib.hid hlb
  have laI : (la : Int) ≤ 1000000000 := by omega
  have lbI : (lb : Int) ≤ 1000000000 := by omega
  clear h1 h2 d1 d2 l1 l2 hla hlb
  go_enter Tryz.func102, Tryz.ntmps102
  go_wp2
  go_loopw [5, 6, 7] (fun v cv iv wr => ∃ (i c : Nat) (N : List Nat) (q : Option Addr) (qc : Nat), i ≤ max la lb ∧ iv = .int .i64 i ∧ cv = .int .u8 c ∧ c ≤ 1 ∧ v = .slice q N.length qc ∧ Hid (N.length = i) ∧ Hid (Own wr w.heap.size 5 .u8 (.slice q N.length qc) N) ∧ Hid (Digs 10 N) ∧ Hid (nv 10 N + 10 ^ i * c = nv 10 (a.take i) + nv 10 (b.take i)) ∧ Hid (Below w.heap.size w wr)) (fun _ _ i _ => max la lb - (intOf i).toNat)
  case atStart =>
    refine ⟨0, 0, [], none, 0, by omega, rfl, rfl, by omega, rfl, rfl, own_nil _ _ _ _, (fun x hx => nomatch hx), ?_, Below.refl _ _⟩
    show nv 10 [] + 10 ^ 0 * 0 = nv 10 (a.take 0) + nv 10 (b.take 0)
    simp [nv]
  case round =>
    obtain ⟨i, c, N, q, qc, hi1, rfl, rfl, hc, rfl, HN, HO, HD, HV, HB⟩ := hrel
    rename World => wr
    have hiI : (i : Int) ≤ 1000000000 := by omega
    have cI : (c : Int) ≤ 1 := by omega
    have HC := Lib.hid hc
    have HI1 := Lib.hid hi1
    have hgl : ∀ (p : Option Addr) (l : List Nat), Sl w .u8 p l → i < l.length → ∃ b off, p = some ⟨b, off, none⟩ ∧ wr.cell? ⟨b, off + i, none⟩ = some (.int .u8 (gd l i : Nat)) := by
      intro p l hs hil
      rcases hs with h | ⟨b, off, h1, h2⟩
      · subst h; simp at hil
      · have h3 := h2 i hil
        exact ⟨b, off, h1, by rw [HB.out.cell (World.block_lt_of_cell? w _ h3)]; exact h3⟩
    have HGL := Lib.hid hgl
    have ho3 := HO.out
    unfold Own at ho3
    have HO4 := Lib.hid ho3
    have HST := Lib.hid (fun t (ht : t = c + gd a i + gd b i) => sum_step HN.out HD.out HV.out ht)
    have X1 := Lib.hid (gd_lt D1.out (by omega) i)
    have X2 := Lib.hid (gd_lt D2.out (by omega) i)
    have HNL : Hid (N.length ≤ 1000000000) := by have := HN.out; show _ ≤ _; omega
    clear hgl hc hi1 ho3
    by_cases hia : i < la
    · by_cases hib : i < lb
      · obtain ⟨b1, o1, rfl, hc1⟩ := HGL.out p1 a H1.out (by rw [← HLA.out]; exact hia)
        obtain ⟨b2, o2, rfl, hc2⟩ := HGL.out p2 b H2.out (by rw [← HLB.out]; exact hib)
        have hst := HST.out
        have x1 := X1.out
        have x2 := X2.out
        generalize gd a i = x at *
        have xI : (x : Int) ≤ 9 := by omega
        generalize gd b i = y at *
        have yI : (y : Int) ≤ 9 := by omega
        have hs2 := hst (c + x + y) rfl
        have HS2 := Lib.hid hs2
        have hiaI : (i : Int) < la := by omega
        have hibI : (i : Int) < lb := by omega
        have EM : Hid ((((c : Int) + (x : Int)) + (y : Int)) % 10 = (((c + x + y) % 10 : Nat) : Int)) := by show _ = _; omega
        have ED : Hid ((((c : Int) + (x : Int)) + (y : Int)) / 10 = (((c + x + y) / 10 : Nat) : Int)) := by show _ = _; omega
        have t1 : 0 ≤ (((c : Int) + (x : Int)) + (y : Int)) := by omega
        have t2 : (((c : Int) + (x : Int)) + (y : Int)) ≤ 19 := by omega
        clear hst hs2 x1 x2 HST
        go_wp2_with (at_builtin; refine wpList_append_own _ rfl _ _ 59 rfl w.heap.size 5 i0 (.int .u8 0) 1 1 Tryz.underlying59 hi hz0 hz1 hz2 rfl (by decide) (.slice q N.length qc) N.length _ rfl (HO4.out.alloc _) ⟨wr.heap.size, 0, none⟩ 1 1 [.int .u8 ((((c : Int) + (x : Int)) + (y : Int)) % 10)] rfl rfl ?k1a ?k2a ?k3a ?k4a ?k5a ?_)
        try case k1a => exact cell_one_new _ _ _
        case k2a => simp [Value.oneCell']
        case k3a => have := HNL.out; simp only [maxLen]; omega
        case k4a => have := HNL.out; omega
        case k5a => have := HB.out.size; simp; omega
        intro v' w5 hown5 hgrow5 _
        rw [EM.out] at hown5
        have hO5 := own_appended rfl hown5
        have hb5 : Below w.heap.size w w5 := ((HB.out.alloc HB.out.size _).grown hgrow5 (by have := HB.out.size; simp; omega) (fun k hk => (HO4.out.lt k hk).1))
        obtain ⟨p', c', hs'⟩ : ∃ p' c', v' = .slice p' (N ++ [(c + x + y) % 10]).length c' := by
          obtain ⟨p', c', hs', _⟩ := own_form hO5
          exact ⟨p', c', hs'⟩
        rw [hs'] at hO5 ⊢
        have HO5 := Lib.hid hO5
        have HB5 := Lib.hid hb5
        have HN5 : Hid ((N ++ [(c + x + y) % 10]).length = i + 1) := by show _ = _; rw [List.length_append, HN.out]; rfl
        clear hs' hown5 hgrow5 hO5 hb5
        have hs3 := HS2.out
        generalize N ++ [(c + x + y) % 10] = N2 at *
        have HS3 := Lib.hid hs3
        clear hs3
        go_wp2
        go_roundw
        case rel => exact ⟨i + 1, (c + x + y) / 10, N2, p', c', by omega, by go_num, by rw [ED.out], by have := HC.out; omega, rfl, HN5, HO5, HS3.out.1, HS3.out.2, HB5⟩
        case measure => simp [intOf]; omega
      · obtain ⟨b1, o1, rfl, hc1⟩ := HGL.out p1 a H1.out (by rw [← HLA.out]; exact hia)
        have z2 : gd b i = 0 := getD_off (by rw [← HLB.out]; omega)
        have hst := HST.out
        have x1 := X1.out
        have x2 := X2.out
        generalize gd a i = x at *
        have xI : (x : Int) ≤ 9 := by omega
        rw [z2] at hst
        have hs2 := hst (c + x + 0) rfl
        have HS2 := Lib.hid hs2
        have hiaI : (i : Int) < la := by omega
        have hibI : ¬ (i : Int) < lb := by omega
        have EM : Hid (((c : Int) + (x : Int)) % 10 = (((c + x + 0) % 10 : Nat) : Int)) := by show _ = _; omega
        have ED : Hid (((c : Int) + (x : Int)) / 10 = (((c + x + 0) / 10 : Nat) : Int)) := by show _ = _; omega
        have t1 : 0 ≤ ((c : Int) + (x : Int)) := by omega
        have t2 : ((c : Int) + (x : Int)) ≤ 19 := by omega
        clear hst hs2 x1 x2 HST z2
        go_wp2_with (at_builtin; refine wpList_append_own _ rfl _ _ 59 rfl w.heap.size 5 i0 (.int .u8 0) 1 1 Tryz.underlying59 hi hz0 hz1 hz2 rfl (by decide) (.slice q N.length qc) N.length _ rfl (HO4.out.alloc _) ⟨wr.heap.size, 0, none⟩ 1 1 [.int .u8 (((c : Int) + (x : Int)) % 10)] rfl rfl ?k1b ?k2b ?k3b ?k4b ?k5b ?_)
        try case k1b => exact cell_one_new _ _ _
        case k2b => simp [Value.oneCell']
        case k3b => have := HNL.out; simp only [maxLen]; omega
        case k4b => have := HNL.out; omega
        case k5b => have := HB.out.size; simp; omega
        intro v' w5 hown5 hgrow5 _
        rw [EM.out] at hown5
        have hO5 := own_appended rfl hown5
        have hb5 : Below w.heap.size w w5 := ((HB.out.alloc HB.out.size _).grown hgrow5 (by have := HB.out.size; simp; omega) (fun k hk => (HO4.out.lt k hk).1))
        obtain ⟨p', c', hs'⟩ : ∃ p' c', v' = .slice p' (N ++ [(c + x + 0) % 10]).length c' := by
          obtain ⟨p', c', hs', _⟩ := own_form hO5
          exact ⟨p', c', hs'⟩
        rw [hs'] at hO5 ⊢
        have HO5 := Lib.hid hO5
        have HB5 := Lib.hid hb5
        have HN5 : Hid ((N ++ [(c + x + 0) % 10]).length = i + 1) := by show _ = _; rw [List.length_append, HN.out]; rfl
        clear hs' hown5 hgrow5 hO5 hb5
        have hs3 := HS2.out
        generalize N ++ [(c + x + 0) % 10] = N2 at *
        have HS3 := Lib.hid hs3
        clear hs3
        go_wp2
        go_roundw
        case rel => exact ⟨i + 1, (c + x + 0) / 10, N2, p', c', by omega, by go_num, by rw [ED.out], by have := HC.out; omega, rfl, HN5, HO5, HS3.out.1, HS3.out.2, HB5⟩
        case measure => simp [intOf]; omega
    · by_cases hib : i < lb
      · have z1 : gd a i = 0 := getD_off (by rw [← HLA.out]; omega)
        obtain ⟨b2, o2, rfl, hc2⟩ := HGL.out p2 b H2.out (by rw [← HLB.out]; exact hib)
        have hst := HST.out
        have x1 := X1.out
        have x2 := X2.out
        rw [z1] at hst
        generalize gd b i = y at *
        have yI : (y : Int) ≤ 9 := by omega
        have hs2 := hst (c + 0 + y) rfl
        have HS2 := Lib.hid hs2
        have hiaI : ¬ (i : Int) < la := by omega
        have hibI : (i : Int) < lb := by omega
        have EM : Hid (((c : Int) + (y : Int)) % 10 = (((c + 0 + y) % 10 : Nat) : Int)) := by show _ = _; omega
        have ED : Hid (((c : Int) + (y : Int)) / 10 = (((c + 0 + y) / 10 : Nat) : Int)) := by show _ = _; omega
        have t1 : 0 ≤ ((c : Int) + (y : Int)) := by omega
        have t2 : ((c : Int) + (y : Int)) ≤ 19 := by omega
        clear hst hs2 x1 x2 HST z1
        go_wp2_with (at_builtin; refine wpList_append_own _ rfl _ _ 59 rfl w.heap.size 5 i0 (.int .u8 0) 1 1 Tryz.underlying59 hi hz0 hz1 hz2 rfl (by decide) (.slice q N.length qc) N.length _ rfl (HO4.out.alloc _) ⟨wr.heap.size, 0, none⟩ 1 1 [.int .u8 (((c : Int) + (y : Int)) % 10)] rfl rfl ?k1c ?k2c ?k3c ?k4c ?k5c ?_)
        try case k1c => exact cell_one_new _ _ _
        case k2c => simp [Value.oneCell']
        case k3c => have := HNL.out; simp only [maxLen]; omega
        case k4c => have := HNL.out; omega
        case k5c => have := HB.out.size; simp; omega
        intro v' w5 hown5 hgrow5 _
        rw [EM.out] at hown5
        have hO5 := own_appended rfl hown5
        have hb5 : Below w.heap.size w w5 := ((HB.out.alloc HB.out.size _).grown hgrow5 (by have := HB.out.size; simp; omega) (fun k hk => (HO4.out.lt k hk).1))
        obtain ⟨p', c', hs'⟩ : ∃ p' c', v' = .slice p' (N ++ [(c + 0 + y) % 10]).length c' := by
          obtain ⟨p', c', hs', _⟩ := own_form hO5
          exact ⟨p', c', hs'⟩
        rw [hs'] at hO5 ⊢
        have HO5 := Lib.hid hO5
        have HB5 := Lib.hid hb5
        have HN5 : Hid ((N ++ [(c + 0 + y) % 10]).length = i + 1) := by show _ = _; rw [List.length_append, HN.out]; rfl
        clear hs' hown5 hgrow5 hO5 hb5
        have hs3 := HS2.out
        generalize N ++ [(c + 0 + y) % 10] = N2 at *
        have HS3 := Lib.hid hs3
        clear hs3
        go_wp2
        go_roundw
        case rel => exact ⟨i + 1, (c + 0 + y) / 10, N2, p', c', by omega, by go_num, by rw [ED.out], by have := HC.out; omega, rfl, HN5, HO5, HS3.out.1, HS3.out.2, HB5⟩
        case measure => simp [intOf]; omega
      · have hmx : a.take i = a ∧ b.take i = b := ⟨List.take_of_length_le (by rw [← HLA.out]; omega), List.take_of_length_le (by rw [← HLB.out]; omega)⟩
        have hv := HV.out
        rw [hmx.1, hmx.2, ← HN.out] at hv
        have HV2 := Lib.hid hv
        have hiaI : ¬ (i : Int) < la := by omega
        have hibI : ¬ (i : Int) < lb := by omega
        clear hmx hv HST
        go_wp2_with (first | (at_builtin; refine wpList_append_own _ rfl _ _ 59 rfl w.heap.size 5 i0 (.int .u8 0) 1 1 Tryz.underlying59 hi hz0 hz1 hz2 rfl (by decide) (.slice q N.length qc) N.length _ rfl (HO4.out.alloc _) ⟨wr.heap.size, 0, none⟩ 1 1 [.int .u8 (c : Nat)] rfl rfl ?k1d ?k2d ?k3d ?k4d ?k5d ?_) | fail)
        try case k1d => exact cell_one_new _ _ _
        case k2d => simp [Value.oneCell']
        case k3d => have := HNL.out; simp only [maxLen]; omega
        case k4d => have := HNL.out; omega
        case k5d => have := HB.out.size; simp; omega
        intro v' w5 hown5 hgrow5 _
        have hO5 := own_appended rfl hown5
        have hb5 : Below w.heap.size w w5 := ((HB.out.alloc HB.out.size _).grown hgrow5 (by have := HB.out.size; simp; omega) (fun k hk => (HO4.out.lt k hk).1))
        obtain ⟨p', c', hs'⟩ : ∃ p' c', v' = .slice p' (N ++ [c]).length c' := by
          obtain ⟨p', c', hs', _⟩ := own_form hO5
          exact ⟨p', c', hs'⟩
        subst hs'
        have HTR := Lib.hid (trim_own hO5)
        have HB5 := Lib.hid hb5
        have HV3 : Hid (nv 10 (N ++ [c]) = nv 10 a + nv 10 b) := by show _ = _; rw [nv_snoc]; exact HV2.out
        have HD3 : Hid (Digs 10 (N ++ [c])) := digs_append.2 ⟨HD.out, fun x hx => by rw [List.mem_singleton.1 hx]; have := HC.out; omega⟩
        clear hown5 hgrow5 hO5 hb5
        generalize N ++ [c] = N2 at *
        go_wp2_with fail
        refine HTR.out.mono ?_
        rintro e w6 ⟨M2, rfl, hM2, hO6, rfl⟩
        have HM2 := Lib.hid hM2
        have HO6 := Lib.hid hO6
        clear hM2 hO6
        go_wp2
        go_ret
        exact ⟨p', c', M2, rfl, ⟨HO6.out, by rw [HM2.out]; exact digs_take HD3.out _, by rw [HM2.out]; exact right_take_tlen _, by rw [HM2.out, nv_tlen, HV3.out]⟩, HB5.out⟩
end Go.Proofs.YtcahnkocfbcchaaGreatDoor


namespace Go.Proofs.YtcahnkocfbcchaaGreatDoor
open Go.RowKit Tnd

theorem info_u64 : (Tryz.prog.info? 25).map (fun i => (i.zero, i.size, i.bytes)) = some (some (.int .u64 0), 1, 8) := by kernel_rfl

theorem gd_set_self (l : List Nat) (j x : Nat) (h : j < l.length) : gd (l.set j x) j = x := by
  unfold gd
  rw [List.getD_eq_getElem?_getD, List.getElem?_set_self h]; rfl
theorem gd_set_ne (l : List Nat) (i j x : Nat) (h : j ≠ i) : gd (l.set j x) i = gd l i := by
  unfold gd
  rw [List.getD_eq_getElem?_getD, List.getD_eq_getElem?_getD, List.getElem?_set_ne h]
theorem nv_set (K : Nat) : ∀ (l : List Nat) (j x : Nat), j < l.length → nv K (l.set j (gd l j + x)) = nv K l + K ^ j * x
  | [], j, x, h => by simp at h
  | d :: l, 0, x, _ => by
    show (d + x) + K * nv K l = d + K * nv K l + K ^ 0 * x
    rw [Nat.pow_zero]; omega
  | d :: l, j + 1, x, h => by
    have ih := nv_set K l j x (by simpa using h)
    have e : gd (d :: l) (j + 1) = gd l j := by unfold gd; rw [List.getD_cons_succ]
    rw [e, List.set_cons_succ]
    show d + K * nv K (l.set j (gd l j + x)) = d + K * nv K l + K ^ (j + 1) * x
    rw [ih, Nat.mul_add, Nat.pow_succ, Nat.mul_comm (K ^ j) K, Nat.mul_assoc]; omega

/-- what the two loops know: rows before i are done, of row i the digits before k. -/
structure PI (a b : List Nat) (i k : Nat) (T : List Nat) : Prop where
  len : T.length = a.length + b.length + 1
  val : nv 10 T = nv 10 (a.take i) * nv 10 b + 10 ^ i * gd a i * nv 10 (b.take k)
  low : ∀ j, gd T j ≤ 81 * i + 81
  top : ∀ j, i + k ≤ j → gd T j ≤ 81 * i
theorem PI.start (a b : List Nat) : PI a b 0 0 (List.replicate (a.length + b.length + 1) 0) := by
  have hz : ∀ (n j : Nat), gd (List.replicate n 0) j = 0 := by
    intro n j
    unfold gd
    rw [List.getD_eq_getElem?_getD]
    rw [List.getElem?_replicate]
    split <;> rfl
  refine ⟨by simp, ?_, fun j => by rw [hz]; omega, fun j _ => by rw [hz]; omega⟩
  rw [nv_zeros]; simp [nv]
theorem PI.step {a b T : List Nat} {i k : Nat} (h : PI a b i k T) (hi : i < a.length) (hk : k < b.length) (da : Digs 10 a) (db : Digs 10 b) : PI a b i (k + 1) (T.set (i + k) (gd T (i + k) + gd a i * gd b k)) := by
  have hx : gd a i < 10 := gd_lt da (by omega) i
  have hy : gd b k < 10 := gd_lt db (by omega) k
  have hxy : gd a i * gd b k ≤ 9 * 9 := Nat.mul_le_mul (by omega) (by omega)
  have hl : i + k < T.length := by rw [h.len]; omega
  refine ⟨by rw [List.length_set, h.len], ?_, fun j => ?_, fun j hj => ?_⟩
  · rw [nv_set 10 T (i + k) _ hl, h.val, nv_take_succ 10 b k hk, Nat.mul_add, Nat.pow_add]
    have e : 10 ^ i * 10 ^ k * (gd a i * gd b k) = 10 ^ i * gd a i * (10 ^ k * gd b k) := by
      rw [Nat.mul_assoc, Nat.mul_left_comm (10 ^ k), ← Nat.mul_assoc]
    rw [e]; omega
  · by_cases e : i + k = j
    · subst e
      rw [gd_set_self _ _ _ hl]
      have := h.top (i + k) (Nat.le_refl _); omega
    · rw [gd_set_ne _ _ _ _ e]; exact h.low j
  · rw [gd_set_ne _ _ _ _ (by omega)]; exact h.top j (by omega)
theorem PI.next {a b T : List Nat} {i : Nat} (h : PI a b i b.length T) (hi : i < a.length) : PI a b (i + 1) 0 T := by
  refine ⟨h.len, ?_, fun j => by have := h.low j; omega, fun j _ => by have := h.low j; omega⟩
  rw [h.val, List.take_length, nv_take_succ 10 a i hi, Nat.add_mul]
  simp [nv]
theorem PI.done {a b T : List Nat} (h : PI a b a.length 0 T) : nv 10 T = nv 10 a * nv 10 b := by
  rw [h.val, List.take_length]; simp [nv]

def MulPost (a b : List Nat) (w : World) (e : Ending) (w' : World) : Prop :=
  ∃ q qc N, e = .returned (.slice q N.length qc) ∧ DRow w' w.heap.size q qc N (nv 10 a * nv 10 b) ∧ Below w.heap.size w w'

set_option maxHeartbeats 3200000 in
set_option maxRecDepth 100000 in
theorem rprod_any (p1 p2 : Option Addr) (cp1 cp2 : Nat) (a b : List Nat) (w : World) (h1 : Sl w .u8 p1 a) (h2 : Sl w .u8 p2 b) (d1 : Digs 10 a) (d2 : Digs 10 b) (l1 : a.length ≤ 1000000000) (l2 : b.length ≤ 1000000000) :
    Calls Tryz.prog 53 #[.slice p1 a.length cp1, .slice p2 b.length cp2] w (MulPost a b w) := by
  obtain ⟨i0, hi, hz0, hz1, hz2⟩ := info_parts info_u8
  obtain ⟨j0, hj, hy0, hy1, hy2⟩ := info_parts info_u64
  obtain ⟨la, hla⟩ : ∃ la, la = a.length := ⟨_, rfl⟩
  obtain ⟨lb, hlb⟩ : ∃ lb, lb = b.length := ⟨_, rfl⟩
  rw [← hla, ← hlb]
  have H1 := Lib.hid h1
  have H2 := Lib.hid h2
  have D1 := Lib.hid d1
  have D2 := Lib.hid d2
  have HLA := Lib.hid hla
  have HLB := Lib.hid hlb
  have laI : (la : Int) ≤ 1000000000 := by omega
  have lbI : (lb : Int) ≤ 1000000000 := by omega
  clear h1 h2 d1 d2 l1 l2 hla hlb
  go_enter Tryz.func53, Tryz.ntmps53
  go_wp2_with (at_make; refine wpList_make_full _ rfl _ _ 45 rfl w.heap.size 25 j0 (.int .u64 0) 1 Tryz.underlying45 hj hy0 hy1 .i64 .i64 _ _ (la + lb + 1) rfl rfl ?m1 ?m2 ?m3 ?m4 ?m5 ?_)
  case m1 => push_cast; rfl
  case m2 => push_cast; rfl
  case m3 => rw [hy2]; omega
  case m4 => simp only [maxLen]; omega
  case m5 => omega
  intro w1 hown1 hgrow1
  have hb1 : Below w.heap.size w w1 := (Below.refl _ _).grown hgrow1 (Nat.le_refl _) (by simp)
  have hO1 : Own w1 w.heap.size 25 .u64 (.slice (some ⟨w.heap.size, 0, none⟩) (la + lb + 1) (la + lb + 1)) (List.replicate (la + lb + 1) 0) := by
    refine (own_at (B := w.heap.size) ?_).2
    unfold Own
    rw [List.length_replicate, List.map_replicate, ← toList_madeCells_one]
    exact hown1
  have HB1 := Lib.hid hb1
  have HO1 := Lib.hid hO1
  have HP0 : Hid (PI a b 0 0 (List.replicate (la + lb + 1) 0)) := by
    have h := PI.start a b
    rw [← HLA.out, ← HLB.out] at h
    exact h
  obtain ⟨T0, hT0⟩ : ∃ T0, T0 = List.replicate (la + lb + 1) 0 := ⟨_, rfl⟩
  rw [← hT0] at HO1 HP0
  clear hb1 hO1 hown1 hgrow1 hT0
  obtain ⟨g, hg⟩ : ∃ g, g = w.heap.size := ⟨_, rfl⟩
  rw [← hg] at HO1 ⊢
  have HG := Lib.hid hg
  clear hg
  go_wp2
  go_loopw [6, 7] (fun iv kv wr => ∃ (i : Nat) (T : List Nat), i ≤ la ∧ iv = .int .i64 i ∧ Hid (PI a b i 0 T) ∧ Hid (Own wr g 25 .u64 (.slice (some ⟨g, 0, none⟩) (la + lb + 1) (la + lb + 1)) T) ∧ Hid (Below w.heap.size w wr)) (fun i _ _ => la - (intOf i).toNat)
  case atStart => exact ⟨0, T0, by omega, rfl, HP0, HO1, HB1⟩
  case round =>
    obtain ⟨i, T, hi1, rfl, HP, HO, HB⟩ := hrel
    rename World => wr
    by_cases hil : i < la
    · have hilI : (i : Int) < la := by omega
      go_wp2
      go_loopw [7] (fun kv wi => ∃ (k : Nat) (T : List Nat), k ≤ lb ∧ kv = .int .i64 k ∧ Hid (PI a b i k T) ∧ Hid (Own wi g 25 .u64 (.slice (some ⟨g, 0, none⟩) (la + lb + 1) (la + lb + 1)) T) ∧ Hid (Below w.heap.size w wi)) (fun k _ => lb - (intOf k).toNat)
      case atStart => exact ⟨0, T, by omega, rfl, HP, HO, HB⟩
      case round =>
        obtain ⟨k, T2, hk1, rfl, HP2, HO2, HB2⟩ := hrel
        rename World => wi
        by_cases hkl : k < lb
        · have hklI : (k : Int) < lb := by omega
          obtain ⟨b1, o1, rfl, hc1⟩ : ∃ b off, p1 = some ⟨b, off, none⟩ ∧ wi.cell? ⟨b, off + i, none⟩ = some (.int .u8 (gd a i : Nat)) := by
            rcases H1.out with h | ⟨b, off, h1, h2⟩
            · have := HLA.out; subst h; simp at this; omega
            · have h3 := h2 i (by rw [← HLA.out]; exact hil)
              exact ⟨b, off, h1, by rw [HB2.out.cell (World.block_lt_of_cell? w _ h3)]; exact h3⟩
          obtain ⟨b2, o2, rfl, hc2⟩ : ∃ bb off, p2 = some ⟨bb, off, none⟩ ∧ wi.cell? ⟨bb, off + k, none⟩ = some (.int .u8 (gd b k : Nat)) := by
            rcases H2.out with h | ⟨b', off, h1, h2⟩
            · have := HLB.out; rw [h] at this; simp at this; omega
            · have h3 := h2 k (by rw [← HLB.out]; exact hkl)
              exact ⟨b', off, h1, by rw [HB2.out.cell (World.block_lt_of_cell? w _ h3)]; exact h3⟩
          have hTl : T2.length = la + lb + 1 := by rw [HP2.out.len, ← HLA.out, ← HLB.out]
          have hct := own_cell HO2.out hTl (i + k) (by omega)
          have hft := own_free HO2.out hTl (i + k)
          have hst := HP2.out.step (by rw [← HLA.out]; exact hil) (by rw [← HLB.out]; exact hkl) D1.out D2.out
          have hso := own_store HO2.out hTl (i + k) (gd T2 (i + k) + gd a i * gd b k)
          have hx : gd a i < 10 := gd_lt D1.out (by omega) i
          have hy : gd b k < 10 := gd_lt D2.out (by omega) k
          have ht : gd T2 (i + k) ≤ 81 * i + 81 := HP2.out.low _
          have HST := Lib.hid hst
          have HSO := Lib.hid hso
          have HLT : Hid (g < wi.heap.size) := (HO2.out.lt g rfl).2
          have HBW := HB2
          clear hst hso hTl
          generalize gd a i = x at *
          generalize gd b k = y at *
          generalize gd T2 (i + k) = t at *
          have hxI : (x : Int) ≤ 9 := by omega
          have hyI : (y : Int) ≤ 9 := by omega
          have htI : (t : Int) ≤ 81000000081 := by omega
          have exy : (x : Int) * y = ((x * y : Nat) : Int) := by push_cast; rfl
          have hxy : x * y ≤ 9 * 9 := Nat.mul_le_mul (by omega) (by omega)
          have p1' : 0 ≤ (x : Int) * y := by rw [exy]; omega
          have p2' : (x : Int) * y ≤ 81 := by rw [exy]; omega
          have hikI : (i : Int) + k < la + lb + 1 := by omega
          have HEX : Hid ((t : Int) + (x : Int) * y = ((t + x * y : Nat) : Int)) := by show _ = _; rw [exy]; push_cast; rfl
          clear hxy exy
          go_wp2
          go_region
          go_wp2
          go_roundw
          case rel =>
            rw [HEX.out]
            exact ⟨k + 1, T2.set (i + k) (t + x * y), by omega, by go_num, HST.out, own_drewN HSO.out.1 1, (HB2.out.setCell (by have := HG.out; simp; omega) _).drew⟩
          case measure => simp [intOf]; omega
        · obtain rfl : k = lb := by omega
          have hn := (show PI a b i b.length T2 by have h := HP2.out; rw [HLB.out] at h; exact h).next (by rw [← HLA.out]; exact hil)
          have HNX := Lib.hid hn
          clear hn
          go_wp2
          go_roundw
          case rel => exact ⟨i + 1, T2, by omega, by go_num, HNX, HO2, HB2⟩
          case measure => simp [intOf]; omega
    · obtain rfl : i = la := by omega
      have hv : nv 10 T = nv 10 a * nv 10 b := (show PI a b a.length 0 T by have h := HP.out; rw [← HLA.out]; exact h).done
      have hTl : T.length = i + lb + 1 := by rw [HP.out.len, ← HLA.out, ← HLB.out]
      have hlow : ∀ j, gd T j ≤ 81 * i + 81 := HP.out.low
      have HVT := Lib.hid hv
      have HTL := Lib.hid hTl
      have HLOW := Lib.hid hlow
      clear hv hTl hlow
      go_wp2
      go_loopw [8, 9, 10] (fun v cv kv wi => ∃ (k c : Nat) (N : List Nat) (q : Option Addr) (qc : Nat), k ≤ i + lb + 1 ∧ kv = .int .i64 k ∧ cv = .int .u64 c ∧ c ≤ 9 * i + 9 ∧ v = .slice q N.length qc ∧ Hid (N.length = k) ∧ Hid (Own wi w.heap.size 5 .u8 (.slice q N.length qc) N) ∧ Hid (Digs 10 N) ∧ Hid (nv 10 N + 10 ^ k * c = nv 10 (T.take k)) ∧ Hid (Own wi g 25 .u64 (.slice (some ⟨g, 0, none⟩) (i + lb + 1) (i + lb + 1)) T) ∧ Hid (Below w.heap.size w wi)) (fun _ _ k _ => i + lb + 1 - (intOf k).toNat)
      case atStart =>
        refine ⟨0, 0, [], none, 0, by omega, rfl, rfl, by omega, rfl, rfl, own_nil _ _ _ _, (fun x hx => nomatch hx), ?_, HO, HB⟩
        show nv 10 [] + 10 ^ 0 * 0 = nv 10 (T.take 0)
        simp [nv]
      case round =>
        obtain ⟨k, c, N, q, qc, hk1, rfl, rfl, hc, rfl, HN, HO2, HD, HV, HOT, HB2⟩ := hrel
        rename World => wi
        by_cases hkl : k < i + lb + 1
        · have hkT : k < T.length := by rw [HTL.out]; exact hkl
          have hct := own_cell HOT.out HTL.out k hkl
          have htk := nv_take_succ 10 T k hkT
          have ht := HLOW.out k
          have HTK := Lib.hid htk
          have ho3 := HO2.out
          unfold Own at ho3
          have HO4 := Lib.hid ho3
          have HNL : Hid (N.length ≤ 3000000000) := by have := HN.out; show _ ≤ _; omega
          clear htk ho3
          generalize gd T k = t at *
          have hklI : (k : Int) < i + lb + 1 := by omega
          have t1 : 0 ≤ (c : Int) + t := by omega
          have t2 : (c : Int) + t ≤ 900000000090 := by omega
          have tI : (t : Int) ≤ 81000000081 := by omega
          have cI : (c : Int) ≤ 9000000009 := by omega
          have t3 : 0 ≤ ((c : Int) + t) % 10 := by omega
          have t4 : ((c : Int) + t) % 10 ≤ 255 := by omega
          have t5 : 0 ≤ ((c : Int) + t) / 10 := by omega
          have t6 : ((c : Int) + t) / 10 ≤ 90000000009 := by omega
          have EM : Hid (((c : Int) + t) % 10 = (((c + t) % 10 : Nat) : Int)) := by show _ = _; omega
          have ED : Hid (((c : Int) + t) / 10 = (((c + t) / 10 : Nat) : Int)) := by show _ = _; omega
          have HTB : Hid (t ≤ 81 * i + 81 ∧ c ≤ 9 * i + 9) := ⟨ht, hc⟩
          clear ht hc
          go_wp2_with (at_builtin; refine wpList_append_own _ rfl _ _ 59 rfl w.heap.size 5 i0 (.int .u8 0) 1 1 Tryz.underlying59 hi hz0 hz1 hz2 rfl (by decide) (.slice q N.length qc) N.length _ rfl (HO4.out.alloc _) ⟨wi.heap.size, 0, none⟩ 1 1 [.int .u8 (((c : Int) + t) % 10)] rfl rfl ?k1 ?k2 ?k3 ?k4 ?k5 ?_)
          try case k1 => exact cell_one_new _ _ _
          case k2 => simp [Value.oneCell']
          case k3 => have := HNL.out; simp only [maxLen]; omega
          case k4 => have := HNL.out; omega
          case k5 => have := HB2.out.size; simp; omega
          intro v' w5 hown5 hgrow5 _
          rw [EM.out] at hown5
          have hO5 := own_appended rfl hown5
          have hb5 : Below w.heap.size w w5 := ((HB2.out.alloc HB2.out.size _).grown hgrow5 (by have := HB2.out.size; simp; omega) (fun k hk => (HO4.out.lt k hk).1))
          have hot5 : Own w5 g 25 .u64 (.slice (some ⟨g, 0, none⟩) (i + lb + 1) (i + lb + 1)) T :=
            own_kept (own_below HOT.out ((Below.refl _ _).alloc (Nat.le_refl _) _)) hgrow5 (own_two HOT.out HO2.out (by decide))
          obtain ⟨p', c', hs'⟩ : ∃ p' c', v' = .slice p' (N ++ [(c + t) % 10]).length c' := by
            obtain ⟨p', c', hs', _⟩ := own_form hO5
            exact ⟨p', c', hs'⟩
          rw [hs'] at hO5 ⊢
          have HO5 := Lib.hid hO5
          have HB5 := Lib.hid hb5
          have HOT5 := Lib.hid hot5
          have HN5 : Hid ((N ++ [(c + t) % 10]).length = k + 1) := by show _ = _; rw [List.length_append, HN.out]; rfl
          have HD5 : Hid (Digs 10 (N ++ [(c + t) % 10])) := digs_append.2 ⟨HD.out, fun x hx => by rw [List.mem_singleton.1 hx]; exact Nat.mod_lt _ (by omega)⟩
          have HV5 : Hid (nv 10 (N ++ [(c + t) % 10]) + 10 ^ (k + 1) * ((c + t) / 10) = nv 10 (T.take (k + 1))) := by
            show _ = _
            have h1 := HV.out
            have e1 : 10 ^ (k + 1) * ((c + t) / 10) = 10 ^ k * (10 * ((c + t) / 10)) := by rw [Nat.pow_succ, Nat.mul_assoc]
            have e2 : 10 ^ k * ((c + t) % 10) + 10 ^ k * (10 * ((c + t) / 10)) = 10 ^ k * (c + t) := by rw [← Nat.mul_add, Nat.mod_add_div]
            have e3 : 10 ^ k * (c + t) = 10 ^ k * c + 10 ^ k * t := Nat.mul_add ..
            rw [nv_snoc, HN.out, HTK.out]
            omega
          clear hs' hown5 hgrow5 hO5 hb5 hot5 hct
          generalize N ++ [(c + t) % 10] = N2 at *
          go_wp2
          go_roundw
          case rel => exact ⟨k + 1, (c + t) / 10, N2, p', c', by omega, by go_num, by rw [ED.out], by have := HTB.out; omega, rfl, HN5, HO5, HD5, HV5, HOT5, HB5⟩
          case measure => simp [intOf]; omega
        · obtain rfl : k = i + lb + 1 := by omega
          have hcz : nv 10 N = nv 10 a * nv 10 b := by
            have h1 := HV.out
            rw [← HTL.out, List.take_length, HVT.out, HTL.out] at h1
            by_cases h0 : c = 0
            · subst h0; omega
            · exfalso
              have b1 := nv_lt 10 a D1.out
              have b2 := nv_lt 10 b D2.out
              have b3 : nv 10 a * nv 10 b ≤ 10 ^ a.length * 10 ^ b.length := Nat.mul_le_mul (Nat.le_of_lt b1) (Nat.le_of_lt b2)
              rw [← Nat.pow_add, ← HLA.out, ← HLB.out] at b3
              have b4 : 10 ^ (i + lb + 1) = 10 ^ (i + lb) * 10 := Nat.pow_succ ..
              have b5 : 10 ^ (i + lb + 1) * 1 ≤ 10 ^ (i + lb + 1) * c := Nat.mul_le_mul_left _ (by omega)
              have b6 : 0 < 10 ^ (i + lb) := Nat.pow_pos (by omega)
              omega
          have HCZ := Lib.hid hcz
          have HTR := Lib.hid (trim_own HO2.out)
          have hklI : ¬ ((i : Int) + lb + 1 < i + lb + 1) := by omega
          clear hcz
          go_wp2_with fail
          refine HTR.out.mono ?_
          rintro e w6 ⟨M2, rfl, hM2, hO6, rfl⟩
          have HM2 := Lib.hid hM2
          have HO6 := Lib.hid hO6
          clear hM2 hO6
          go_wp2
          go_ret
          exact ⟨q, qc, M2, rfl, ⟨HO6.out, by rw [HM2.out]; exact digs_take HD.out _, by rw [HM2.out]; exact right_take_tlen _, by rw [HM2.out, nv_tlen, HCZ.out]⟩, HB2.out⟩
end Go.Proofs.YtcahnkocfbcchaaGreatDoor

