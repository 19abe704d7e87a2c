/- The walk of the document's Sum: two rows of decimal digits, added. -/
import Derived.Test.YteiadigkbhbolaaDoorNc
namespace Go.Proofs.YteiadigkbhbolaaDoor
open Go.RowKit Tnd

theorem nv_take_gd (K : Nat) (l : List Nat) (k : Nat) : nv K (l.take (k + 1)) = nv K (l.take k) + K ^ k * gd l k := by
  rcases Nat.lt_or_ge k l.length with h | h
  · exact nv_take_succ K l k h
  · have h1 : l.take (k + 1) = l := List.take_of_length_le (by omega)
    have h2 : l.take k = l := List.take_of_length_le h
    have h3 : gd l k = 0 := getD_off h
    rw [h1, h2, h3]; simp
theorem sum_step {a b N : List Nat} {i c : Nat} (hN : N.length = i) (hd : Digs 10 N) (hv : nv 10 N + 10 ^ i * c = nv 10 (a.take i) + nv 10 (b.take i)) {t : Nat} (ht : t = c + gd a i + gd b i) :
    Digs 10 (N ++ [t % 10]) ∧ nv 10 (N ++ [t % 10]) + 10 ^ (i + 1) * (t / 10) = nv 10 (a.take (i + 1)) + nv 10 (b.take (i + 1)) := by
  subst ht
  refine ⟨digs_append.2 ⟨hd, fun x hx => by rw [List.mem_singleton.1 hx]; exact Nat.mod_lt _ (by omega)⟩, ?_⟩
  rw [nv_snoc, hN, nv_take_gd, nv_take_gd]
  have e1 : 10 ^ (i + 1) * ((c + gd a i + gd b i) / 10) = 10 ^ i * (10 * ((c + gd a i + gd b i) / 10)) := by rw [Nat.pow_succ, Nat.mul_assoc]
  have e2 : 10 ^ i * ((c + gd a i + gd b i) % 10) + 10 ^ i * (10 * ((c + gd a i + gd b i) / 10)) = 10 ^ i * (c + gd a i + gd b i) := by rw [← Nat.mul_add, Nat.mod_add_div]
  have e3 : 10 ^ i * (c + gd a i + gd b i) = 10 ^ i * c + 10 ^ i * gd a i + 10 ^ i * gd b i := by rw [Nat.mul_add, Nat.mul_add]
  omega

def SumPost (a b : List Nat) (w : World) (e : Ending) (w' : World) : Prop :=
  ∃ q qc N, e = .returned (.slice q N.length qc) ∧ DRow w' w.heap.size q qc N (nv 10 a + nv 10 b) ∧ Below w.heap.size w w'

set_option maxHeartbeats 3200000 in
set_option maxRecDepth 100000 in
theorem rsum_any (p1 p2 : Option Addr) (cp1 cp2 : Nat) (a b : List Nat) (w : World) (h1 : Sl w .u8 p1 a) (h2 : Sl w .u8 p2 b) (d1 : Digs 10 a) (d2 : Digs 10 b) (l1 : a.length ≤ 1000000000) (l2 : b.length ≤ 1000000000) :
    Calls Tryd.prog 43 #[.slice p1 a.length cp1, .slice p2 b.length cp2] w (SumPost a b w) := by
  obtain ⟨i0, hi, hz0, hz1, hz2⟩ := info_parts info_u8
  have H1 := Lib.hid h1
  have H2 := Lib.hid h2
  have D1 := Lib.hid d1
  have D2 := Lib.hid d2
  obtain ⟨la, hla⟩ : ∃ la, la = a.length := ⟨_, rfl⟩
  obtain ⟨lb, hlb⟩ : ∃ lb, lb = b.length := ⟨_, rfl⟩
  rw [← hla, ← hlb]
  have HLA := Lib.hid hla
  have HLB := Lib.hid hlb
  have laI : (la : Int) ≤ 1000000000 := by omega
  have lbI : (lb : Int) ≤ 1000000000 := by omega
  clear h1 h2 d1 d2 l1 l2 hla hlb
  go_enter Tryd.func43, Tryd.ntmps43
  go_wp2
  go_loopw [5, 6, 7] (fun v cv iv wr => ∃ (i c : Nat) (N : List Nat) (q : Option Addr) (qc : Nat), i ≤ max la lb ∧ iv = .int .i64 i ∧ cv = .int .u8 c ∧ c ≤ 1 ∧ v = .slice q N.length qc ∧ Hid (N.length = i) ∧ Hid (Own wr w.heap.size 5 .u8 (.slice q N.length qc) N) ∧ Hid (Digs 10 N) ∧ Hid (nv 10 N + 10 ^ i * c = nv 10 (a.take i) + nv 10 (b.take i)) ∧ Hid (Below w.heap.size w wr)) (fun _ _ i _ => max la lb - (intOf i).toNat)
  case atStart =>
    refine ⟨0, 0, [], none, 0, by omega, rfl, rfl, by omega, rfl, rfl, own_nil _ _ _ _, (fun x hx => nomatch hx), ?_, Below.refl _ _⟩
    show nv 10 [] + 10 ^ 0 * 0 = nv 10 (a.take 0) + nv 10 (b.take 0)
    simp [nv]
  case round =>
    obtain ⟨i, c, N, q, qc, hi1, rfl, rfl, hc, rfl, HN, HO, HD, HV, HB⟩ := hrel
    rename World => wr
    have hiI : (i : Int) ≤ 1000000000 := by omega
    have cI : (c : Int) ≤ 1 := by omega
    have HC := Lib.hid hc
    have HI1 := Lib.hid hi1
    have hgl : ∀ (p : Option Addr) (l : List Nat), Sl w .u8 p l → i < l.length → ∃ b off, p = some ⟨b, off, none⟩ ∧ wr.cell? ⟨b, off + i, none⟩ = some (.int .u8 (gd l i : Nat)) := by
      intro p l hs hil
      rcases hs with h | ⟨b, off, h1, h2⟩
      · subst h; simp at hil
      · have h3 := h2 i hil
        exact ⟨b, off, h1, by rw [HB.out.cell (World.block_lt_of_cell? w _ h3)]; exact h3⟩
    have HGL := Lib.hid hgl
    have ho3 := HO.out
    unfold Own at ho3
    have HO4 := Lib.hid ho3
    have HST := Lib.hid (fun t (ht : t = c + gd a i + gd b i) => sum_step HN.out HD.out HV.out ht)
    have X1 := Lib.hid (gd_lt D1.out (by omega) i)
    have X2 := Lib.hid (gd_lt D2.out (by omega) i)
    have HNL : Hid (N.length ≤ 1000000000) := by have := HN.out; show _ ≤ _; omega
    clear hgl hc hi1 ho3
    by_cases hia : i < la
    · by_cases hib : i < lb
      · obtain ⟨b1, o1, rfl, hc1⟩ := HGL.out p1 a H1.out (by rw [← HLA.out]; exact hia)
        obtain ⟨b2, o2, rfl, hc2⟩ := HGL.out p2 b H2.out (by rw [← HLB.out]; exact hib)
        have hst := HST.out
        have x1 := X1.out
        have x2 := X2.out
        generalize gd a i = x at *
        have xI : (x : Int) ≤ 9 := by omega
        generalize gd b i = y at *
        have yI : (y : Int) ≤ 9 := by omega
        have hs2 := hst (c + x + y) rfl
        have HS2 := Lib.hid hs2
        have hiaI : (i : Int) < la := by omega
        have hibI : (i : Int) < lb := by omega
        have EM : Hid ((((c : Int) + (x : Int)) + (y : Int)) % 10 = (((c + x + y) % 10 : Nat) : Int)) := by show _ = _; omega
        have ED : Hid ((((c : Int) + (x : Int)) + (y : Int)) / 10 = (((c + x + y) / 10 : Nat) : Int)) := by show _ = _; omega
        have t1 : 0 ≤ (((c : Int) + (x : Int)) + (y : Int)) := by omega
        have t2 : (((c : Int) + (x : Int)) + (y : Int)) ≤ 19 := by omega
        clear hst hs2 x1 x2 HST
        go_wp2_with (at_builtin; refine wpList_append_own _ rfl _ _ 58 rfl w.heap.size 5 i0 (.int .u8 0) 1 1 Tryd.underlying58 hi hz0 hz1 hz2 rfl (by decide) (.slice q N.length qc) N.length _ rfl (HO4.out.alloc _) ⟨wr.heap.size, 0, none⟩ 1 1 [.int .u8 ((((c : Int) + (x : Int)) + (y : Int)) % 10)] rfl rfl ?k1a ?k2a ?k3a ?k4a ?k5a ?_)
        try case k1a => exact cell_one_new _ _ _
        case k2a => simp [Value.oneCell']
        case k3a => have := HNL.out; simp only [maxLen]; omega
        case k4a => have := HNL.out; omega
        case k5a => have := HB.out.size; simp; omega
        intro v' w5 hown5 hgrow5 _
        rw [EM.out] at hown5
        have hO5 := own_appended rfl hown5
        have hb5 : Below w.heap.size w w5 := ((HB.out.alloc HB.out.size _).grown hgrow5 (by have := HB.out.size; simp; omega) (fun k hk => (HO4.out.lt k hk).1))
        obtain ⟨p', c', hs'⟩ : ∃ p' c', v' = .slice p' (N ++ [(c + x + y) % 10]).length c' := by
          obtain ⟨p', c', hs', _⟩ := own_form hO5
          exact ⟨p', c', hs'⟩
        rw [hs'] at hO5 ⊢
        have HO5 := Lib.hid hO5
        have HB5 := Lib.hid hb5
        have HN5 : Hid ((N ++ [(c + x + y) % 10]).length = i + 1) := by show _ = _; rw [List.length_append, HN.out]; rfl
        clear hs' hown5 hgrow5 hO5 hb5
        have hs3 := HS2.out
        generalize N ++ [(c + x + y) % 10] = N2 at *
        have HS3 := Lib.hid hs3
        clear hs3
        go_wp2
        go_roundw
        case rel => exact ⟨i + 1, (c + x + y) / 10, N2, p', c', by omega, by go_num, by rw [ED.out], by have := HC.out; omega, rfl, HN5, HO5, HS3.out.1, HS3.out.2, HB5⟩
        case measure => simp [intOf]; omega
      · obtain ⟨b1, o1, rfl, hc1⟩ := HGL.out p1 a H1.out (by rw [← HLA.out]; exact hia)
        have z2 : gd b i = 0 := getD_off (by rw [← HLB.out]; omega)
        have hst := HST.out
        have x1 := X1.out
        have x2 := X2.out
        generalize gd a i = x at *
        have xI : (x : Int) ≤ 9 := by omega
        rw [z2] at hst
        have hs2 := hst (c + x + 0) rfl
        have HS2 := Lib.hid hs2
        have hiaI : (i : Int) < la := by omega
        have hibI : ¬ (i : Int) < lb := by omega
        have EM : Hid (((c : Int) + (x : Int)) % 10 = (((c + x + 0) % 10 : Nat) : Int)) := by show _ = _; omega
        have ED : Hid (((c : Int) + (x : Int)) / 10 = (((c + x + 0) / 10 : Nat) : Int)) := by show _ = _; omega
        have t1 : 0 ≤ ((c : Int) + (x : Int)) := by omega
        have t2 : ((c : Int) + (x : Int)) ≤ 19 := by omega
        clear hst hs2 x1 x2 HST z2
        go_wp2_with (at_builtin; refine wpList_append_own _ rfl _ _ 58 rfl w.heap.size 5 i0 (.int .u8 0) 1 1 Tryd.underlying58 hi hz0 hz1 hz2 rfl (by decide) (.slice q N.length qc) N.length _ rfl (HO4.out.alloc _) ⟨wr.heap.size, 0, none⟩ 1 1 [.int .u8 (((c : Int) + (x : Int)) % 10)] rfl rfl ?k1b ?k2b ?k3b ?k4b ?k5b ?_)
        try case k1b => exact cell_one_new _ _ _
        case k2b => simp [Value.oneCell']
        case k3b => have := HNL.out; simp only [maxLen]; omega
        case k4b => have := HNL.out; omega
        case k5b => have := HB.out.size; simp; omega
        intro v' w5 hown5 hgrow5 _
        rw [EM.out] at hown5
        have hO5 := own_appended rfl hown5
        have hb5 : Below w.heap.size w w5 := ((HB.out.alloc HB.out.size _).grown hgrow5 (by have := HB.out.size; simp; omega) (fun k hk => (HO4.out.lt k hk).1))
        obtain ⟨p', c', hs'⟩ : ∃ p' c', v' = .slice p' (N ++ [(c + x + 0) % 10]).length c' := by
          obtain ⟨p', c', hs', _⟩ := own_form hO5
          exact ⟨p', c', hs'⟩
        rw [hs'] at hO5 ⊢
        have HO5 := Lib.hid hO5
        have HB5 := Lib.hid hb5
        have HN5 : Hid ((N ++ [(c + x + 0) % 10]).length = i + 1) := by show _ = _; rw [List.length_append, HN.out]; rfl
        clear hs' hown5 hgrow5 hO5 hb5
        have hs3 := HS2.out
        generalize N ++ [(c + x + 0) % 10] = N2 at *
        have HS3 := Lib.hid hs3
        clear hs3
        go_wp2
        go_roundw
        case rel => exact ⟨i + 1, (c + x + 0) / 10, N2, p', c', by omega, by go_num, by rw [ED.out], by have := HC.out; omega, rfl, HN5, HO5, HS3.out.1, HS3.out.2, HB5⟩
        case measure => simp [intOf]; omega
    · by_cases hib : i < lb
      · have z1 : gd a i = 0 := getD_off (by rw [← HLA.out]; omega)
        obtain ⟨b2, o2, rfl, hc2⟩ := HGL.out p2 b H2.out (by rw [← HLB.out]; exact hib)
        have hst := HST.out
        have x1 := X1.out
        have x2 := X2.out
        rw [z1] at hst
        generalize gd b i = y at *
        have yI : (y : Int) ≤ 9 := by omega
        have hs2 := hst (c + 0 + y) rfl
        have HS2 := Lib.hid hs2
        have hiaI : ¬ (i : Int) < la := by omega
        have hibI : (i : Int) < lb := by omega
        have EM : Hid (((c : Int) + (y : Int)) % 10 = (((c + 0 + y) % 10 : Nat) : Int)) := by show _ = _; omega
        have ED : Hid (((c : Int) + (y : Int)) / 10 = (((c + 0 + y) / 10 : Nat) : Int)) := by show _ = _; omega
        have t1 : 0 ≤ ((c : Int) + (y : Int)) := by omega
        have t2 : ((c : Int) + (y : Int)) ≤ 19 := by omega
        clear hst hs2 x1 x2 HST z1
        go_wp2_with (at_builtin; refine wpList_append_own _ rfl _ _ 58 rfl w.heap.size 5 i0 (.int .u8 0) 1 1 Tryd.underlying58 hi hz0 hz1 hz2 rfl (by decide) (.slice q N.length qc) N.length _ rfl (HO4.out.alloc _) ⟨wr.heap.size, 0, none⟩ 1 1 [.int .u8 (((c : Int) + (y : Int)) % 10)] rfl rfl ?k1c ?k2c ?k3c ?k4c ?k5c ?_)
        try case k1c => exact cell_one_new _ _ _
        case k2c => simp [Value.oneCell']
        case k3c => have := HNL.out; simp only [maxLen]; omega
        case k4c => have := HNL.out; omega
        case k5c => have := HB.out.size; simp; omega
        intro v' w5 hown5 hgrow5 _
        rw [EM.out] at hown5
        have hO5 := own_appended rfl hown5
        have hb5 : Below w.heap.size w w5 := ((HB.out.alloc HB.out.size _).grown hgrow5 (by have := HB.out.size; simp; omega) (fun k hk => (HO4.out.lt k hk).1))
        obtain ⟨p', c', hs'⟩ : ∃ p' c', v' = .slice p' (N ++ [(c + 0 + y) % 10]).length c' := by
          obtain ⟨p', c', hs', _⟩ := own_form hO5
          exact ⟨p', c', hs'⟩
        rw [hs'] at hO5 ⊢
        have HO5 := Lib.hid hO5
        have HB5 := Lib.hid hb5
        have HN5 : Hid ((N ++ [(c + 0 + y) % 10]).length = i + 1) := by show _ = _; rw [List.length_append, HN.out]; rfl
        clear hs' hown5 hgrow5 hO5 hb5
        have hs3 := HS2.out
        generalize N ++ [(c + 0 + y) % 10] = N2 at *
        have HS3 := Lib.hid hs3
        clear hs3
        go_wp2
        go_roundw
        case rel => exact ⟨i + 1, (c + 0 + y) / 10, N2, p', c', by omega, by go_num, by rw [ED.out], by have := HC.out; omega, rfl, HN5, HO5, HS3.out.1, HS3.out.2, HB5⟩
        case measure => simp [intOf]; omega
      · have hmx : a.take i = a ∧ b.take i = b := ⟨List.take_of_length_le (by rw [← HLA.out]; omega), List.take_of_length_le (by rw [← HLB.out]; omega)⟩
        have hv := HV.out
        rw [hmx.1, hmx.2, ← HN.out] at hv
        have HV2 := Lib.hid hv
        have hiaI : ¬ (i : Int) < la := by omega
        have hibI : ¬ (i : Int) < lb := by omega
        clear hmx hv HST
        go_wp2_with (first | (at_builtin; refine wpList_append_own _ rfl _ _ 58 rfl w.heap.size 5 i0 (.int .u8 0) 1 1 Tryd.underlying58 hi hz0 hz1 hz2 rfl (by decide) (.slice q N.length qc) N.length _ rfl (HO4.out.alloc _) ⟨wr.heap.size, 0, none⟩ 1 1 [.int .u8 (c : Nat)] rfl rfl ?k1d ?k2d ?k3d ?k4d ?k5d ?_) | fail)
        try case k1d => exact cell_one_new _ _ _
        case k2d => simp [Value.oneCell']
        case k3d => have := HNL.out; simp only [maxLen]; omega
        case k4d => have := HNL.out; omega
        case k5d => have := HB.out.size; simp; omega
        intro v' w5 hown5 hgrow5 _
        have hO5 := own_appended rfl hown5
        have hb5 : Below w.heap.size w w5 := ((HB.out.alloc HB.out.size _).grown hgrow5 (by have := HB.out.size; simp; omega) (fun k hk => (HO4.out.lt k hk).1))
        obtain ⟨p', c', hs'⟩ : ∃ p' c', v' = .slice p' (N ++ [c]).length c' := by
          obtain ⟨p', c', hs', _⟩ := own_form hO5
          exact ⟨p', c', hs'⟩
        subst hs'
        have HTR := Lib.hid (trim_own hO5)
        have HB5 := Lib.hid hb5
        have HV3 : Hid (nv 10 (N ++ [c]) = nv 10 a + nv 10 b) := by show _ = _; rw [nv_snoc]; exact HV2.out
        have HD3 : Hid (Digs 10 (N ++ [c])) := digs_append.2 ⟨HD.out, fun x hx => by rw [List.mem_singleton.1 hx]; have := HC.out; omega⟩
        clear hown5 hgrow5 hO5 hb5
        generalize N ++ [c] = N2 at *
        go_wp2_with fail
        refine HTR.out.mono ?_
        rintro e w6 ⟨M2, rfl, hM2, hO6, rfl⟩
        have HM2 := Lib.hid hM2
        have HO6 := Lib.hid hO6
        clear hM2 hO6
        go_wp2
        go_ret
        exact ⟨p', c', M2, rfl, ⟨HO6.out, by rw [HM2.out]; exact digs_take HD3.out _, by rw [HM2.out]; exact right_take_tlen _, by rw [HM2.out, nv_tlen, HV3.out]⟩, HB5.out⟩
end Go.Proofs.YteiadigkbhbolaaDoor
