/- The walk of Parse: the number of any text of digits, or that it is none's. -/
import Derived.Test.YteiadigkbhbolaaDoorWu
namespace Go.Proofs.YteiadigkbhbolaaDoor
open Go.RowKit Tnd

set_option maxRecDepth 100000 in
theorem parse_no (s : ByteArray) (w : World) (hs : s.size ≤ 8000000000) (hn : ¬ IsNum s) :
    Calls Tryd.prog 7 #[.string s] w fun e w' => e = .returned (.tuple #[.agg #[.slice none 0 0], .bool false]) ∧ Below w.heap.size w w' := by
  obtain ⟨w0, hw0⟩ : ∃ w0, w0 = w.alloc (.cells #[.slice none 0 0] 25) := ⟨_, rfl⟩
  have hB0 : Below w.heap.size w w0 := by subst hw0; exact (Below.refl _ _).alloc (Nat.le_refl _) _
  have hR0 : w0.heap[w.heap.size]? = some (.cells #[.slice none 0 0] 25 (0, 0)) := by subst hw0; exact heap_alloc_new w _
  have HDEC := Lib.hid (decimal_any s w0 (by omega))
  have HW0 := Lib.hid hw0
  have HB0 := Lib.hid hB0
  have HR0 := Lib.hid hR0
  have HN := Lib.hid hn
  clear hw0 hB0 hR0 hn
  go_enter Tryd.func7, Tryd.ntmps7
  go_wp2_with fail
  rw [← HW0.out]
  refine HDEC.out.mono ?_
  rintro e w1 ⟨hd, n, rfl⟩
  rcases hd with ⟨_, h⟩ | ⟨rfl, _⟩
  · exact absurd h HN.out
  have hB1 : Below w0.heap.size w0 (w0.drewN n) := Joins.below_draws _ _ _
  have hR1 : (w0.drewN n).heap[w.heap.size]? = some (.cells #[.slice none 0 0] 25 (0, 0)) := HR0.out
  have hcr := cell_of_one hR1
  have hfr := free_of_one hR1
  have HB1 := Lib.hid hB1
  clear hR1 hB1
  generalize w0.drewN n = w1 at *
  go_wp2
  refine bodyPost_ret (v := .tuple #[.agg #[.slice none 0 0], .bool false]) (by simp [results, Tryd.results7, go_sem, hcr]) rfl ?_
  exact ⟨rfl, (HB0.out.trans (HB1.out.mono HB0.out.size)).setCell (by simp) _⟩

set_option maxRecDepth 100000 in
theorem parse_ok (s : ByteArray) (w : World) (hs : s.size ≤ 8000000000) (hn : IsNum s) :
    Calls Tryd.prog 7 #[.string s] w fun e w' => ∃ v, e = .returned (.tuple #[v, .bool true]) ∧ FNat w' w.heap.size v (rest s 0) ∧ Below w.heap.size w w' := by
  obtain ⟨i0, hi, hz0, hz1, hz2⟩ := info_parts info_u32
  obtain ⟨w0, hw0⟩ : ∃ w0, w0 = w.alloc (.cells #[.slice none 0 0] 25) := ⟨_, rfl⟩
  have hB0 : Below w.heap.size w w0 := by subst hw0; exact (Below.refl _ _).alloc (Nat.le_refl _) _
  have hR0 : w0.heap[w.heap.size]? = some (.cells #[.slice none 0 0] 25 (0, 0)) := by subst hw0; exact heap_alloc_new w _
  have hs0 : w0.heap.size = w.heap.size + 1 := by subst hw0; simp
  have HDEC := Lib.hid (decimal_any s w0 (by omega))
  have HW0 := Lib.hid hw0
  have HB0 := Lib.hid hB0
  have HR0 := Lib.hid hR0
  have HN := Lib.hid hn
  clear hw0 hB0 hR0 hn
  go_enter Tryd.func7, Tryd.ntmps7
  go_wp2_with fail
  rw [← HW0.out]
  refine HDEC.out.mono ?_
  rintro e w1 ⟨hd, n, rfl⟩
  rcases hd with ⟨rfl, _⟩ | ⟨_, h⟩
  case inr => exact absurd HN.out h
  have hB1 : Below w0.heap.size w0 (w0.drewN n) := Joins.below_draws _ _ _
  have HB1 := Lib.hid hB1
  have HS1 := Lib.hid (show w0.heap.size ≤ (w0.drewN n).heap.size from hB1.size)
  have HS0 := Lib.hid hs0
  clear hB1 hs0
  generalize w0.drewN n = w1 at *
  go_wp2_with (at_make; refine wpList_make_own _ rfl _ _ 48 rfl w0.heap.size 47 i0 (.int .u32 0) 1 Tryd.underlying48 hi hz0 hz1 .i64 .i64 _ (s.size / 9 + 1) rfl rfl ?m1 ?m3 ?m4 ?m5 ?_)
  case m1 => push_cast; rfl
  case m3 => rw [hz2]; omega
  case m4 => simp only [maxLen]; omega
  case m5 => exact HS1.out
  intro w2 hown2 hgrow2
  have hb2 : Below w0.heap.size w0 w2 := HB1.out.grown hgrow2 HB1.out.size (by simp)
  have hO2 : Own w2 w0.heap.size 47 .u32 (.slice (some ⟨w1.heap.size, 0, none⟩) 0 (s.size / 9 + 1)) [] := hown2
  have HB2 := Lib.hid hb2
  have HO2 := Lib.hid hO2
  clear hb2 hO2 hown2 hgrow2
  go_wp2
  go_loopw [4, 5] (fun v i wr => ∃ (k : Nat) (j : Int) (G : List Nat) (q : Option Addr) (qc : Nat), j = (s.size : Int) - 9 * k ∧ -9 < j ∧ G.length = k ∧ i = .int .i64 j ∧ v = .slice q G.length qc ∧ Hid (Own wr w0.heap.size 47 .u32 (.slice q G.length qc) G) ∧ Hid (Digs 1000000000 G) ∧ Hid (nv 1000000000 G = rest s (s.size - 9 * k)) ∧ Hid (Below w0.heap.size w0 wr)) (fun _ i _ => (intOf i).toNat)
  case atStart =>
    refine ⟨0, s.size, [], _, _, by omega, by omega, rfl, rfl, rfl, HO2, (fun _ hx => nomatch hx), ?_, HB2⟩
    show nv _ [] = rest s (s.size - 9 * 0)
    unfold rest
    rw [show s.size - 9 * 0 = s.data.toList.length by simp, List.drop_length]; rfl
  case round =>
    obtain ⟨k, j, G, q, qc, hj, hj9, hGk, rfl, rfl, HO, HD, HV, HB⟩ := hrel
    rename World => wr
    by_cases hj0 : 0 < j
    · obtain ⟨e, rfl⟩ : ∃ e : Nat, j = e := ⟨j.toNat, by omega⟩
      have he : e = s.size - 9 * k := by omega
      obtain ⟨u, hpu, hu, hd2, hv2⟩ := group_step HN.out k G hGk HD.out (by omega) HV.out
      rw [← he] at hpu
      have hex : (s.extract (e - 9) e).size ≤ 9223372036854775806 := by
        have h1 : (s.extract (e - 9) e).size = min e s.size - (e - 9) := by simp
        omega
      have HPU := Lib.hid (Tryd.strconv_ParseUint_10_at32_ok (s.extract (e - 9) e) hex u hpu wr)
      have E1 := Lib.hid (show (max 0 ((e : Int) - 9)).toNat = e - 9 by omega)
      have e2 : (e : Int) ≤ (s.size : Int) := by omega
      have HD2 := Lib.hid hd2
      have HV2 := Lib.hid hv2
      have HJ := Lib.hid hj
      have HE := Lib.hid he
      have HGK := Lib.hid hGk
      have HUI := Lib.hid hu
      have HGL := Lib.hid (show G.length ≤ 1000000000 by omega)
      clear hpu hd2 hv2 hj he hGk hex hu
      go_wp2_with fail
      rw [E1.out]
      refine HPU.out.mono ?_
      rintro e0 w3 ⟨rfl, hw3⟩
      have hb3 : Below wr.heap.size wr w3 := by
        rcases hw3 with rfl | rfl
        · exact Below.refl _ _
        · exact Joins.below_bytesWorld _ _ _ _ (Nat.le_refl _)
      have ho3 := own_below HO.out hb3
      have hb03 : Below w0.heap.size w0 w3 := HB.out.trans (hb3.mono HB.out.size)
      unfold Own at ho3
      have HO4 := Lib.hid ho3
      have HB3 := Lib.hid hb03
      clear hb3 ho3 hb03 hw3
      have hu1 : (u : Int) ≤ 4294967295 := by have := HUI.out; omega
      have hu0 : 0 ≤ (u : Int) := by omega
      go_wp2_with (at_builtin; refine wpList_append_own _ rfl _ _ 48 rfl w0.heap.size 47 i0 (.int .u32 0) 1 4 Tryd.underlying48 hi hz0 hz1 hz2 rfl (by decide) (.slice q G.length qc) G.length _ rfl (HO4.out.alloc _) ⟨w3.heap.size, 0, none⟩ 1 1 [.int .u32 ((u : Nat) : Int)] rfl rfl ?c1 ?c2 ?c3 ?c4 ?c5 ?_)
      case c1 => exact cell_one_new _ _ _
      case c2 => simp [Value.oneCell']
      case c3 => have := HGL.out; simp only [maxLen]; omega
      case c4 => have := HGL.out; omega
      case c5 => have := HB3.out.size; simp; omega
      intro v' w5 hown5 hgrow5 _
      have hO5 := own_appended rfl hown5
      have hb5 : Below w0.heap.size w0 w5 := ((HB3.out.alloc HB3.out.size _).grown hgrow5 (by have := HB3.out.size; simp; omega) (fun k hk => (HO4.out.lt k hk).1))
      obtain ⟨p', c', hs'⟩ : ∃ p' c', v' = .slice p' (G ++ [u]).length c' := by
        obtain ⟨p', c', hs', _⟩ := own_form hO5
        exact ⟨p', c', hs'⟩
      rw [hs'] at hO5 ⊢
      have HG2 := Lib.hid (show (G ++ [u]).length = k + 1 by rw [List.length_append, List.length_singleton, HGK.out])
      have HO5 := Lib.hid hO5
      have HB5 := Lib.hid hb5
      clear hs' hown5 hgrow5 hO5 hb5
      generalize G ++ [u] = G2 at *
      go_wp2
      go_roundw
      case rel =>
        have h1 := HJ.out
        exact ⟨k + 1, (e : Int) - 9, G2, p', c', by push_cast; omega, by omega, HG2.out, by go_num, rfl, HO5, HD2, HV2, HB5⟩
      case measure => simp [intOf]; omega
    · have hz : s.size - 9 * k = 0 := by omega
      have hv : nv 1000000000 G = rest s 0 := by have h := HV.out; rw [hz] at h; exact h
      obtain ⟨_, _, hq, _, _, _, hsl, _⟩ := own_form HO.out
      simp only [Value.slice.injEq, true_and] at hq
      obtain ⟨rfl, rfl⟩ := hq
      have HTU := Lib.hid (turned_any _ qc G 1000000000 4294967296 wr hsl HD.out (by omega) (by omega) (by omega) (by omega) (by omega))
      have HVL := Lib.hid hv
      have HGL := Lib.hid (show G.length ≤ 1000000000 by omega)
      clear hv hsl hz hj hj9 hGk
      go_wp2_with fail
      refine HTU.out.mono ?_
      rintro e w3 ⟨r, rc, N, rfl, hO, hdN, hrN, hvN, hNl, hb3⟩
      have HB3 := Lib.hid (HB.out.trans (hb3.mono HB.out.size))
      have HNAT := Lib.hid (nat_any wr.heap.size (.slice r N.length rc) N w3 hO hdN hb3.size (by have := HGL.out; omega))
      have HVN := Lib.hid hvN
      have HBS := Lib.hid HB.out.size
      clear hO hdN hrN hvN hb3 HTU hNl
      go_wp2_with fail
      refine HNAT.out.mono ?_
      rintro e w6 ⟨v, rfl, hf6, hb6⟩
      have hR6 : w6.heap[w.heap.size]? = some (.cells #[.slice none 0 0] 25 (0, 0)) := by
        rw [hb6.block _ (by have := HB3.out.size; have := HS0.out; omega), HB3.out.block _ (by have := HS0.out; omega)]; exact HR0.out
      have hcr := cell_of_one hR6
      have hfr := free_of_one hR6
      have HR6 := Lib.hid hR6
      have HB6 := Lib.hid hb6
      have HF6 := Lib.hid hf6
      clear hR6 hb6 hf6 HNAT
      obtain ⟨rp, rc, rl, hv, _⟩ := HF6.out
      subst hv
      go_wp2
      refine bodyPost_ret (v := .tuple #[.agg #[.slice rp rl.length rc], .bool true]) (by simp [results, Tryd.results7, go_sem, hcr]) rfl ?_
      refine ⟨_, rfl, ?_, ((HB0.out.trans (HB3.out.mono HB0.out.size)).trans (HB6.out.mono (by have := HB3.out.size; have := HS0.out; omega))).setCell (by simp) _⟩
      rw [← HVL.out, ← HVN.out]
      exact (HF6.out.setCell HR6.out (by decide) _).down (by have := HBS.out; have := HS0.out; omega)
end Go.Proofs.YteiadigkbhbolaaDoor
