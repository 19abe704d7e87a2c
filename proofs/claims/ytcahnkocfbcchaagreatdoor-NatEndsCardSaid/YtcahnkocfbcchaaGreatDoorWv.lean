/- The walk of decimal: is a text a number's? -/
/- Plain mathematics of a decimal text that is read in groups of nine from its end. -/
/- The walk of Parse: the number of any text of digits, or that it is none's. -/
import Derived.Test.YtcahnkocfbcchaaGreatDoorWs

namespace Go.Proofs.YtcahnkocfbcchaaGreatDoor
open Go.RowKit Tnd

/-- byte i of a text. -/
def bt (s : ByteArray) (i : Nat) : Nat := (s.data.toList.getD i 0).toNat
theorem bt_at (s : ByteArray) (i : Nat) (h : i < s.size) : (s[i]'h).toNat = bt s i := by
  unfold bt
  have h' : i < s.data.toList.length := by simpa using h
  simp only [List.getD, List.getElem?_eq_getElem h', Option.getD_some]
  rfl
/-- digits alone, and no 0 ahead of others. -/
def IsNum (s : ByteArray) : Prop := 0 < s.size ∧ ¬ (bt s 0 = 48 ∧ 1 < s.size) ∧ ∀ i, i < s.size → 48 ≤ bt s i ∧ bt s i ≤ 57

set_option maxRecDepth 100000 in
theorem decimal_any (s : ByteArray) (w : World) (hs : s.size ≤ 9223372036854775806) :
    Calls Tryz.prog 59 #[.string s] w fun e w' => ((e = .returned (.bool true) ∧ IsNum s) ∨ (e = .returned (.bool false) ∧ ¬ IsNum s)) ∧ ∃ n, w' = w.drewN n := by
  by_cases h0 : s.size = 0
  · obtain rfl : s = ⟨#[]⟩ := by
      obtain ⟨⟨l⟩⟩ := s
      have : l = [] := by simpa [ByteArray.size] using h0
      rw [this]
    go_enter Tryz.func59, Tryz.ntmps59
    go_wp2
    go_ret
    exact ⟨.inr ⟨rfl, fun h => absurd h.1 (by decide)⟩, 0, rfl⟩
  · have hne : s.toList.isEmpty = false := by
      have h1 : s.toList.length = s.size := by rw [ByteArray.toList_eq]; simp
      cases h : s.toList with
      | nil => rw [h] at h1; exact absurd h1.symm h0
      | cons a b => rfl
    have hb0 := bt_at s 0 (by omega)
    by_cases g1 : bt s 0 = 48
    · by_cases g2 : 1 < s.size
      · have HF := Lib.hid (show ¬ IsNum s from fun h => h.2.1 ⟨g1, g2⟩)
        rw [g1] at hb0
        go_enter Tryz.func59, Tryz.ntmps59
        go_wp2
        go_ret
        exact ⟨.inr ⟨rfl, HF.out⟩, 0, rfl⟩
      · have HN := Lib.hid (show ¬ (bt s 0 = 48 ∧ 1 < s.size) from fun h => g2 h.2)
        have HS := Lib.hid g2
        rw [g1] at hb0
        go_enter Tryz.func59, Tryz.ntmps59
        go_wp2
        clear g1 g2 hb0
        go_loopw [18] (fun i wr => ∃ (k n : Nat), k ≤ s.size ∧ i = .int .i64 k ∧ Hid (∀ j, j < k → 48 ≤ bt s j ∧ bt s j ≤ 57) ∧ wr = w.drewN n) (fun i _ => s.size - (intOf i).toNat)
        case atStart => exact ⟨0, 0, by omega, rfl, fun j hj => absurd hj (by omega), rfl⟩
        case round =>
          obtain ⟨k, n, hk, rfl, HT, rfl⟩ := hrel
          by_cases hk1 : k < s.size
          · have hbk := bt_at s k hk1
            by_cases c1 : bt s k < 48
            · have HF := Lib.hid (show ¬ IsNum s from fun h => by have := (h.2.2 k hk1).1; omega)
              clear HS HN
              go_wp2
              go_ret
              exact ⟨.inr ⟨rfl, HF.out⟩, _, rfl⟩
            · by_cases c2 : 57 < bt s k
              · have HF := Lib.hid (show ¬ IsNum s from fun h => by have := (h.2.2 k hk1).2; omega)
                clear HS HN
                go_wp2
                go_ret
                exact ⟨.inr ⟨rfl, HF.out⟩, _, rfl⟩
              · have HT2 : Hid (∀ j, j < k + 1 → 48 ≤ bt s j ∧ bt s j ≤ 57) := fun j hj => by
                  rcases Nat.lt_succ_iff_lt_or_eq.1 hj with h | rfl
                  · exact HT.out j h
                  · omega
                go_wp2
                go_roundw
                case rel => exact ⟨k + 1, _, by omega, by go_num, HT2, rfl⟩
                case measure => simp [intOf]; omega
          · obtain rfl : k = s.size := by omega
            have HF := Lib.hid (show IsNum s from ⟨by omega, HN.out, HT.out⟩)
            go_wp2
            go_ret
            exact ⟨.inl ⟨rfl, HF.out⟩, _, rfl⟩
    · have HN := Lib.hid (show ¬ (bt s 0 = 48 ∧ 1 < s.size) from fun h => g1 h.1)
      have HS := Lib.hid g1
      have g3 : ¬ ((bt s 0 : Nat) : Int) = 48 := by omega
      go_enter Tryz.func59, Tryz.ntmps59
      go_wp2
      clear g1 hb0
      go_loopw [18] (fun i wr => ∃ (k n : Nat), k ≤ s.size ∧ i = .int .i64 k ∧ Hid (∀ j, j < k → 48 ≤ bt s j ∧ bt s j ≤ 57) ∧ wr = w.drewN n) (fun i _ => s.size - (intOf i).toNat)
      case atStart => exact ⟨0, 0, by omega, rfl, fun j hj => absurd hj (by omega), rfl⟩
      case round =>
        obtain ⟨k, n, hk, rfl, HT, rfl⟩ := hrel
        by_cases hk1 : k < s.size
        · have hbk := bt_at s k hk1
          by_cases c1 : bt s k < 48
          · have HF := Lib.hid (show ¬ IsNum s from fun h => by have := (h.2.2 k hk1).1; omega)
            clear HS HN
            go_wp2
            go_ret
            exact ⟨.inr ⟨rfl, HF.out⟩, _, rfl⟩
          · by_cases c2 : 57 < bt s k
            · have HF := Lib.hid (show ¬ IsNum s from fun h => by have := (h.2.2 k hk1).2; omega)
              clear HS HN
              go_wp2
              go_ret
              exact ⟨.inr ⟨rfl, HF.out⟩, _, rfl⟩
            · have HT2 : Hid (∀ j, j < k + 1 → 48 ≤ bt s j ∧ bt s j ≤ 57) := fun j hj => by
                rcases Nat.lt_succ_iff_lt_or_eq.1 hj with h | rfl
                · exact HT.out j h
                · omega
              go_wp2
              go_roundw
              case rel => exact ⟨k + 1, _, by omega, by go_num, HT2, rfl⟩
              case measure => simp [intOf]; omega
        · obtain rfl : k = s.size := by omega
          have HF := Lib.hid (show IsNum s from ⟨by omega, HN.out, HT.out⟩)
          go_wp2
          go_ret
          exact ⟨.inl ⟨rfl, HF.out⟩, _, rfl⟩
end Go.Proofs.YtcahnkocfbcchaaGreatDoor


namespace Go.Proofs.YtcahnkocfbcchaaGreatDoor
open Go.RowKit Tnd

/-- digits alone. -/
def AllD (l : List UInt8) : Prop := ∀ c, c ∈ l → 48 ≤ c.toNat ∧ c.toNat ≤ 57
theorem rd_cons (c : UInt8) (l : List UInt8) : rd (c :: l) = (c.toNat - 48) * 10 ^ l.length + rd l := by
  have h := rd_from l (10 * 0 + (c.toNat - 48))
  simp only [Nat.mul_zero, Nat.zero_add] at h
  rw [← h]
  simp [rd]
theorem rd_lt (l : List UInt8) (h : AllD l) : rd l < 10 ^ l.length := by
  induction l with
  | nil => simp [rd]
  | cons c l ih =>
    have h1 := ih fun x hx => h x (List.mem_cons_of_mem _ hx)
    have h2 := h c (by simp)
    rw [rd_cons, List.length_cons, Nat.pow_succ]
    have h3 : (c.toNat - 48) * 10 ^ l.length ≤ 9 * 10 ^ l.length := Nat.mul_le_mul_right _ (by omega)
    omega
theorem parseM_ok : ∀ (l : List UInt8) (acc : Nat), AllD l → acc * 10 ^ l.length + rd l ≤ 4294967295 → Lib.parseUintM 4294967295 acc l = .ok (acc * 10 ^ l.length + rd l) := by
  intro l
  induction l with
  | nil => intro acc _ _; simp [Lib.parseUintM, rd]
  | cons c l ih =>
    intro acc h hb
    have h2 := h c (by simp)
    have hp : 1 ≤ 10 ^ l.length := Nat.pow_pos (by omega)
    rw [rd_cons, List.length_cons, Nat.pow_succ] at hb
    have e : acc * (10 ^ l.length * 10) + ((c.toNat - 48) * 10 ^ l.length + rd l) = (acc * 10 + (c.toNat - 48)) * 10 ^ l.length + rd l := by
      rw [Nat.add_mul, Nat.mul_comm (10 ^ l.length) 10, Nat.mul_assoc]; omega
    rw [e] at hb
    have hs : (acc * 10 + (c.toNat - 48)) * 1 ≤ (acc * 10 + (c.toNat - 48)) * 10 ^ l.length := Nat.mul_le_mul_left _ hp
    have h3 := ih (acc * 10 + (c.toNat - 48)) (fun x hx => h x (List.mem_cons_of_mem _ hx)) hb
    rw [rd_cons, List.length_cons, Nat.pow_succ, e, ← h3]
    conv => lhs; rw [Lib.parseUintM]
    rw [if_pos h2, if_neg (by omega), if_neg (by omega)]
theorem parseB_ok (l : List UInt8) (hn : l ≠ []) (h : AllD l) (hl : l.length ≤ 9) : Lib.parseUintB 32 l = .ok (rd l) := by
  have h1 := rd_lt l h
  have h2 : 10 ^ l.length ≤ 10 ^ 9 := Nat.pow_le_pow_right (by omega) hl
  have h3 := parseM_ok l 0 h (by omega)
  unfold Lib.parseUintB
  rw [if_neg hn]
  show Lib.parseUintM 4294967295 0 l = _
  rw [h3]; simp

/-- the text from byte i on, as a number. -/
def rest (s : ByteArray) (i : Nat) : Nat := rd (s.data.toList.drop i)
theorem num_all {s : ByteArray} (h : IsNum s) : AllD s.data.toList := by
  intro c hc
  obtain ⟨i, hi, rfl⟩ := List.mem_iff_getElem.1 hc
  have h1 := h.2.2 i (by simpa using hi)
  unfold bt at h1
  simp only [List.getD, List.getElem?_eq_getElem hi, Option.getD_some] at h1
  exact h1
/-- one group more. -/
theorem group_step {s : ByteArray} (h : IsNum s) (k : Nat) (G : List Nat) (hG : G.length = k) (hd : Digs 1000000000 G) (he : 0 < s.size - 9 * k) (hv : nv 1000000000 G = rest s (s.size - 9 * k)) :
    ∃ u, Lib.parseUintB 32 (s.extract (s.size - 9 * k - 9) (s.size - 9 * k)).data.toList = .ok u ∧ u < 1000000000 ∧ Digs 1000000000 (G ++ [u]) ∧ nv 1000000000 (G ++ [u]) = rest s (s.size - 9 * (k + 1)) := by
  have hsz : s.data.toList.length = s.size := by simp
  have ha := num_all h
  generalize hL : s.data.toList = L at *
  obtain ⟨e, hE⟩ : ∃ e, e = s.size - 9 * k := ⟨_, rfl⟩
  rw [← hE] at he hv ⊢
  have hpl : ((L.drop (e - 9)).take (e - (e - 9))).length = e - (e - 9) := by rw [List.length_take, List.length_drop]; omega
  have hpd : AllD ((L.drop (e - 9)).take (e - (e - 9))) := fun c hc => ha c (List.mem_of_mem_drop (List.mem_of_mem_take hc))
  have h1 := rd_lt _ hpd
  have hu : rd ((L.drop (e - 9)).take (e - (e - 9))) < 1000000000 := by
    rw [hpl] at h1
    exact Nat.lt_of_lt_of_le h1 (show 10 ^ (e - (e - 9)) ≤ 10 ^ 9 from Nat.pow_le_pow_right (by omega) (by omega))
  refine ⟨rd ((L.drop (e - 9)).take (e - (e - 9))), ?_, hu, ?_, ?_⟩
  · rw [Lib.extract_data, hL]
    exact parseB_ok _ (by intro e0; rw [e0] at hpl; simp at hpl; omega) hpd (by omega)
  · exact digs_append.2 ⟨hd, fun x hx => by rw [List.mem_singleton.1 hx]; exact hu⟩
  · rw [nv_snoc, hv, hG]
    unfold rest
    rw [hL]
    have e1 : s.size - 9 * (k + 1) = e - 9 := by omega
    have e2 : L.drop (e - 9) = (L.drop (e - 9)).take (e - (e - 9)) ++ L.drop e := by
      conv => lhs; rw [← List.take_append_drop (e - (e - 9)) (L.drop (e - 9))]
      rw [List.drop_drop]
      congr 2; omega
    rw [e1]
    conv => rhs; rw [e2, rd_append]
    have e3 : (L.drop e).length = 9 * k := by rw [List.length_drop]; omega
    rw [e3, Nat.pow_mul, Nat.mul_comm, Nat.add_comm]
end Go.Proofs.YtcahnkocfbcchaaGreatDoor


namespace Go.Proofs.YtcahnkocfbcchaaGreatDoor
open Go.RowKit Tnd

set_option maxRecDepth 100000 in
theorem parse_no (s : ByteArray) (w : World) (hs : s.size ≤ 8000000000) (hn : ¬ IsNum s) :
    Calls Tryz.prog 28 #[.string s] w fun e w' => e = .returned (.tuple #[.agg #[.slice none 0 0], .bool false]) ∧ Below w.heap.size w w' := by
  obtain ⟨w0, hw0⟩ : ∃ w0, w0 = w.alloc (.cells #[.slice none 0 0] 24) := ⟨_, rfl⟩
  have hB0 : Below w.heap.size w w0 := by subst hw0; exact (Below.refl _ _).alloc (Nat.le_refl _) _
  have hR0 : w0.heap[w.heap.size]? = some (.cells #[.slice none 0 0] 24 (0, 0)) := by subst hw0; exact heap_alloc_new w _
  have HDEC := Lib.hid (decimal_any s w0 (by omega))
  have HW0 := Lib.hid hw0
  have HB0 := Lib.hid hB0
  have HR0 := Lib.hid hR0
  have HN := Lib.hid hn
  clear hw0 hB0 hR0 hn
  go_enter Tryz.func28, Tryz.ntmps28
  go_wp2_with fail
  rw [← HW0.out]
  refine HDEC.out.mono ?_
  rintro e w1 ⟨hd, n, rfl⟩
  rcases hd with ⟨_, h⟩ | ⟨rfl, _⟩
  · exact absurd h HN.out
  have hB1 : Below w0.heap.size w0 (w0.drewN n) := Joins.below_draws _ _ _
  have hR1 : (w0.drewN n).heap[w.heap.size]? = some (.cells #[.slice none 0 0] 24 (0, 0)) := HR0.out
  have hcr := cell_of_one hR1
  have hfr := free_of_one hR1
  have HB1 := Lib.hid hB1
  clear hR1 hB1
  generalize w0.drewN n = w1 at *
  go_wp2
  refine bodyPost_ret (v := .tuple #[.agg #[.slice none 0 0], .bool false]) (by simp [results, Tryz.results28, go_sem, hcr]) rfl ?_
  exact ⟨rfl, (HB0.out.trans (HB1.out.mono HB0.out.size)).setCell (by simp) _⟩

set_option maxRecDepth 100000 in
theorem parse_ok (s : ByteArray) (w : World) (hs : s.size ≤ 8000000000) (hn : IsNum s) :
    Calls Tryz.prog 28 #[.string s] w fun e w' => ∃ v, e = .returned (.tuple #[v, .bool true]) ∧ FNat w' w.heap.size v (rest s 0) ∧ Below w.heap.size w w' := by
  obtain ⟨i0, hi, hz0, hz1, hz2⟩ := info_parts info_u32
  obtain ⟨w0, hw0⟩ : ∃ w0, w0 = w.alloc (.cells #[.slice none 0 0] 24) := ⟨_, rfl⟩
  have hB0 : Below w.heap.size w w0 := by subst hw0; exact (Below.refl _ _).alloc (Nat.le_refl _) _
  have hR0 : w0.heap[w.heap.size]? = some (.cells #[.slice none 0 0] 24 (0, 0)) := by subst hw0; exact heap_alloc_new w _
  have hs0 : w0.heap.size = w.heap.size + 1 := by subst hw0; simp
  have HDEC := Lib.hid (decimal_any s w0 (by omega))
  have HW0 := Lib.hid hw0
  have HB0 := Lib.hid hB0
  have HR0 := Lib.hid hR0
  have HN := Lib.hid hn
  clear hw0 hB0 hR0 hn
  go_enter Tryz.func28, Tryz.ntmps28
  go_wp2_with fail
  rw [← HW0.out]
  refine HDEC.out.mono ?_
  rintro e w1 ⟨hd, n, rfl⟩
  rcases hd with ⟨rfl, _⟩ | ⟨_, h⟩
  case inr => exact absurd HN.out h
  have hB1 : Below w0.heap.size w0 (w0.drewN n) := Joins.below_draws _ _ _
  have HB1 := Lib.hid hB1
  have HS1 := Lib.hid (show w0.heap.size ≤ (w0.drewN n).heap.size from hB1.size)
  have HS0 := Lib.hid hs0
  clear hB1 hs0
  generalize w0.drewN n = w1 at *
  go_wp2_with (at_make; refine wpList_make_own _ rfl _ _ 52 rfl w0.heap.size 46 i0 (.int .u32 0) 1 Tryz.underlying52 hi hz0 hz1 .i64 .i64 _ (s.size / 9 + 1) rfl rfl ?m1 ?m3 ?m4 ?m5 ?_)
  case m1 => push_cast; rfl
  case m3 => rw [hz2]; omega
  case m4 => simp only [maxLen]; omega
  case m5 => exact HS1.out
  intro w2 hown2 hgrow2
  have hb2 : Below w0.heap.size w0 w2 := HB1.out.grown hgrow2 HB1.out.size (by simp)
  have hO2 : Own w2 w0.heap.size 46 .u32 (.slice (some ⟨w1.heap.size, 0, none⟩) 0 (s.size / 9 + 1)) [] := hown2
  have HB2 := Lib.hid hb2
  have HO2 := Lib.hid hO2
  clear hb2 hO2 hown2 hgrow2
  go_wp2
  go_loopw [4, 5] (fun v i wr => ∃ (k : Nat) (j : Int) (G : List Nat) (q : Option Addr) (qc : Nat), j = (s.size : Int) - 9 * k ∧ -9 < j ∧ G.length = k ∧ i = .int .i64 j ∧ v = .slice q G.length qc ∧ Hid (Own wr w0.heap.size 46 .u32 (.slice q G.length qc) G) ∧ Hid (Digs 1000000000 G) ∧ Hid (nv 1000000000 G = rest s (s.size - 9 * k)) ∧ Hid (Below w0.heap.size w0 wr)) (fun _ i _ => (intOf i).toNat)
  case atStart =>
    refine ⟨0, s.size, [], _, _, by omega, by omega, rfl, rfl, rfl, HO2, (fun _ hx => nomatch hx), ?_, HB2⟩
    show nv _ [] = rest s (s.size - 9 * 0)
    unfold rest
    rw [show s.size - 9 * 0 = s.data.toList.length by simp, List.drop_length]; rfl
  case round =>
    obtain ⟨k, j, G, q, qc, hj, hj9, hGk, rfl, rfl, HO, HD, HV, HB⟩ := hrel
    rename World => wr
    by_cases hj0 : 0 < j
    · obtain ⟨e, rfl⟩ : ∃ e : Nat, j = e := ⟨j.toNat, by omega⟩
      have he : e = s.size - 9 * k := by omega
      obtain ⟨u, hpu, hu, hd2, hv2⟩ := group_step HN.out k G hGk HD.out (by omega) HV.out
      rw [← he] at hpu
      have hex : (s.extract (e - 9) e).size ≤ 9223372036854775806 := by
        have h1 : (s.extract (e - 9) e).size = min e s.size - (e - 9) := by simp
        omega
      have HPU := Lib.hid (Tryz.strconv_ParseUint_10_at32_ok (s.extract (e - 9) e) hex u hpu wr)
      have E1 := Lib.hid (show (max 0 ((e : Int) - 9)).toNat = e - 9 by omega)
      have e2 : (e : Int) ≤ (s.size : Int) := by omega
      have HD2 := Lib.hid hd2
      have HV2 := Lib.hid hv2
      have HJ := Lib.hid hj
      have HE := Lib.hid he
      have HGK := Lib.hid hGk
      have HUI := Lib.hid hu
      have HGL := Lib.hid (show G.length ≤ 1000000000 by omega)
      clear hpu hd2 hv2 hj he hGk hex hu
      go_wp2_with fail
      rw [E1.out]
      refine HPU.out.mono ?_
      rintro e0 w3 ⟨rfl, hw3⟩
      have hb3 : Below wr.heap.size wr w3 := by
        rcases hw3 with rfl | rfl
        · exact Below.refl _ _
        · exact Joins.below_bytesWorld _ _ _ _ (Nat.le_refl _)
      have ho3 := own_below HO.out hb3
      have hb03 : Below w0.heap.size w0 w3 := HB.out.trans (hb3.mono HB.out.size)
      unfold Own at ho3
      have HO4 := Lib.hid ho3
      have HB3 := Lib.hid hb03
      clear hb3 ho3 hb03 hw3
      have hu1 : (u : Int) ≤ 4294967295 := by have := HUI.out; omega
      have hu0 : 0 ≤ (u : Int) := by omega
      go_wp2_with (at_builtin; refine wpList_append_own _ rfl _ _ 52 rfl w0.heap.size 46 i0 (.int .u32 0) 1 4 Tryz.underlying52 hi hz0 hz1 hz2 rfl (by decide) (.slice q G.length qc) G.length _ rfl (HO4.out.alloc _) ⟨w3.heap.size, 0, none⟩ 1 1 [.int .u32 ((u : Nat) : Int)] rfl rfl ?c1 ?c2 ?c3 ?c4 ?c5 ?_)
      case c1 => exact cell_one_new _ _ _
      case c2 => simp [Value.oneCell']
      case c3 => have := HGL.out; simp only [maxLen]; omega
      case c4 => have := HGL.out; omega
      case c5 => have := HB3.out.size; simp; omega
      intro v' w5 hown5 hgrow5 _
      have hO5 := own_appended rfl hown5
      have hb5 : Below w0.heap.size w0 w5 := ((HB3.out.alloc HB3.out.size _).grown hgrow5 (by have := HB3.out.size; simp; omega) (fun k hk => (HO4.out.lt k hk).1))
      obtain ⟨p', c', hs'⟩ : ∃ p' c', v' = .slice p' (G ++ [u]).length c' := by
        obtain ⟨p', c', hs', _⟩ := own_form hO5
        exact ⟨p', c', hs'⟩
      rw [hs'] at hO5 ⊢
      have HG2 := Lib.hid (show (G ++ [u]).length = k + 1 by rw [List.length_append, List.length_singleton, HGK.out])
      have HO5 := Lib.hid hO5
      have HB5 := Lib.hid hb5
      clear hs' hown5 hgrow5 hO5 hb5
      generalize G ++ [u] = G2 at *
      go_wp2
      go_roundw
      case rel =>
        have h1 := HJ.out
        exact ⟨k + 1, (e : Int) - 9, G2, p', c', by push_cast; omega, by omega, HG2.out, by go_num, rfl, HO5, HD2, HV2, HB5⟩
      case measure => simp [intOf]; omega
    · have hz : s.size - 9 * k = 0 := by omega
      have hv : nv 1000000000 G = rest s 0 := by have h := HV.out; rw [hz] at h; exact h
      obtain ⟨_, _, hq, _, _, _, hsl, _⟩ := own_form HO.out
      simp only [Value.slice.injEq, true_and] at hq
      obtain ⟨rfl, rfl⟩ := hq
      have HTU := Lib.hid (turned_any _ qc G 1000000000 4294967296 wr hsl HD.out (by omega) (by omega) (by omega) (by omega) (by omega))
      have HVL := Lib.hid hv
      have HGL := Lib.hid (show G.length ≤ 1000000000 by omega)
      clear hv hsl hz hj hj9 hGk
      go_wp2_with fail
      refine HTU.out.mono ?_
      rintro e w3 ⟨r, rc, N, rfl, hO, hdN, hrN, hvN, hNl, hb3⟩
      have HB3 := Lib.hid (HB.out.trans (hb3.mono HB.out.size))
      have HNAT := Lib.hid (nat_any wr.heap.size (.slice r N.length rc) N w3 hO hdN hb3.size (by have := HGL.out; omega))
      have HVN := Lib.hid hvN
      have HBS := Lib.hid HB.out.size
      clear hO hdN hrN hvN hb3 HTU hNl
      go_wp2_with fail
      refine HNAT.out.mono ?_
      rintro e w6 ⟨v, rfl, hf6, hb6⟩
      have hR6 : w6.heap[w.heap.size]? = some (.cells #[.slice none 0 0] 24 (0, 0)) := by
        rw [hb6.block _ (by have := HB3.out.size; have := HS0.out; omega), HB3.out.block _ (by have := HS0.out; omega)]; exact HR0.out
      have hcr := cell_of_one hR6
      have hfr := free_of_one hR6
      have HR6 := Lib.hid hR6
      have HB6 := Lib.hid hb6
      have HF6 := Lib.hid hf6
      clear hR6 hb6 hf6 HNAT
      obtain ⟨rp, rc, rl, hv, _⟩ := HF6.out
      subst hv
      go_wp2
      refine bodyPost_ret (v := .tuple #[.agg #[.slice rp rl.length rc], .bool true]) (by simp [results, Tryz.results28, go_sem, hcr]) rfl ?_
      refine ⟨_, rfl, ?_, ((HB0.out.trans (HB3.out.mono HB0.out.size)).trans (HB6.out.mono (by have := HB3.out.size; have := HS0.out; omega))).setCell (by simp) _⟩
      rw [← HVL.out, ← HVN.out]
      exact (HF6.out.setCell HR6.out (by decide) _).down (by have := HBS.out; have := HS0.out; omega)
end Go.Proofs.YtcahnkocfbcchaaGreatDoor

