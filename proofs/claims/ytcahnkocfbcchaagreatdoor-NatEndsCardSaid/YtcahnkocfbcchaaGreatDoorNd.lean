/- The walk of the document's Parse: the number of any text of digits, or that it is none's. -/
import Derived.Test.YtcahnkocfbcchaaGreatDoorWv
import Derived.Test.YtcahnkocfbcchaaGreatDoorNc

namespace Go.Proofs.YtcahnkocfbcchaaGreatDoor
open Go.RowKit Tnd

theorem bt_byte (s : ByteArray) (k : Nat) (hk : k < s.size) : ∃ c, s.data.toList[k]? = some c ∧ c.toNat = bt s k := by
  have h' : k < s.data.toList.length := by simpa using hk
  refine ⟨s.data.toList[k], List.getElem?_eq_getElem h', ?_⟩
  unfold bt
  simp only [List.getD, List.getElem?_eq_getElem h', Option.getD_some]
theorem rest_step (s : ByteArray) (k : Nat) (hk : k < s.size) : rest s k = (bt s k - 48) * 10 ^ (s.size - (k + 1)) + rest s (k + 1) := by
  obtain ⟨c, h1, h2⟩ := bt_byte s k hk
  obtain ⟨h3, h4⟩ := List.getElem?_eq_some_iff.1 h1
  have hsz : s.data.toList.length = s.size := by simp
  have hlen : (s.data.toList.drop (k + 1)).length = s.size - (k + 1) := by rw [List.length_drop, hsz]
  unfold rest
  rw [List.drop_eq_getElem_cons h3, rd_cons, h4, h2, hlen]
theorem rest_end (s : ByteArray) : rest s s.size = 0 := by
  unfold rest
  rw [show s.size = s.data.toList.length by simp, List.drop_length]; rfl

/-- what the loop knows on the way down. -/
structure RP (s : ByteArray) (k : Nat) (M : List Nat) : Prop where
  len : M.length = s.size - k
  dig : Digs 10 M
  val : nv 10 M = rest s k
  all : ∀ i, k ≤ i → i < s.size → 48 ≤ bt s i ∧ bt s i ≤ 57
theorem RP.start (s : ByteArray) : RP s s.size [] := ⟨by simp, fun x hx => by simp at hx, by rw [rest_end]; rfl, fun i h1 h2 => by omega⟩
theorem RP.step {s : ByteArray} {k : Nat} {M : List Nat} (h : RP s (k + 1) M) (hk : k < s.size) (h1 : 48 ≤ bt s k) (h2 : bt s k ≤ 57) : RP s k (M ++ [bt s k - 48]) := by
  refine ⟨?_, ?_, ?_, ?_⟩
  · rw [List.length_append, h.len, List.length_singleton]; omega
  · exact digs_append.2 ⟨h.dig, fun x hx => by rw [List.mem_singleton.1 hx]; omega⟩
  · rw [nv_snoc, h.val, h.len, rest_step s k hk, Nat.mul_comm, Nat.add_comm]
  · intro i hi hs
    rcases Nat.lt_or_ge k i with hlt | hge
    · exact h.all i hlt hs
    · have : i = k := by omega
      subst this; exact ⟨h1, h2⟩

def RParsePost (s : ByteArray) (w : World) (e : Ending) (w' : World) : Prop :=
  Below w.heap.size w w' ∧ ((IsNum s ∧ ∃ v, e = .returned (.tuple #[v, .bool true]) ∧ FNat w' w.heap.size v (rest s 0)) ∨ (¬ IsNum s ∧ e = .returned (.tuple #[.agg #[.slice none 0 0], .bool false])))

set_option maxHeartbeats 3200000 in
set_option maxRecDepth 100000 in
theorem rparse_any (s : ByteArray) (w : World) (hs : s.size ≤ 1000000000) : Calls Tryz.prog 58 #[.string s] w (RParsePost s w) := by
  obtain ⟨i0, hi, hz0, hz1, hz2⟩ := info_parts info_u8
  obtain ⟨w0, hw0⟩ : ∃ w0, w0 = w.alloc (.cells #[.slice none 0 0] 24) := ⟨_, rfl⟩
  have hB0 : Below w.heap.size w w0 := by subst hw0; exact (Below.refl _ _).alloc (Nat.le_refl _) _
  have hR0 : w0.heap[w.heap.size]? = some (.cells #[.slice none 0 0] 24 (0, 0)) := by subst hw0; exact heap_alloc_new w _
  have hs0 : w0.heap.size = w.heap.size + 1 := by subst hw0; simp
  have HW0 := Lib.hid hw0
  have HB0 := Lib.hid hB0
  have HR0 := Lib.hid hR0
  have HS0 := Lib.hid hs0
  by_cases h0 : s.size = 0
  · obtain rfl : s = ⟨#[]⟩ := by
      obtain ⟨⟨l⟩⟩ := s
      have : l = [] := by simpa [ByteArray.size] using h0
      rw [this]
    have hcr := cell_of_one hR0
    have hfr := free_of_one hR0
    clear hw0 hB0 hR0 hs0 h0 hs
    go_enter Tryz.func58, Tryz.ntmps58
    go_wp2_with (rw [← HW0.out])
    try rw [← HW0.out]
    refine bodyPost_ret (v := .tuple #[.agg #[.slice none 0 0], .bool false]) (by simp [results, Tryz.results58, go_sem, hcr]) rfl ?_
    exact ⟨by first | exact HB0.out | exact HB0.out.setCell (by simp) _, .inr ⟨fun h => absurd h.1 (by decide), rfl⟩⟩
  · have hne : s.toList.isEmpty = false := by
      have h1 : s.toList.length = s.size := by rw [ByteArray.toList_eq]; simp
      cases h : s.toList with
      | nil => rw [h] at h1; exact absurd h1.symm h0
      | cons a b => rfl
    have hpos : 0 < s.size := by omega
    have hcr0 := cell_of_one hR0
    have hfr0 := free_of_one hR0
    have hb0 := bt_at s 0 (by omega)
    have HSZ := Lib.hid hs
    clear hw0 hB0 hR0 hs0
    by_cases g1 : bt s 0 = 48
    · by_cases g2 : 1 < s.size
      · have HF := Lib.hid (show ¬ IsNum s from fun h => h.2.1 ⟨g1, g2⟩)
        rw [g1] at hb0
        go_enter Tryz.func58, Tryz.ntmps58
        go_wp2_with (rw [← HW0.out])
        try rw [← HW0.out]
        have hcr := cell_of_one HR0.out
        refine bodyPost_ret (v := .tuple #[.agg #[.slice none 0 0], .bool false]) (by simp [results, Tryz.results58, go_sem, hcr]) rfl ?_
        exact ⟨by first | exact HB0.out | exact HB0.out.setCell (by simp) _, .inr ⟨HF.out, rfl⟩⟩
      · have HN := Lib.hid (show ¬ (bt s 0 = 48 ∧ 1 < s.size) from fun h => g2 h.2)
        rw [g1] at hb0
        go_enter Tryz.func58, Tryz.ntmps58
        go_wp2_with (rw [← HW0.out])
        try rw [← HW0.out]
        clear g1 g2 hb0 hne h0
        go_loopw [4, 5] (fun v iv wr => ∃ (k : Nat) (M : List Nat) (q : Option Addr) (qc : Nat), k ≤ s.size ∧ iv = .int .i64 ((k : Int) - 1) ∧ v = .slice q M.length qc ∧ Hid (RP s k M) ∧ Hid (Own wr w0.heap.size 5 .u8 (.slice q M.length qc) M) ∧ Hid (Below w0.heap.size w0 wr)) (fun _ iv _ => (intOf iv + 1).toNat)
        case atStart => exact ⟨s.size, [], none, 0, Nat.le_refl _, rfl, rfl, RP.start s, own_nil _ _ _ _, Below.refl _ _⟩
        case round =>
          obtain ⟨k, M, q, qc, hk, rfl, rfl, HRP, HO, HB⟩ := hrel
          rename World => wr
          have hRr : wr.heap[w.heap.size]? = some (.cells #[.slice none 0 0] 24 (0, 0)) := by rw [HB.out.block _ (by rw [HS0.out]; omega)]; exact HR0.out
          have hcr := cell_of_one hRr
          have hfr := free_of_one hRr
          have HRR := Lib.hid hRr
          have HBW : Hid (Below w.heap.size w wr) := HB0.out.trans (HB.out.mono (by rw [HS0.out]; omega))
          clear hRr
          cases k with
          | succ k =>
            have hbk := bt_at s k (by omega)
            have hks : k < s.size := by omega
            have ek : ((k + 1 : Nat) : Int) - 1 = (k : Int) := by omega
            rw [ek]
            clear ek
            by_cases c1 : bt s k < 48
            · have HF := Lib.hid (show ¬ IsNum s from fun h => by have := (h.2.2 k hks).1; omega)
              go_wp2
              refine bodyPost_ret (v := .tuple #[.agg #[.slice none 0 0], .bool false]) (by simp [results, Tryz.results58, go_sem, hcr]) rfl ?_
              exact ⟨by first | exact HBW.out | exact HBW.out.setCell (by simp) _, .inr ⟨HF.out, rfl⟩⟩
            · by_cases c2 : 57 < bt s k
              · have HF := Lib.hid (show ¬ IsNum s from fun h => by have := (h.2.2 k hks).2; omega)
                go_wp2
                refine bodyPost_ret (v := .tuple #[.agg #[.slice none 0 0], .bool false]) (by simp [results, Tryz.results58, go_sem, hcr]) rfl ?_
                exact ⟨by first | exact HBW.out | exact HBW.out.setCell (by simp) _, .inr ⟨HF.out, rfl⟩⟩
              · have HRP2 := Lib.hid (HRP.out.step hks (by omega) (by omega))
                have d1 : (48 : Int) ≤ ((bt s k : Nat) : Int) := by omega
                have d2 : ((bt s k : Nat) : Int) ≤ 57 := by omega
                have HML : Hid (M.length ≤ 1000000000) := by have := HRP.out.len; have := HSZ.out; show _ ≤ _; omega
                have ho3 := HO.out
                unfold Own at ho3
                have HO4 := Lib.hid ho3
                have HD48 : Hid (((bt s k : Nat) : Int) - 48 = ((bt s k - 48 : Nat) : Int)) := by show _ = _; omega
                clear ho3
                go_wp2_with (at_builtin; refine wpList_append_own _ rfl _ _ 59 rfl w0.heap.size 5 i0 (.int .u8 0) 1 1 Tryz.underlying59 hi hz0 hz1 hz2 rfl (by decide) (.slice q M.length qc) M.length _ rfl (HO4.out.alloc _) ⟨wr.heap.size, 0, none⟩ 1 1 [.int .u8 (((bt s k : Nat) : Int) - 48)] rfl rfl ?c1 ?c2 ?c3 ?c4 ?c5 ?_)
                case c1 => exact cell_one_new _ _ _
                case c2 => simp [Value.oneCell']
                case c3 => have := HML.out; simp only [maxLen]; omega
                case c4 => have := HML.out; omega
                case c5 => have := HB.out.size; simp; omega
                intro v' w5 hown5 hgrow5 _
                rw [HD48.out] at hown5
                have hO5 := own_appended rfl hown5
                have hb5 : Below w0.heap.size w0 w5 := ((HB.out.alloc HB.out.size _).grown hgrow5 (by have := HB.out.size; simp; omega) (fun k hk => (HO4.out.lt k hk).1))
                obtain ⟨p', c', hs'⟩ : ∃ p' c', v' = .slice p' (M ++ [bt s k - 48]).length c' := by
                  obtain ⟨p', c', hs', _⟩ := own_form hO5
                  exact ⟨p', c', hs'⟩
                rw [hs'] at hO5 ⊢
                have HO5 := Lib.hid hO5
                have HB5 := Lib.hid hb5
                clear hs' hown5 hgrow5 hO5 hb5 hcr hfr
                generalize M ++ [bt s k - 48] = M2 at *
                go_wp2
                go_roundw
                case rel => exact ⟨k, M2, p', c', by omega, rfl, rfl, HRP2, HO5, HB5⟩
                case measure => simp [intOf]
          | zero =>
            have HNUM := Lib.hid (show IsNum s from ⟨hpos, HN.out, fun i hi => HRP.out.all i (Nat.zero_le _) hi⟩)
            have HTR := Lib.hid (trim_own HO.out)
            have HRV := Lib.hid HRP.out.val
            have HRD := Lib.hid HRP.out.dig
            have HMS : Hid (M.length ≤ 1000000000) := by have := HRP.out.len; have := HSZ.out; show _ ≤ _; omega
            clear hcr hfr
            go_wp2_with fail
            refine HTR.out.mono ?_
            rintro e w6 ⟨M2, rfl, hM2, hO7, rfl⟩
            obtain ⟨q8, c8, e8, _, _, hn8, hsl8, _⟩ := own_form hO7
            simp only [Value.slice.injEq, true_and] at e8
            obtain ⟨rfl, rfl⟩ := e8
            have hout := out_any q qc M2 wr hsl8 hn8 (by rw [hM2]; exact digs_take HRD.out _) (by rw [hM2]; exact right_take_tlen M) (by have := HMS.out; rw [hM2, List.length_take]; omega)
            rw [hM2, nv_tlen, HRV.out, ← hM2] at hout
            have HOUT := Lib.hid hout
            clear hout hn8 hsl8 hO7 hM2 HTR
            go_wp2_with fail
            refine HOUT.out.mono ?_
            rintro e w7 ⟨v, rfl, hf7, hb7⟩
            have hR7 : w7.heap[w.heap.size]? = some (.cells #[.slice none 0 0] 24 (0, 0)) := by rw [hb7.block _ (by have := lt_of_block HRR.out; omega)]; exact HRR.out
            have hcr := cell_of_one hR7
            have hfr := free_of_one hR7
            have HR7 := Lib.hid hR7
            have HF7 := Lib.hid hf7
            have HB7 := Lib.hid hb7
            clear hR7 hf7 hb7 HOUT
            obtain ⟨rp, rc, rl, hv, _⟩ := HF7.out
            subst hv
            go_wp2
            refine bodyPost_ret (v := .tuple #[.agg #[.slice rp rl.length rc], .bool true]) (by simp [results, Tryz.results58, go_sem, hcr]) rfl ?_
            refine ⟨(HBW.out.trans (HB7.out.mono HBW.out.size)).setCell (by simp) _, .inl ⟨HNUM.out, _, rfl, ?_⟩⟩
            exact (HF7.out.setCell HR7.out (by decide) _).down HBW.out.size
    · have HN := Lib.hid (show ¬ (bt s 0 = 48 ∧ 1 < s.size) from fun h => g1 h.1)
      have g3 : ¬ ((bt s 0 : Nat) : Int) = 48 := by omega
      go_enter Tryz.func58, Tryz.ntmps58
      go_wp2_with (rw [← HW0.out])
      try rw [← HW0.out]
      clear g1 g3 hb0 hne h0
      go_loopw [4, 5] (fun v iv wr => ∃ (k : Nat) (M : List Nat) (q : Option Addr) (qc : Nat), k ≤ s.size ∧ iv = .int .i64 ((k : Int) - 1) ∧ v = .slice q M.length qc ∧ Hid (RP s k M) ∧ Hid (Own wr w0.heap.size 5 .u8 (.slice q M.length qc) M) ∧ Hid (Below w0.heap.size w0 wr)) (fun _ iv _ => (intOf iv + 1).toNat)
      case atStart => exact ⟨s.size, [], none, 0, Nat.le_refl _, rfl, rfl, RP.start s, own_nil _ _ _ _, Below.refl _ _⟩
      case round =>
        obtain ⟨k, M, q, qc, hk, rfl, rfl, HRP, HO, HB⟩ := hrel
        rename World => wr
        have hRr : wr.heap[w.heap.size]? = some (.cells #[.slice none 0 0] 24 (0, 0)) := by rw [HB.out.block _ (by rw [HS0.out]; omega)]; exact HR0.out
        have hcr := cell_of_one hRr
        have hfr := free_of_one hRr
        have HRR := Lib.hid hRr
        have HBW : Hid (Below w.heap.size w wr) := HB0.out.trans (HB.out.mono (by rw [HS0.out]; omega))
        clear hRr
        cases k with
        | succ k =>
          have hbk := bt_at s k (by omega)
          have hks : k < s.size := by omega
          have ek : ((k + 1 : Nat) : Int) - 1 = (k : Int) := by omega
          rw [ek]
          clear ek
          by_cases c1 : bt s k < 48
          · have HF := Lib.hid (show ¬ IsNum s from fun h => by have := (h.2.2 k hks).1; omega)
            go_wp2
            refine bodyPost_ret (v := .tuple #[.agg #[.slice none 0 0], .bool false]) (by simp [results, Tryz.results58, go_sem, hcr]) rfl ?_
            exact ⟨by first | exact HBW.out | exact HBW.out.setCell (by simp) _, .inr ⟨HF.out, rfl⟩⟩
          · by_cases c2 : 57 < bt s k
            · have HF := Lib.hid (show ¬ IsNum s from fun h => by have := (h.2.2 k hks).2; omega)
              go_wp2
              refine bodyPost_ret (v := .tuple #[.agg #[.slice none 0 0], .bool false]) (by simp [results, Tryz.results58, go_sem, hcr]) rfl ?_
              exact ⟨by first | exact HBW.out | exact HBW.out.setCell (by simp) _, .inr ⟨HF.out, rfl⟩⟩
            · have HRP2 := Lib.hid (HRP.out.step hks (by omega) (by omega))
              have d1 : (48 : Int) ≤ ((bt s k : Nat) : Int) := by omega
              have d2 : ((bt s k : Nat) : Int) ≤ 57 := by omega
              have HML : Hid (M.length ≤ 1000000000) := by have := HRP.out.len; have := HSZ.out; show _ ≤ _; omega
              have ho3 := HO.out
              unfold Own at ho3
              have HO4 := Lib.hid ho3
              have HD48 : Hid (((bt s k : Nat) : Int) - 48 = ((bt s k - 48 : Nat) : Int)) := by show _ = _; omega
              clear ho3
              go_wp2_with (at_builtin; refine wpList_append_own _ rfl _ _ 59 rfl w0.heap.size 5 i0 (.int .u8 0) 1 1 Tryz.underlying59 hi hz0 hz1 hz2 rfl (by decide) (.slice q M.length qc) M.length _ rfl (HO4.out.alloc _) ⟨wr.heap.size, 0, none⟩ 1 1 [.int .u8 (((bt s k : Nat) : Int) - 48)] rfl rfl ?c1 ?c2 ?c3 ?c4 ?c5 ?_)
              case c1 => exact cell_one_new _ _ _
              case c2 => simp [Value.oneCell']
              case c3 => have := HML.out; simp only [maxLen]; omega
              case c4 => have := HML.out; omega
              case c5 => have := HB.out.size; simp; omega
              intro v' w5 hown5 hgrow5 _
              rw [HD48.out] at hown5
              have hO5 := own_appended rfl hown5
              have hb5 : Below w0.heap.size w0 w5 := ((HB.out.alloc HB.out.size _).grown hgrow5 (by have := HB.out.size; simp; omega) (fun k hk => (HO4.out.lt k hk).1))
              obtain ⟨p', c', hs'⟩ : ∃ p' c', v' = .slice p' (M ++ [bt s k - 48]).length c' := by
                obtain ⟨p', c', hs', _⟩ := own_form hO5
                exact ⟨p', c', hs'⟩
              rw [hs'] at hO5 ⊢
              have HO5 := Lib.hid hO5
              have HB5 := Lib.hid hb5
              clear hs' hown5 hgrow5 hO5 hb5 hcr hfr
              generalize M ++ [bt s k - 48] = M2 at *
              go_wp2
              go_roundw
              case rel => exact ⟨k, M2, p', c', by omega, rfl, rfl, HRP2, HO5, HB5⟩
              case measure => simp [intOf]
        | zero =>
          have HNUM := Lib.hid (show IsNum s from ⟨hpos, HN.out, fun i hi => HRP.out.all i (Nat.zero_le _) hi⟩)
          have HTR := Lib.hid (trim_own HO.out)
          have HRV := Lib.hid HRP.out.val
          have HRD := Lib.hid HRP.out.dig
          have HMS : Hid (M.length ≤ 1000000000) := by have := HRP.out.len; have := HSZ.out; show _ ≤ _; omega
          clear hcr hfr
          go_wp2_with fail
          refine HTR.out.mono ?_
          rintro e w6 ⟨M2, rfl, hM2, hO7, rfl⟩
          obtain ⟨q8, c8, e8, _, _, hn8, hsl8, _⟩ := own_form hO7
          simp only [Value.slice.injEq, true_and] at e8
          obtain ⟨rfl, rfl⟩ := e8
          have hout := out_any q qc M2 wr hsl8 hn8 (by rw [hM2]; exact digs_take HRD.out _) (by rw [hM2]; exact right_take_tlen M) (by have := HMS.out; rw [hM2, List.length_take]; omega)
          rw [hM2, nv_tlen, HRV.out, ← hM2] at hout
          have HOUT := Lib.hid hout
          clear hout hn8 hsl8 hO7 hM2 HTR
          go_wp2_with fail
          refine HOUT.out.mono ?_
          rintro e w7 ⟨v, rfl, hf7, hb7⟩
          have hR7 : w7.heap[w.heap.size]? = some (.cells #[.slice none 0 0] 24 (0, 0)) := by rw [hb7.block _ (by have := lt_of_block HRR.out; omega)]; exact HRR.out
          have hcr := cell_of_one hR7
          have hfr := free_of_one hR7
          have HR7 := Lib.hid hR7
          have HF7 := Lib.hid hf7
          have HB7 := Lib.hid hb7
          clear hR7 hf7 hb7 HOUT
          obtain ⟨rp, rc, rl, hv, _⟩ := HF7.out
          subst hv
          go_wp2
          refine bodyPost_ret (v := .tuple #[.agg #[.slice rp rl.length rc], .bool true]) (by simp [results, Tryz.results58, go_sem, hcr]) rfl ?_
          refine ⟨(HBW.out.trans (HB7.out.mono HBW.out.size)).setCell (by simp) _, .inl ⟨HNUM.out, _, rfl, ?_⟩⟩
          exact (HF7.out.setCell HR7.out (by decide) _).down HBW.out.size
end Go.Proofs.YtcahnkocfbcchaaGreatDoor
