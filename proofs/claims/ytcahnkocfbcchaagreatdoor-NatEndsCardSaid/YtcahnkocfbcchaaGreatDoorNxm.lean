/- The walk of the document's Order. -/
/- The walk of the document's Less: two rows of decimal digits, the second not above the first. -/
import Derived.Test.YtcahnkocfbcchaaGreatDoorNh
import Derived.Test.YtcahnkocfbcchaaGreatDoorWi

namespace Go.Proofs.YtcahnkocfbcchaaGreatDoor
open Go.RowKit Tnd

theorem below_draws_any (w : World) (n : Nat) : Below w.heap.size w (w.drewN n) := Joins.below_draws _ _ _
theorem ord_top {K : Nat} {l m : List Nat} {k : Nat} (hk : k < l.length) (hl : l.length = m.length) (dl : Digs K l) (dm : Digs K m) (h : l.drop (k + 1) = m.drop (k + 1)) :
    (gd l k < gd m k → nv K l < nv K m) ∧ (gd m k < gd l k → nv K m < nv K l) ∧ (gd l k = gd m k → l.drop k = m.drop k) := by
  have hd1 : l.drop k = gd l k :: l.drop (k + 1) := by unfold gd; rw [getD_at hk]; exact List.drop_eq_getElem_cons hk
  have hd2 : m.drop k = gd m k :: m.drop (k + 1) := by unfold gd; rw [getD_at (by omega)]; exact List.drop_eq_getElem_cons (by omega)
  have hsp1 : l = l.take k ++ gd l k :: l.drop (k + 1) := by rw [← hd1, List.take_append_drop]
  have hsp2 : m = m.take k ++ gd m k :: m.drop (k + 1) := by rw [← hd2, List.take_append_drop]
  have htl : (l.take k).length = (m.take k).length := by rw [List.length_take, List.length_take, hl]
  refine ⟨fun hlt => ?_, fun hgt => ?_, fun he => by rw [hd1, hd2, he, h]⟩
  · have := nv_lt_of_top K (l.take k) (m.take k) (l.drop (k + 1)) _ _ (digs_take dl k) htl hlt
    rw [← hsp1, h, ← hsp2] at this
    exact this
  · have := nv_lt_of_top K (m.take k) (l.take k) (m.drop (k + 1)) _ _ (digs_take dm k) htl.symm hgt
    rw [← hsp2, ← h, ← hsp1] at this
    exact this

set_option maxHeartbeats 1600000 in
set_option maxRecDepth 100000 in
theorem rorder_any (p q : Option Addr) (c d : Nat) (l m : List Nat) (w : World) (h1 : Sl w .u8 p l) (h2 : Sl w .u8 q m) (dl : Digs 10 l) (dm : Digs 10 m) (rl : RightL l) (rm : RightL m)
    (hl : l.length ≤ 1000000000000) (_hm : m.length ≤ 1000000000000) :
    Calls Tryz.prog 35 #[.slice p l.length c, .slice q m.length d] w fun e w' => e = .returned (.int .i64 (ord (nv 10 l) (nv 10 m))) ∧ Below w.heap.size w w' := by
  rcases Nat.lt_trichotomy l.length m.length with hlen | hlen | hlen
  · have hv := nv_lt_of_length 10 (by omega) l m dl rm hlen
    have e : ord (nv 10 l) (nv 10 m) = -1 := by unfold ord; rw [if_pos hv]
    rw [e]
    have hne : ¬ (l.length : Int) = (m.length : Int) := by omega
    have hlt : (l.length : Int) < (m.length : Int) := by omega
    clear h1 h2 dl dm rl rm hv e hlen
    go_enter Tryz.func35, Tryz.ntmps35
    go_wp2
    go_ret
    exact ⟨rfl, Below.refl _ _⟩
  · have HL := Lib.hid hlen
    have H1 := Lib.hid h1
    have H2 := Lib.hid h2
    have DL := Lib.hid dl
    have DM := Lib.hid dm
    rw [← hlen]
    clear hlen h1 h2 dl dm rl rm _hm
    go_enter Tryz.func35, Tryz.ntmps35
    go_wp2
    go_loopw [5] (fun iv wr => ∃ (k : Nat), k ≤ l.length ∧ iv = .int .i64 ((k : Int) - 1) ∧ Hid (l.drop k = m.drop k) ∧ Hid (Below w.heap.size w wr)) (fun i _ => (intOf i + 1).toNat)
    case atStart => exact ⟨l.length, Nat.le_refl _, rfl, by show _ = _; rw [List.drop_length, HL.out, List.drop_length], Below.refl _ _⟩
    case round =>
      obtain ⟨k, hk, rfl, HE, HB⟩ := hrel
      rename World => wr
      by_cases hk0 : k = 0
      · subst hk0
        have hfin : ord (nv 10 l) (nv 10 m) = 0 := by
          have h3 := HE.out
          rw [List.drop_zero, List.drop_zero] at h3
          rw [h3]; unfold ord; simp
        have HF := Lib.hid hfin
        clear hfin hk
        go_wp2
        go_ret
        exact ⟨by rw [HF.out]; rfl, HB.out⟩
      · obtain ⟨j, rfl⟩ : ∃ j, k = j + 1 := ⟨k - 1, by omega⟩
        have hk1 : j < l.length := by omega
        have hk2 : j < m.length := by rw [← HL.out]; exact hk1
        obtain ⟨b1, o1, rfl, hc1⟩ : ∃ b o, p = some ⟨b, o, none⟩ ∧ wr.cell? ⟨b, o + j, none⟩ = some (.int .u8 (gd l j : Nat)) := by
          rcases H1.out with h | ⟨b, o, h, hh⟩
          · subst h; simp at hk1
          · exact ⟨b, o, h, by rw [HB.out.cell (World.block_lt_of_cell? w _ (hh j hk1))]; exact hh j hk1⟩
        obtain ⟨b2, o2, rfl, hc2⟩ : ∃ b o, q = some ⟨b, o, none⟩ ∧ wr.cell? ⟨b, o + j, none⟩ = some (.int .u8 (gd m j : Nat)) := by
          rcases H2.out with h | ⟨b, o, h, hh⟩
          · subst h; simp at hk2
          · exact ⟨b, o, h, by rw [HB.out.cell (World.block_lt_of_cell? w _ (hh j hk2))]; exact hh j hk2⟩
        obtain ⟨t1, t2, t3⟩ := ord_top hk1 HL.out DL.out DM.out HE.out
        have ej : ((j + 1 : Nat) : Int) - 1 = (j : Int) := by omega
        rw [ej]
        have hkI : (j : Int) < (l.length : Int) := by omega
        have HK := Lib.hid hk
        rcases Nat.lt_trichotomy (gd l j) (gd m j) with hlt | heq | hgt
        · have hfin : ord (nv 10 l) (nv 10 m) = -1 := by unfold ord; rw [if_pos (t1 hlt)]
          have HF := Lib.hid hfin
          have hne : ¬ ((gd l j : Nat) : Int) = ((gd m j : Nat) : Int) := by omega
          have hltI : ((gd l j : Nat) : Int) < ((gd m j : Nat) : Int) := by omega
          clear hfin t1 t2 t3 hlt ej
          generalize ((gd l j : Nat) : Int) = x at *
          generalize ((gd m j : Nat) : Int) = y at *
          go_wp2
          go_quiet (fail)
          go_wp2
          go_quiet (fail)
          go_wp2
          go_ret
          exact ⟨by rw [HF.out]; rfl, by rw [World.drewN_drewN]; exact HB.out.trans ((below_draws_any _ _).mono HB.out.size)⟩
        · have hdr := Lib.hid (t3 heq)
          rw [heq] at hc1
          clear t1 t2 t3 heq ej
          generalize ((gd m j : Nat) : Int) = y at *
          go_wp2
          go_quiet (fail)
          go_wp2
          go_roundw
          case rel => exact ⟨j, by have := HK.out; omega, rfl, hdr, HB.out.trans ((below_draws_any _ _).mono HB.out.size)⟩
          case measure => simp [intOf]
        · have hfin : ord (nv 10 l) (nv 10 m) = 1 := by unfold ord; rw [if_neg (by have := t2 hgt; omega), if_neg (by have := t2 hgt; omega)]
          have HF := Lib.hid hfin
          have hne : ¬ ((gd l j : Nat) : Int) = ((gd m j : Nat) : Int) := by omega
          have hltI : ¬ ((gd l j : Nat) : Int) < ((gd m j : Nat) : Int) := by omega
          clear hfin t1 t2 t3 hgt ej
          generalize ((gd l j : Nat) : Int) = x at *
          generalize ((gd m j : Nat) : Int) = y at *
          go_wp2
          go_quiet (fail)
          go_wp2
          go_quiet (fail)
          go_wp2
          go_ret
          exact ⟨by rw [HF.out]; rfl, by rw [World.drewN_drewN]; exact HB.out.trans ((below_draws_any _ _).mono HB.out.size)⟩
  · have hv := nv_lt_of_length 10 (by omega) m l dm rl hlen
    have e : ord (nv 10 l) (nv 10 m) = 1 := by unfold ord; rw [if_neg (by omega), if_neg (by omega)]
    rw [e]
    have hne : ¬ (l.length : Int) = (m.length : Int) := by omega
    have hlt : ¬ (l.length : Int) < (m.length : Int) := by omega
    clear h1 h2 dl dm rl rm hv e hlen
    go_enter Tryz.func35, Tryz.ntmps35
    go_wp2
    go_ret
    exact ⟨rfl, Below.refl _ _⟩
end Go.Proofs.YtcahnkocfbcchaaGreatDoor


namespace Go.Proofs.YtcahnkocfbcchaaGreatDoor
open Go.RowKit Tnd

theorem less_step {a b N : List Nat} {i c : Nat} (hN : N.length = i) (hd : Digs 10 N) (hv : nv 10 N + nv 10 (b.take i) = nv 10 (a.take i) + 10 ^ i * c) {t c' : Nat} (ht : t + c + gd b i = gd a i + 10 * c') (h9 : t < 10) :
    Digs 10 (N ++ [t]) ∧ nv 10 (N ++ [t]) + nv 10 (b.take (i + 1)) = nv 10 (a.take (i + 1)) + 10 ^ (i + 1) * c' := by
  refine ⟨digs_append.2 ⟨hd, fun x hx => by rw [List.mem_singleton.1 hx]; exact h9⟩, ?_⟩
  rw [nv_snoc, hN, nv_take_gd, nv_take_gd]
  have e1 : 10 ^ (i + 1) * c' = 10 ^ i * (10 * c') := by rw [Nat.pow_succ, Nat.mul_assoc]
  have e2 : 10 ^ i * (t + c + gd b i) = 10 ^ i * t + 10 ^ i * c + 10 ^ i * gd b i := by rw [Nat.mul_add, Nat.mul_add]
  have e3 : 10 ^ i * (gd a i + 10 * c') = 10 ^ i * gd a i + 10 ^ i * (10 * c') := by rw [Nat.mul_add]
  rw [ht] at e2
  omega
theorem less_end {a b N : List Nat} {c : Nat} (hN : N.length = a.length) (hd : Digs 10 N) (hv : nv 10 N + nv 10 (b.take a.length) = nv 10 (a.take a.length) + 10 ^ a.length * c) (da : Digs 10 a) (rb : RightL b) (hle : nv 10 b ≤ nv 10 a) : nv 10 N = nv 10 a - nv 10 b := by
  have hbl : b.length ≤ a.length := by
    by_cases h : a.length < b.length
    · have := nv_lt_of_length 10 (by omega) a b da rb h; omega
    · omega
  rw [List.take_of_length_le hbl, List.take_of_length_le (Nat.le_refl _)] at hv
  have hlt := nv_lt 10 N hd
  rw [hN] at hlt
  match c, hv with
  | 0, hv => omega
  | c + 1, hv =>
    have : 10 ^ a.length * (c + 1) = 10 ^ a.length * c + 10 ^ a.length := Nat.mul_succ _ _
    omega

set_option maxHeartbeats 3200000 in
set_option maxRecDepth 100000 in
theorem rless_any (p1 p2 : Option Addr) (cp1 cp2 : Nat) (a b : List Nat) (w : World) (h1 : Sl w .u8 p1 a) (h2 : Sl w .u8 p2 b) (d1 : Digs 10 a) (d2 : Digs 10 b) (rb : RightL b) (hle : nv 10 b ≤ nv 10 a) (l1 : a.length ≤ 1000000000) (l2 : b.length ≤ 1000000000) :
    Calls Tryz.prog 37 #[.slice p1 a.length cp1, .slice p2 b.length cp2] w fun e w' => ∃ q qc N, e = .returned (.slice q N.length qc) ∧ DRow w' w.heap.size q qc N (nv 10 a - nv 10 b) ∧ Below w.heap.size w w' := by
  obtain ⟨i0, hi, hz0, hz1, hz2⟩ := info_parts info_u8
  have H1 := Lib.hid h1
  have H2 := Lib.hid h2
  have D1 := Lib.hid d1
  have D2 := Lib.hid d2
  have HRB := Lib.hid (And.intro rb hle)
  obtain ⟨la, hla⟩ : ∃ la, la = a.length := ⟨_, rfl⟩
  obtain ⟨lb, hlb⟩ : ∃ lb, lb = b.length := ⟨_, rfl⟩
  rw [← hla, ← hlb]
  have HLA := Lib.hid hla
  have HLB := Lib.hid hlb
  have laI : (la : Int) ≤ 1000000000 := by omega
  have lbI : (lb : Int) ≤ 1000000000 := by omega
  clear h1 h2 d1 d2 rb hle l1 l2 hla hlb
  go_enter Tryz.func37, Tryz.ntmps37
  go_wp2
  go_loopw [5, 6, 7] (fun v cv iv wr => ∃ (i c : Nat) (N : List Nat) (q : Option Addr) (qc : Nat), i ≤ la ∧ iv = .int .i64 i ∧ cv = .int .i64 c ∧ c ≤ 1 ∧ v = .slice q N.length qc ∧ Hid (N.length = i) ∧ Hid (Own wr w.heap.size 5 .u8 (.slice q N.length qc) N) ∧ Hid (Digs 10 N) ∧ Hid (nv 10 N + nv 10 (b.take i) = nv 10 (a.take i) + 10 ^ i * c) ∧ Hid (Below w.heap.size w wr)) (fun _ _ iv _ => la - (intOf iv).toNat)
  case atStart =>
    refine ⟨0, 0, [], none, 0, by omega, rfl, rfl, by omega, rfl, rfl, own_nil _ _ _ _, (fun x hx => nomatch hx), ?_, Below.refl _ _⟩
    show nv 10 [] + nv 10 (b.take 0) = nv 10 (a.take 0) + 10 ^ 0 * 0
    simp [nv]
  case round =>
    obtain ⟨i, c, N, q, qc, hi1, rfl, rfl, hc, rfl, HN, HO, HD, HV, HB⟩ := hrel
    rename World => wr
    have hiI : (i : Int) ≤ 1000000000 := by omega
    have cI : (c : Int) ≤ 1 := by omega
    have HC := Lib.hid hc
    have HI1 := Lib.hid hi1
    have hgl : ∀ (p : Option Addr) (l : List Nat), Sl w .u8 p l → i < l.length → ∃ b off, p = some ⟨b, off, none⟩ ∧ wr.cell? ⟨b, off + i, none⟩ = some (.int .u8 (gd l i : Nat)) := by
      intro p l hs hil
      rcases hs with h | ⟨b, off, h1, h2⟩
      · subst h; simp at hil
      · have h3 := h2 i hil
        exact ⟨b, off, h1, by rw [HB.out.cell (World.block_lt_of_cell? w _ h3)]; exact h3⟩
    have HGL := Lib.hid hgl
    have ho3 := HO.out
    unfold Own at ho3
    have HO4 := Lib.hid ho3
    have X1 := Lib.hid (gd_lt D1.out (by omega) i)
    have X2 := Lib.hid (gd_lt D2.out (by omega) i)
    have HNL : Hid (N.length ≤ 1000000000) := by have := HN.out; show _ ≤ _; omega
    have HST : Hid (∀ t c', t + c + gd b i = gd a i + 10 * c' → t < 10 → Digs 10 (N ++ [t]) ∧ nv 10 (N ++ [t]) + nv 10 (b.take (i + 1)) = nv 10 (a.take (i + 1)) + 10 ^ (i + 1) * c') := Lib.hid fun t c' h h9 => less_step HN.out HD.out HV.out h h9
    clear hgl hc hi1 ho3
    by_cases hia : i < la
    · have hiaI : (i : Int) < la := by omega
      obtain ⟨b1, o1, rfl, hc1⟩ := HGL.out p1 a H1.out (by rw [← HLA.out]; exact hia)
      by_cases hib : i < lb
      · have hibI : (i : Int) < lb := by omega
        obtain ⟨b2, o2, rfl, hc2⟩ := HGL.out p2 b H2.out (by rw [← HLB.out]; exact hib)
        generalize gd a i = x at *
        generalize gd b i = y at *
        have xI : (x : Int) ≤ 9 := by have := X1.out; omega
        have yI : (y : Int) ≤ 9 := by have := X2.out; omega
        by_cases hn : (x : Int) - (c : Int) - (y : Int) < 0
        · skip
          have y9 : y < 10 := X2.out
          have x9 : x < 10 := X1.out
          obtain ⟨t, ht⟩ : ∃ t : Nat, ((((x : Int) - (c : Int)) - (y : Int)) + 10) = (t : Int) := ⟨(((((x : Int) - (c : Int)) - (y : Int)) + 10)).toNat, by omega⟩
          have ht9 : t < 10 := by omega
          have hs2 := HST.out t 1 (by omega) ht9
          have HS2 := Lib.hid hs2
          have HT := Lib.hid ht
          have tI0 : 0 ≤ ((((x : Int) - (c : Int)) - (y : Int)) + 10) := by omega
          have tI9 : ((((x : Int) - (c : Int)) - (y : Int)) + 10) ≤ 9 := by omega
          clear hs2 ht ht9 HST x9 y9
          go_wp2_with (at_builtin; refine wpList_append_own _ rfl _ _ 59 rfl w.heap.size 5 i0 (.int .u8 0) 1 1 Tryz.underlying59 hi hz0 hz1 hz2 rfl (by decide) (.slice q N.length qc) N.length _ rfl (HO4.out.alloc _) ⟨wr.heap.size, 0, none⟩ 1 1 [.int .u8 ((((x : Int) - (c : Int)) - (y : Int)) + 10)] rfl rfl ?k1a ?k2a ?k3a ?k4a ?k5a ?_)
          try case k1a => exact cell_one_new _ _ _
          case k2a => simp [Value.oneCell']
          case k3a => have := HNL.out; simp only [maxLen]; omega
          case k4a => have := HNL.out; omega
          case k5a => have := HB.out.size; simp; omega
          intro v' w5 hown5 hgrow5 _
          rw [HT.out] at hown5
          have hO5 := own_appended rfl hown5
          have hb5 : Below w.heap.size w w5 := ((HB.out.alloc HB.out.size _).grown hgrow5 (by have := HB.out.size; simp; omega) (fun k hk => (HO4.out.lt k hk).1))
          obtain ⟨p', c', hs'⟩ : ∃ p' c', v' = .slice p' (N ++ [t]).length c' := by
            obtain ⟨p', c', hs', _⟩ := own_form hO5
            exact ⟨p', c', hs'⟩
          rw [hs'] at hO5 ⊢
          have HO5 := Lib.hid hO5
          have HB5 := Lib.hid hb5
          have HN5 : Hid ((N ++ [t]).length = i + 1) := by show _ = _; rw [List.length_append, HN.out]; rfl
          clear hs' hown5 hgrow5 hO5 hb5
          have hs3 := HS2.out
          generalize N ++ [t] = N2 at *
          have HS3 := Lib.hid hs3
          clear hs3
          go_wp2
          go_roundw
          case rel => exact ⟨i + 1, 1, N2, p', c', by omega, by go_num, rfl, by omega, rfl, HN5, HO5, HS3.out.1, HS3.out.2, HB5⟩
          case measure => simp [intOf]; omega
        · skip
          have y9 : y < 10 := X2.out
          have x9 : x < 10 := X1.out
          obtain ⟨t, ht⟩ : ∃ t : Nat, (((x : Int) - (c : Int)) - (y : Int)) = (t : Int) := ⟨((((x : Int) - (c : Int)) - (y : Int))).toNat, by omega⟩
          have ht9 : t < 10 := by omega
          have hs2 := HST.out t 0 (by omega) ht9
          have HS2 := Lib.hid hs2
          have HT := Lib.hid ht
          have tI0 : 0 ≤ (((x : Int) - (c : Int)) - (y : Int)) := by omega
          have tI9 : (((x : Int) - (c : Int)) - (y : Int)) ≤ 9 := by omega
          clear hs2 ht ht9 HST x9 y9
          go_wp2_with (at_builtin; refine wpList_append_own _ rfl _ _ 59 rfl w.heap.size 5 i0 (.int .u8 0) 1 1 Tryz.underlying59 hi hz0 hz1 hz2 rfl (by decide) (.slice q N.length qc) N.length _ rfl (HO4.out.alloc _) ⟨wr.heap.size, 0, none⟩ 1 1 [.int .u8 (((x : Int) - (c : Int)) - (y : Int))] rfl rfl ?k1b ?k2b ?k3b ?k4b ?k5b ?_)
          try case k1b => exact cell_one_new _ _ _
          case k2b => simp [Value.oneCell']
          case k3b => have := HNL.out; simp only [maxLen]; omega
          case k4b => have := HNL.out; omega
          case k5b => have := HB.out.size; simp; omega
          intro v' w5 hown5 hgrow5 _
          rw [HT.out] at hown5
          have hO5 := own_appended rfl hown5
          have hb5 : Below w.heap.size w w5 := ((HB.out.alloc HB.out.size _).grown hgrow5 (by have := HB.out.size; simp; omega) (fun k hk => (HO4.out.lt k hk).1))
          obtain ⟨p', c', hs'⟩ : ∃ p' c', v' = .slice p' (N ++ [t]).length c' := by
            obtain ⟨p', c', hs', _⟩ := own_form hO5
            exact ⟨p', c', hs'⟩
          rw [hs'] at hO5 ⊢
          have HO5 := Lib.hid hO5
          have HB5 := Lib.hid hb5
          have HN5 : Hid ((N ++ [t]).length = i + 1) := by show _ = _; rw [List.length_append, HN.out]; rfl
          clear hs' hown5 hgrow5 hO5 hb5
          have hs3 := HS2.out
          generalize N ++ [t] = N2 at *
          have HS3 := Lib.hid hs3
          clear hs3
          go_wp2
          go_roundw
          case rel => exact ⟨i + 1, 0, N2, p', c', by omega, by go_num, rfl, by omega, rfl, HN5, HO5, HS3.out.1, HS3.out.2, HB5⟩
          case measure => simp [intOf]; omega
      · have hibI : ¬ (i : Int) < lb := by omega
        have HY : Hid (gd b i = 0) := Lib.hid (getD_off (by rw [← HLB.out]; omega))
        generalize gd a i = x at *
        have xI : (x : Int) ≤ 9 := by have := X1.out; omega
        by_cases hn : (x : Int) - (c : Int) < 0
        · skip
          have x9 : x < 10 := X1.out
          obtain ⟨t, ht⟩ : ∃ t : Nat, ((((x : Int) - (c : Int))) + 10) = (t : Int) := ⟨(((((x : Int) - (c : Int))) + 10)).toNat, by omega⟩
          have ht9 : t < 10 := by omega
          have hs2 := HST.out t 1 (by have := HY.out; omega) ht9
          have HS2 := Lib.hid hs2
          have HT := Lib.hid ht
          have tI0 : 0 ≤ ((((x : Int) - (c : Int))) + 10) := by omega
          have tI9 : ((((x : Int) - (c : Int))) + 10) ≤ 9 := by omega
          clear hs2 ht ht9 HST x9
          go_wp2_with (at_builtin; refine wpList_append_own _ rfl _ _ 59 rfl w.heap.size 5 i0 (.int .u8 0) 1 1 Tryz.underlying59 hi hz0 hz1 hz2 rfl (by decide) (.slice q N.length qc) N.length _ rfl (HO4.out.alloc _) ⟨wr.heap.size, 0, none⟩ 1 1 [.int .u8 ((((x : Int) - (c : Int))) + 10)] rfl rfl ?k1c ?k2c ?k3c ?k4c ?k5c ?_)
          try case k1c => exact cell_one_new _ _ _
          case k2c => simp [Value.oneCell']
          case k3c => have := HNL.out; simp only [maxLen]; omega
          case k4c => have := HNL.out; omega
          case k5c => have := HB.out.size; simp; omega
          intro v' w5 hown5 hgrow5 _
          rw [HT.out] at hown5
          have hO5 := own_appended rfl hown5
          have hb5 : Below w.heap.size w w5 := ((HB.out.alloc HB.out.size _).grown hgrow5 (by have := HB.out.size; simp; omega) (fun k hk => (HO4.out.lt k hk).1))
          obtain ⟨p', c', hs'⟩ : ∃ p' c', v' = .slice p' (N ++ [t]).length c' := by
            obtain ⟨p', c', hs', _⟩ := own_form hO5
            exact ⟨p', c', hs'⟩
          rw [hs'] at hO5 ⊢
          have HO5 := Lib.hid hO5
          have HB5 := Lib.hid hb5
          have HN5 : Hid ((N ++ [t]).length = i + 1) := by show _ = _; rw [List.length_append, HN.out]; rfl
          clear hs' hown5 hgrow5 hO5 hb5
          have hs3 := HS2.out
          generalize N ++ [t] = N2 at *
          have HS3 := Lib.hid hs3
          clear hs3
          go_wp2
          go_roundw
          case rel => exact ⟨i + 1, 1, N2, p', c', by omega, by go_num, rfl, by omega, rfl, HN5, HO5, HS3.out.1, HS3.out.2, HB5⟩
          case measure => simp [intOf]; omega
        · skip
          have x9 : x < 10 := X1.out
          obtain ⟨t, ht⟩ : ∃ t : Nat, (((x : Int) - (c : Int))) = (t : Int) := ⟨((((x : Int) - (c : Int)))).toNat, by omega⟩
          have ht9 : t < 10 := by omega
          have hs2 := HST.out t 0 (by have := HY.out; omega) ht9
          have HS2 := Lib.hid hs2
          have HT := Lib.hid ht
          have tI0 : 0 ≤ (((x : Int) - (c : Int))) := by omega
          have tI9 : (((x : Int) - (c : Int))) ≤ 9 := by omega
          clear hs2 ht ht9 HST x9
          go_wp2_with (at_builtin; refine wpList_append_own _ rfl _ _ 59 rfl w.heap.size 5 i0 (.int .u8 0) 1 1 Tryz.underlying59 hi hz0 hz1 hz2 rfl (by decide) (.slice q N.length qc) N.length _ rfl (HO4.out.alloc _) ⟨wr.heap.size, 0, none⟩ 1 1 [.int .u8 (((x : Int) - (c : Int)))] rfl rfl ?k1d ?k2d ?k3d ?k4d ?k5d ?_)
          try case k1d => exact cell_one_new _ _ _
          case k2d => simp [Value.oneCell']
          case k3d => have := HNL.out; simp only [maxLen]; omega
          case k4d => have := HNL.out; omega
          case k5d => have := HB.out.size; simp; omega
          intro v' w5 hown5 hgrow5 _
          rw [HT.out] at hown5
          have hO5 := own_appended rfl hown5
          have hb5 : Below w.heap.size w w5 := ((HB.out.alloc HB.out.size _).grown hgrow5 (by have := HB.out.size; simp; omega) (fun k hk => (HO4.out.lt k hk).1))
          obtain ⟨p', c', hs'⟩ : ∃ p' c', v' = .slice p' (N ++ [t]).length c' := by
            obtain ⟨p', c', hs', _⟩ := own_form hO5
            exact ⟨p', c', hs'⟩
          rw [hs'] at hO5 ⊢
          have HO5 := Lib.hid hO5
          have HB5 := Lib.hid hb5
          have HN5 : Hid ((N ++ [t]).length = i + 1) := by show _ = _; rw [List.length_append, HN.out]; rfl
          clear hs' hown5 hgrow5 hO5 hb5
          have hs3 := HS2.out
          generalize N ++ [t] = N2 at *
          have HS3 := Lib.hid hs3
          clear hs3
          go_wp2
          go_roundw
          case rel => exact ⟨i + 1, 0, N2, p', c', by omega, by go_num, rfl, by omega, rfl, HN5, HO5, HS3.out.1, HS3.out.2, HB5⟩
          case measure => simp [intOf]; omega
    · have hiaI : ¬ (i : Int) < la := by omega
      have hil : i = a.length := by have := HI1.out; have := HLA.out; omega
      have hv := HV.out
      have hn := HN.out
      rw [hil] at hv hn
      have HV3 := Lib.hid (less_end hn HD.out hv D1.out HRB.out.1 HRB.out.2)
      have HTR := Lib.hid (trim_own HO.out)
      clear hv hn hil HST
      go_wp2_with fail
      refine HTR.out.mono ?_
      rintro e w6 ⟨M2, rfl, hM2, hO6, rfl⟩
      have HM2 := Lib.hid hM2
      have HO6 := Lib.hid hO6
      clear hM2 hO6
      go_wp2
      go_ret
      exact ⟨q, qc, M2, rfl, ⟨HO6.out, by rw [HM2.out]; exact digs_take HD.out _, by rw [HM2.out]; exact right_take_tlen _, by rw [HM2.out, nv_tlen, HV3.out]⟩, HB.out⟩
end Go.Proofs.YtcahnkocfbcchaaGreatDoor

