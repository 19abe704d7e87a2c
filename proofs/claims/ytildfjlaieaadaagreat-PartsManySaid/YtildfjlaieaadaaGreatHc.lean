/- PartsMany's walk. -/
import Derived.Test.YtildfjlaieaadaaGreatHb
import Derived.Test.YtildfjlaieaadaaGreatUf
import Derived.Test.YtildfjlaieaadaaGreatTb
import Derived.Deep.CutBlock

namespace Go.Proofs.YtildfjlaieaadaaGreat
open Go.RowKit Tnr

/-- a word that the walk doesn't know, so it stands. -/
def Stop (p : Prop) : Prop := p
theorem Stop.on {p : Prop} (h : p) : Stop p := h
theorem wpList_append_stop {P : Program} {w w' : World} {ops : Array Oper} {rest : List Oper} {o : Oper} {a : Act} {Q : Exit → Act → World → Prop} (hw : Region.wanted o (yielded ops a.tmps) = true) (s x : Operand) (t : TypeId)
    (ho : o.op = .call { callee := .builtin .append, args := #[s, x], argTypes := #[t, t] }) (v u v' : Value) (hs : a.eval s = v) (hx : a.eval x = u)
    (hrun : (Builtin.append_ #[t, t] o.type #[v, u]).run P w = .ok v' w') (h : Stop (wpList P ops Q rest (a.put o.dst v') w')) : wpList P ops Q (o :: rest) a w := by
  refine wpList_step fun K hK => ?_
  simp only [hw, if_true]
  unfold Oper.wp
  simp [execOp, ho, resolve, invoke, builtin, hs, hx, hrun, Result.andThen]
  exact hK _ _ h
theorem rs_po {w wr : World} {n : Nat} {v : Value} {S : List (List R)} (h : RS w wr n v S) (hn : n ≤ 2000) (hS : ∀ l ∈ S, l.length ≤ 10000) :
    Calls Tryz.prog 5 #[v] wr fun e w' => e = .returned (.bool true) ∧ Below wr.heap.size wr w' := by
  obtain ⟨q2, c2, xs, rfl, h2, rfl, h4, rfl, h6⟩ := h
  exact of_true apartRows_ok q2 c2 xs wr h4.sls h4.nils (by omega) (fun x hx => by have := hS x.2.2 (List.mem_map.2 ⟨x, hx, rfl⟩); omega)

def nums10 : List Int := [-9223372036854775808, -1, 0, 1, 2, 7, 1114110, 1114111, 1114112, 9223372036854775807]
theorem slq_block {w : World} {b : Nat} {cs : Array Value} {T : TypeId} {fz : Nat × Nat} (l : List Int) (h : w.heap[b]? = some (.cells cs T fz)) (hcs : cs = (l.map (Value.int .i64)).toArray) : SlQ w (some ⟨b, 0, none⟩) l := by
  refine .inr ⟨b, 0, rfl, fun i hi => ?_⟩
  rw [Nat.zero_add]
  have hc : cs[i]? = some (.int .i64 (gq l i)) := by
    subst hcs
    simp [gq, List.getD_eq_getElem?_getD, List.getElem?_eq_getElem hi]
  simp [World.cell?, h, hc]
theorem slq_cell {w : World} {b : Nat} {l : List Int} (h : SlQ w (some ⟨b, 0, none⟩) l) {i : Nat} (hi : i < l.length) : w.cell? ⟨b, i, none⟩ = some (.int .i64 (gq l i)) := by
  rcases h with h | ⟨b2, off, h1, h2⟩
  · rw [h] at hi; simp at hi
  · simp only [Option.some.injEq, Addr.mk.injEq, and_true] at h1
    obtain ⟨rfl, rfl⟩ := h1
    have := h2 i hi
    rw [Nat.zero_add] at this; exact this
theorem po_lit (W : World) (xs : List SV) (n : Nat) (cs : Array Value) (hn : n = xs.length) (h10 : n ≤ 10) (hcs : cs = (xs.map svV).toArray) (h : ∀ x ∈ xs, SlR W x.1 x.2.2 ∧ (x.1 = none → x.2.1 = 0) ∧ x.2.2.length ≤ 10) :
    Calls Tryz.prog 5 #[.slice (some ⟨W.heap.size, 0, none⟩) n n] (W.alloc (.cells cs 29)) fun e w' => e = .returned (.bool true) ∧ Below W.heap.size W w' := by
  subst hn
  refine (of_true apartRows_ok (some ⟨W.heap.size, 0, none⟩) xs.length xs _ (sls_new (fun x hx => (h x hx).1) hcs) (fun i hi => (h _ (by rw [gs_get hi]; exact List.getElem_mem _)).2.1) (by omega) (fun x hx => by have := (h x hx).2.2; omega)).mono ?_
  rintro e w' ⟨h1, h2⟩
  exact ⟨h1, bl_trans (bl_alloc _ _) h2⟩
theorem at_lit (W : World) (xs : List SV) (n : Nat) (cs : Array Value) (ps r : Option Addr) (k c m f : Nat) (s : List R) (pts : List Int) (hn : n = xs.length) (h10 : n ≤ 10) (hcs : cs = (xs.map svV).toArray) (h : ∀ x ∈ xs, SlR W x.1 x.2.2 ∧ (x.1 = none → x.2.1 = 0) ∧ x.2.2.length ≤ 10) (hk : k = s.length) (hm : m = pts.length) (hs : SlR W ps s) (hsn : ps = none → c = 0) (hr : SlQ W r pts) (hk10 : k ≤ 10) (hm10 : m ≤ 10) :
    Calls Tryz.prog 7 #[.slice (some ⟨W.heap.size, 0, none⟩) n n, .slice ps k c, .slice r m f] (W.alloc (.cells cs 29)) fun e w' => e = .returned (.bool true) ∧ Below W.heap.size W w' := by
  subst hn hk hm
  refine (at_true (some ⟨W.heap.size, 0, none⟩) ps r xs.length c f xs s pts _ (sls_new (fun x hx => (h x hx).1) hcs) (fun i hi => (h _ (by rw [gs_get hi]; exact List.getElem_mem _)).2.1) (hs.below (bl_alloc _ _)) hsn (hr.below (bl_alloc _ _)) (by omega) (fun x hx => by have := (h x hx).2.2; omega) (by omega) (by omega)).mono ?_
  rintro e w' ⟨h1, h2⟩
  exact ⟨h1, bl_trans (bl_alloc _ _) h2⟩

set_option maxHeartbeats 6400000 in
set_option maxRecDepth 100000 in
theorem many_true (w : World) : Calls Tryz.prog 3 #[] w fun e w' => e = .returned (.bool true) ∧ Below w.heap.size w w' := by
  go_enter Tryz.func3, Tryz.ntmps3
  go_upto_block 0 with fail
  go_cut [] from 1 (fun wx => Below w.heap.size w wx)
  case first =>
    as_aux_lemma =>
      go_wp2
      go_loopw [1, 2] (fun ov nv wr => ∃ (n : Nat) (v : Value), n ≤ 62 ∧ nv = .int .i64 (n : Nat) ∧ v = ov ∧ Hid (RS w wr n v (ones n))) (fun _ nv _ => 62 - (intOf nv).toNat)
      case atStart => exact ⟨0, _, by omega, rfl, rfl, RS.nil w w (Below.refl _ _)⟩
      case round =>
        obtain ⟨n, ov, hn, rfl, rfl, HR⟩ := hrel
        rename World => wr
        by_cases hlt : n < 62
        · have hnI : (n : Int) < 62 := by omega
          have hfl := ones_flat n
          have HOF := Lib.hid (rs_of HR.out (ones_key n (by omega)) (by omega) (by omega))
          have HN := Lib.hid hlt
          have HPO : Hid (∀ W, Below wr.heap.size wr W → Calls Tryz.prog 5 #[ov] W fun e w' => e = .returned (.bool true) ∧ Below W.heap.size W w') := fun W hb => rs_po (HR.out.below hb) (by omega) (fun l hl => by have := ones_one hl; omega)
          clear hlt hfl hn
          go_wp2_with fail
          refine HOF.out.mono ?_
          rintro e w2 ⟨hb, ⟨hm, rfl⟩ | ⟨hm, po, co, ys, rfl, _⟩⟩
          · have H2 := Lib.hid hb
            have hnJ : decide ((n : Int) ≤ 59) = false := decide_eq_false (by omega)
            have hnK : ((0 : Int) == (n : Int) + 1) = false := beq_eq_false_iff_ne.2 (by omega)
            clear hb hm HOF
            go_wp2_with fail
            refine (HPO.out _ H2.out).mono ?_
            rintro e w3 ⟨rfl, hb3⟩
            have HR3 := Lib.hid (HR.out.below (bl_trans H2.out hb3))
            have hnL : (n : Int) < 62 := by have := HN.out; omega
            obtain ⟨v5, w5, hr5, hs5⟩ := rs_run (cq := 1) 22 (some ⟨w3.heap.size, 0, none⟩) 1 1 [(5 * (n : Int) + 3, 5 * (n : Int) + 3)] (HR3.out.below (bl_alloc w3 (.cells #[.int .i64 (5 * (n : Int) + 3), .int .i64 (5 * (n : Int) + 3)] 28))) rfl (own_litR w3 w.heap.size [(5 * (n : Int) + 3, 5 * (n : Int) + 3)] 1 _ rfl rfl HR3.out.bl.size (by decide)) (by have := HN.out; omega)
            rw [size_alloc] at hr5
            rw [← ones_succ] at hs5
            have HR5 := Lib.hid hr5
            have HS5 := Lib.hid hs5
            clear hr5 hs5 hb3 HPO
            go_wp2_with (at_builtin; refine wpList_append_stop (by rfl) _ _ 22 rfl _ _ _ rfl rfl HR5.out ?_)
            refine Stop.on ?_
            go_wp2
            go_roundw
            case rel => exact ⟨n + 1, _, by have := HN.out; omega, by go_num, rfl, HS5.out⟩
            case measure => have := HN.out; simp [intOf]; omega
          · have H2 := Lib.hid hb
            have hnJ : (n : Int) ≤ 59 := by omega
            clear hb hm HOF
            go_wp2_with fail
            refine (HPO.out _ H2.out).mono ?_
            rintro e w3 ⟨rfl, hb3⟩
            have HR3 := Lib.hid (HR.out.below (bl_trans H2.out hb3))
            have hnK : (n : Int) < 62 := by have := HN.out; omega
            obtain ⟨v5, w5, hr5, hs5⟩ := rs_run (cq := 1) 22 (some ⟨w3.heap.size, 0, none⟩) 1 1 [(5 * (n : Int) + 3, 5 * (n : Int) + 3)] (HR3.out.below (bl_alloc w3 (.cells #[.int .i64 (5 * (n : Int) + 3), .int .i64 (5 * (n : Int) + 3)] 28))) rfl (own_litR w3 w.heap.size [(5 * (n : Int) + 3, 5 * (n : Int) + 3)] 1 _ rfl rfl HR3.out.bl.size (by decide)) (by have := HN.out; omega)
            rw [size_alloc] at hr5
            rw [← ones_succ] at hs5
            have HR5 := Lib.hid hr5
            have HS5 := Lib.hid hs5
            clear hr5 hs5 hb3 HPO
            go_wp2_with (at_builtin; refine wpList_append_stop (by rfl) _ _ 22 rfl _ _ _ rfl rfl HR5.out ?_)
            refine Stop.on ?_
            go_wp2
            go_roundw
            case rel => exact ⟨n + 1, _, by have := HN.out; omega, by go_num, rfl, HS5.out⟩
            case measure => have := HN.out; simp [intOf]; omega
        · obtain rfl : n = 62 := by omega
          go_wp2_with fail
          go_meet
          exact HR.out.bl
  case rest =>
  replace hcut := Lib.hid hcut
  go_upto_block 2 with fail
  go_cut [] from 1 (fun wx => Below w.heap.size w wx)
  case first =>
    as_aux_lemma =>
      obtain ⟨i0, hinf, hz0, hz1, hz2⟩ := info_parts info_range
      go_wp2
      go_loopw [5] (fun nv wr => ∃ n : Nat, n ≤ 8 ∧ nv = .int .i64 (n : Nat) ∧ Hid (Below w.heap.size w wr)) (fun nv _ => 8 - (intOf nv).toNat)
      case atStart => exact ⟨0, by omega, rfl, hcut⟩
      case round =>
        obtain ⟨n, hn, rfl, HB⟩ := hrel
        rename World => wr
        by_cases hlt : n < 8
        · have hnI : (n : Int) < 8 := by omega
          have HN := Lib.hid hlt
          clear hlt hn
          go_wp2
          go_loopw [6, 7] (fun hv kv wz => ∃ (k : Nat) (v : Value), k ≤ n ∧ kv = .int .i64 (k : Nat) ∧ v = hv ∧ Hid (RS w wz k v (halves k))) (fun _ kv _ => n - (intOf kv).toNat)
          case atStart => exact ⟨0, _, by omega, rfl, rfl, RS.nil w _ HB.out⟩
          case round =>
            obtain ⟨k, ov, hk, rfl, rfl, HR⟩ := hrel
            rename World => wz
            have HBZ := Lib.hid HR.out.bl
            by_cases hkn : k < n
            · have hkI : (k : Int) < n := by omega
              have HKN := Lib.hid hkn
              obtain ⟨P, hP⟩ : ∃ P, P = 2 ^ k := ⟨_, rfl⟩
              obtain ⟨J, hJ⟩ : ∃ J, J = 256 / 2 ^ (k + 1) := ⟨_, rfl⟩
              have HP := Lib.hid hP
              have HJJ := Lib.hid hJ
              clear hP hJ
              go_wp2
              go_loopw [8, 9] (fun sv lv wy => ∃ (j X : Nat) (q : Option Addr) (c : Nat) (l : List R), j ≤ J ∧ lv = .int .i64 (X : Nat) ∧ Hid (X = j * (2 * P)) ∧ .slice q l.length c = sv ∧ Hid (l = (half k).take j) ∧ Hid (OwnR wy wz.heap.size (.slice q l.length c) l) ∧ Hid (Below wz.heap.size wz wy)) (fun _ lv _ => 256 - (intOf lv).toNat)
              case atStart => exact ⟨0, 0, none, 0, [], Nat.zero_le _, by simp, by show _ = _; simp, rfl, by show _ = _; simp, ownR_nil _ _, Below.refl _ _⟩
              case round =>
                obtain ⟨j, X, q, c, l, hj, rfl, HX, rfl, HL, HO, HY⟩ := hrel
                rename World => wy
                have hkI6 : (k : Int) ≤ 6 := by have := HN.out; omega
                have hPe : (2 : Int) ^ k = (P : Int) := by rw [HP.out]; push_cast; rfl
                have hk6 : k ≤ 6 := by have := HN.out; omega
                have hPl : (P : Int) ≤ 64 := by
                  have := Nat.pow_le_pow_right (n := 2) (by decide) hk6
                  have := HP.out
                  omega
                have hP1 : (1 : Int) ≤ P := by have := Nat.two_pow_pos k; have := HP.out; omega
                have HE2 : Hid (2 ^ (k + 1) = 2 * P) := by show _ = _; rw [HP.out, Nat.pow_succ]; omega
                by_cases hjl : j < J
                · have hXP : X + 2 * P ≤ 256 := by
                    have h1 := Nat.div_mul_le_self 256 (2 * P)
                    have h2 : (j + 1) * (2 * P) ≤ 256 / (2 * P) * (2 * P) := Nat.mul_le_mul_right _ (by have := HJJ.out; rw [HE2.out] at this; omega)
                    rw [Nat.add_mul, Nat.one_mul] at h2
                    have := HX.out
                    omega
                  have hjI : (X : Int) + 2 * P ≤ 256 := by omega
                  have hjI2 : (X : Int) < 256 := by omega
                  have hJ128 : J ≤ 128 := by
                    rw [HJJ.out, HE2.out]
                    have : 1 ≤ P := by omega
                    calc 256 / (2 * P) ≤ 256 / 2 := Nat.div_le_div_left (by omega) (by decide)
                      _ = 128 := rfl
                  have hlj : l.length = j := by rw [HL.out, List.length_take, half_length, ← HJJ.out]; omega
                  have HJL := Lib.hid hjl
                  have HLJ := Lib.hid hlj
                  have HJ128 := Lib.hid hJ128
                  have HO2 := HO.out
                  unfold OwnR at HO2
                  have HO3 := Lib.hid HO2
                  clear hk6 hkn hk hjl hXP hJ128 hlj HO2 HR HBZ
                  go_wp2_with (at_builtin; refine wpList_append_own _ rfl _ _ 29 rfl wz.heap.size 28 i0 (.agg #[.int .i64 0, .int .i64 0]) 2 16 Tryz.underlying29 hinf hz0 hz1 hz2 rfl (by decide) (.slice q l.length c) l.length _ rfl (HO3.out.alloc _) ⟨wy.heap.size, 0, none⟩ 1 1 [.int .i64 (X : Int), .int .i64 ((X : Int) + (P : Int) - 1)] rfl rfl ?k1 ?k2 ?k3 ?k4 ?k5 ?_)
                  case k1 => exact cells_two_new _ _ _ _
                  case k2 => intro u hu; simp only [List.mem_cons, List.not_mem_nil, or_false] at hu; rcases hu with rfl | rfl <;> rfl
                  case k3 => have := HLJ.out; have := HJL.out; have := HJ128.out; simp only [maxLen]; omega
                  case k4 => have := HLJ.out; have := HJL.out; have := HJ128.out; omega
                  case k5 => have := HY.out.size; rw [size_alloc]; omega
                  intro v5 w5 hown5 hgrow5 _
                  have hO5 := ownR_appended (r := ((X : Int), (X : Int) + (P : Int) - 1)) rfl hown5
                  have hb5 : Below wz.heap.size wz w5 := (HY.out.alloc HY.out.size _).grown hgrow5 (by have := HY.out.size; rw [size_alloc]; omega) (fun x hx => (HO3.out.lt x hx).1)
                  have hmore := half_more (k := k) (j := j) (a := (X : Int)) (b := (X : Int) + (P : Int) - 1) HL.out (by rw [← HJJ.out]; exact HJL.out) (by rw [HE2.out, HX.out]) (by rw [HE2.out, ← HX.out, ← HP.out]; omega)
                  rw [hmore] at hO5
                  obtain ⟨p', c5, hs', _⟩ := ownR_form hO5
                  subst hs'
                  have HO5 := Lib.hid hO5
                  have HB5 := Lib.hid hb5
                  clear hown5 hgrow5 hO5 hb5 hmore
                  generalize hM : (half k).take (j + 1) = M at HO5 ⊢
                  have HM := Lib.hid hM
                  clear hM
                  go_wp2
                  go_roundw
                  case rel => exact ⟨j + 1, X + 2 * P, p', c5, M, by have := HJL.out; omega, congrArg (Value.int .i64) (by push_cast; omega), by show _ = _; rw [HX.out, Nat.add_mul, Nat.one_mul], rfl, HM.out.symm, HO5, HB5⟩
                  case measure => simp [intOf]; omega
                · have hjJ : j = J := by omega
                  have hX256 : X = 256 := by
                    have h1 : ∀ k : Fin 7, 256 / 2 ^ (k.1 + 1) * 2 ^ (k.1 + 1) = 256 := by decide
                    have h2 := h1 ⟨k, by omega⟩
                    simp only at h2
                    rw [HX.out, ← HE2.out, hjJ, HJJ.out]; exact h2
                  have hl2 : l = half k := by rw [HL.out, half_all (by rw [← HJJ.out]; omega)]
                  obtain ⟨v5, w5, hr5, hs5⟩ := rs_run (cq := 1) 22 q l.length c l (HR.out.below HY.out) rfl (ownR_down HO.out HBZ.out.size) (by have := HN.out; omega)
                  rw [hl2, ← halves_succ] at hs5
                  have HR5 := Lib.hid hr5
                  have HS5 := Lib.hid hs5
                  have HKN2 := Lib.hid hkn
                  subst hX256
                  clear hr5 hs5 hl2 HO HL hj hjl HR HY HX hjJ hk6 hkn hk
                  go_wp2_with (at_builtin; refine wpList_append_stop (by rfl) _ _ 22 rfl _ _ _ rfl rfl HR5.out ?_)
                  refine Stop.on ?_
                  go_wp2
                  go_roundw
                  case rel => exact ⟨k + 1, _, by have := HKN2.out; omega, by go_num, rfl, HS5.out⟩
                  case measure => have := HKN2.out; simp [intOf]; omega
            · obtain rfl : k = n := by omega
              have HOF := Lib.hid (rs_of HR.out (halves_key k (by have := HN.out; omega)) (by have := HN.out; omega) (halves_flat ⟨k, HN.out⟩))
              clear hkn hk HR
              go_wp2_with fail
              refine HOF.out.mono ?_
              rintro e w2 ⟨hb, ⟨hm, rfl⟩ | ⟨hm, po, co, ys, rfl, _⟩⟩
              · have H2 := Lib.hid (bl_trans HBZ.out hb)
                have hk6 : k = 6 ∨ k = 7 := by
                  have := HN.out
                  have hlt6 : ¬ k ≤ 5 := fun h5 => by
                    have := Nat.pow_le_pow_right (n := 2) (by decide) h5
                    omega
                  omega
                clear hb hm HOF HBZ
                rcases hk6 with rfl | rfl
                · go_wp2_with fail
                  go_roundw
                  case rel => exact ⟨7, by decide, by rfl, H2⟩
                  case measure => simp [intOf]
                · go_wp2_with fail
                  go_roundw
                  case rel => exact ⟨8, by decide, by rfl, H2⟩
                  case measure => simp [intOf]
              · have H2 := Lib.hid (bl_trans HBZ.out hb)
                have hk5 : k = 0 ∨ k = 1 ∨ k = 2 ∨ k = 3 ∨ k = 4 ∨ k = 5 := by
                  have hlt6 : ¬ 6 ≤ k := fun h6 => by
                    have := Nat.pow_le_pow_right (n := 2) (by decide) h6
                    omega
                  omega
                clear hb hm HOF HBZ
                rcases hk5 with rfl | rfl | rfl | rfl | rfl | rfl
                · have e2 : (2 ^ 0 : Nat) = 1 := rfl
                  rw [e2]
                  clear e2
                  go_wp2_with fail
                  go_roundw
                  case rel => exact ⟨1, by decide, by rfl, H2⟩
                  case measure => simp [intOf]
                · have e2 : (2 ^ 1 : Nat) = 2 := rfl
                  rw [e2]
                  clear e2
                  go_wp2_with fail
                  go_roundw
                  case rel => exact ⟨2, by decide, by rfl, H2⟩
                  case measure => simp [intOf]
                · have e2 : (2 ^ 2 : Nat) = 4 := rfl
                  rw [e2]
                  clear e2
                  go_wp2_with fail
                  go_roundw
                  case rel => exact ⟨3, by decide, by rfl, H2⟩
                  case measure => simp [intOf]
                · have e2 : (2 ^ 3 : Nat) = 8 := rfl
                  rw [e2]
                  clear e2
                  go_wp2_with fail
                  go_roundw
                  case rel => exact ⟨4, by decide, by rfl, H2⟩
                  case measure => simp [intOf]
                · have e2 : (2 ^ 4 : Nat) = 16 := rfl
                  rw [e2]
                  clear e2
                  go_wp2_with fail
                  go_roundw
                  case rel => exact ⟨5, by decide, by rfl, H2⟩
                  case measure => simp [intOf]
                · have e2 : (2 ^ 5 : Nat) = 32 := rfl
                  rw [e2]
                  clear e2
                  go_wp2_with fail
                  go_roundw
                  case rel => exact ⟨6, by decide, by rfl, H2⟩
                  case measure => simp [intOf]
        · obtain rfl : n = 8 := by omega
          go_wp2_with fail
          go_meet
          exact HB.out
  case rest =>
  replace hcut := Lib.hid hcut
  go_upto_block 8 with fail
  go_cut [] from 1 (fun wx => Below w.heap.size w wx)
  case first =>
    as_aux_lemma =>
      go_wp2
      go_loopw [12] (fun av wr => ∃ a : Nat, a ≤ 520 ∧ av = .int .i64 (a : Nat) ∧ Hid (a % 13 = 0) ∧ Hid (Below w.heap.size w wr)) (fun av _ => 520 - (intOf av).toNat)
      case atStart => exact ⟨0, by omega, rfl, rfl, hcut⟩
      case round =>
        obtain ⟨a, ha, rfl, HA13, HB⟩ := hrel
        rename World => wr
        by_cases hlt : a < 520
        · have haI : (a : Int) < 520 := by omega
          have HAL := Lib.hid hlt
          clear hlt ha
          go_wp2
          go_loopw [13, 14] (fun lv kv wz => ∃ (k : Nat) (v : Value), k ≤ 520 ∧ kv = .int .i64 (k : Nat) ∧ v = lv ∧ Hid (RS w wz k v (List.replicate k [(97, 122)]))) (fun _ kv _ => 520 - (intOf kv).toNat)
          case atStart => exact ⟨0, _, by omega, rfl, rfl, RS.nil w _ HB.out⟩
          case round =>
            obtain ⟨k, ov, hk, rfl, rfl, HR⟩ := hrel
            rename World => wz
            by_cases hkn : k < 520
            · have hkI : (k : Int) < 520 := by omega
              have HKN := Lib.hid hkn
              obtain ⟨v5, w5, hr5, hs5⟩ := rs_run (cq := 1) 22 (some ⟨wz.heap.size, 0, none⟩) 1 1 [((97 : Int), (122 : Int))] (HR.out.below (bl_alloc wz (.cells #[.int .i64 97, .int .i64 122] 28))) rfl (own_litR wz w.heap.size [((97 : Int), (122 : Int))] 1 _ rfl rfl HR.out.bl.size (by decide)) (by omega)
              rw [size_alloc] at hr5
              have HR5 := Lib.hid hr5
              have HS5 : Hid (RS w w5 (k + 1) v5 (List.replicate (k + 1) [(97, 122)])) := by rw [List.replicate_succ']; exact hs5
              clear hr5 hs5 hkn hk HR
              go_wp2_with (at_builtin; refine wpList_append_stop (by rfl) _ _ 22 rfl _ _ _ rfl rfl HR5.out ?_)
              refine Stop.on ?_
              go_wp2
              go_roundw
              case rel => exact ⟨k + 1, _, by have := HKN.out; omega, by go_num, rfl, HS5.out⟩
              case measure => have := HKN.out; simp [intOf]; omega
            · obtain rfl : k = 520 := by omega
              obtain ⟨q, c, xs, rfl, hc, hxl, hrw, hrv, hbz⟩ := HR.out
              obtain ⟨g, rfl, hcell⟩ := hrw.cell (show a < xs.length by rw [← hxl]; exact HAL.out)
              have hrw1 := hrw.below (bl_alloc wz (.cells #[.int .i64 109, .int .i64 112] 28))
              have hcell1 := (hrw1.cell (show a < xs.length by rw [← hxl]; exact HAL.out))
              obtain ⟨g', eg, hcell1⟩ := hcell1
              simp only [Option.some.injEq, Addr.mk.injEq, and_true] at eg
              subst eg
              have hfz : (wz.alloc (.cells #[.int .i64 109, .int .i64 112] 28)).frozen? ⟨g, a, none⟩ = false := by
                have h := hrw1.out
                rw [← hxl] at h
                exact h.frozenAt a
              have hgB : w.heap.size ≤ g := (hrw.out.lt g (by rfl)).1
              have hturn := Rws.turn (some ⟨wz.heap.size, 0, none⟩, 1, [((109 : Int), (112 : Int))]) hrw1 (show a < xs.length by rw [← hxl]; exact HAL.out) (own_litR wz w.heap.size [((109 : Int), (112 : Int))] 1 _ rfl rfl hbz.size (by decide))
              have hrv2 : rowsV (xs.set a (some ⟨wz.heap.size, 0, none⟩, 1, [((109 : Int), (112 : Int))])) = mnyS 520 a := by
                rw [← mnyS_set, ← hrv]; simp [rowsV, List.map_set]
              have HRS : Hid (RS w ((wz.alloc (.cells #[.int .i64 109, .int .i64 112] 28)).setCell ⟨g, a, none⟩ (.slice (some ⟨wz.heap.size, 0, none⟩) 1 1)) 520 (.slice (some ⟨g, 0, none⟩) 520 c) (mnyS 520 a)) :=
                ⟨some ⟨g, 0, none⟩, c, _, rfl, hc, by rw [List.length_set]; exact hxl, hturn, hrv2, (hbz.alloc hbz.size _).setCell hgB _⟩
              have HOF := Lib.hid (rs_of HRS.out (mnyS_key 520 a HAL.out (by decide)) (by decide) (by rw [mnyS_flat]; decide))
              have hla : ((wz.alloc (.cells #[.int .i64 109, .int .i64 112] 28)).setCell ⟨g, a, none⟩ (.slice (some ⟨wz.heap.size, 0, none⟩) 1 1)).cell? ⟨g, a, none⟩ = some (.slice (some ⟨wz.heap.size, 0, none⟩) 1 1) := by
                exact World.cell?_setCell_same' _ _ _ (by rw [hcell1]; rfl)
              have hI520 : (520 : Int) ≤ c := by omega
              have HCL := Lib.hid hla
              have hlit : SlR ((wz.alloc (.cells #[.int .i64 109, .int .i64 112] 28)).setCell ⟨g, a, none⟩ (.slice (some ⟨wz.heap.size, 0, none⟩) 1 1)) (some ⟨wz.heap.size, 0, none⟩) [((109 : Int), (112 : Int))] := by
                have hm := hturn.own (some ⟨wz.heap.size, 0, none⟩, 1, [((109 : Int), (112 : Int))]) (List.mem_set (by rw [← hxl]; exact HAL.out) _)
                obtain ⟨p, c', e, _, _, _, hs, _⟩ := ownR_form hm
                simp only [svV, Value.slice.injEq] at e
                rw [← e.1] at hs; exact hs
              have HLIT := Lib.hid hlit
              clear hrw hrw1 hturn hrv2 hrv hxl hc hbz hkn hk HR hgB hcell hla hlit
              go_wp2_with fail
              refine HOF.out.mono ?_
              rintro e w2 ⟨hb2, ⟨hm, _⟩ | ⟨_, po, co, ys, rfl, hco, hyl, hpar, hsl⟩⟩
              · omega
              · have hL := hpar.one (mnyS_parts 520 a HAL.out (by decide))
                obtain ⟨bo, off, rfl, hc2⟩ := sls_at hsl (show 2 < ys.length by omega)
                have e2 : (gs ys 2).2.2 = [((109 : Int), (112 : Int))] := by rw [← rowsV_gl (show 2 < ys.length by omega), hL]; rfl
                have hs2 : SlR w2 (gs ys 2).1 (gs ys 2).2.2 := hsl.1 _ (by rw [gs_get (show 2 < ys.length by omega)]; exact List.getElem_mem _)
                rw [e2] at hc2 hs2
                have hla2 := hb2.cell (World.block_lt_of_cell? _ _ HCL.out)
                rw [HCL.out] at hla2
                have HSM : Hid (∀ s, Calls Tryz.prog 6 #[.slice (gs ys 2).1 1 (gs ys 2).2.1, .slice (some ⟨wz.heap.size, 0, none⟩) 1 1] (w2.drewN s) fun e w' => e = .returned (.bool true) ∧ ∃ r, w' = w2.drewN r) := fun s => by
                  have h := same_any (gs ys 2).1 (some ⟨wz.heap.size, 0, none⟩) (gs ys 2).2.1 1 [((109 : Int), (112 : Int))] [((109 : Int), (112 : Int))] (w2.drewN s) (hs2.below (drewN_below _ _)) ((HLIT.out.below hb2).below (drewN_below _ _)) (by simp) (by simp)
                  refine h.mono ?_
                  rintro e w' ⟨rfl, r, rfl⟩
                  exact ⟨by simp, s + r, World.drewN_drewN _ _ _⟩
                have HBF := Lib.hid (bl_trans HRS.out.bl hb2)
                have HC2 : Hid (∀ s, (w2.drewN s).cell? ⟨bo, off + 2, none⟩ = some (.slice (gs ys 2).1 1 (gs ys 2).2.1)) := fun s => hc2
                have HC3 : Hid (∀ s, (w2.drewN s).cell? ⟨g, a, none⟩ = some (.slice (some ⟨wz.heap.size, 0, none⟩) 1 1)) := fun s => hla2
                have hco2 : (3 : Int) ≤ co := by omega
                generalize (gs ys 2).1 = p2 at *
                generalize (gs ys 2).2.1 = c2 at *
                clear hL e2 hs2 hla2 hb2 hco hyl hpar hsl HOF HLIT hc2
                have hx2 := HC2.out
                have hx3 := HC3.out
                have hx20 := HC2.out 0
                have hx30 := HC3.out 0
                go_upto_region 35 with fail
                go_quiet ((go_at_call 6; exact (HSM.out _).mono fun _ _ h => ⟨h.1, h.2⟩))
                go_wp2
                go_roundw
                case rel => exact ⟨a + 13, by have := HAL.out; have := HA13.out; omega, by go_num, by show _ = _; have := HA13.out; omega, bl_trans HBF.out (drewN_below _ _)⟩
                case measure => have := HAL.out; have := HA13.out; simp [intOf]; omega
        · obtain rfl : a = 520 := by omega
          go_wp2_with fail
          go_meet
          exact HB.out
  case rest =>
  replace hcut := Lib.hid hcut
  go_upto_block 12 with fail
  obtain ⟨bn, hbn⟩ : ∃ b, b = wc.heap.size := ⟨_, rfl⟩
  rw [← hbn]
  have HSQ : Hid (SlQ (wc.alloc (.cells #[.int .i64 (-9223372036854775808), .int .i64 (-1), .int .i64 0, .int .i64 1, .int .i64 2, .int .i64 7, .int .i64 1114110, .int .i64 1114111, .int .i64 1114112, .int .i64 9223372036854775807] 3)) (some ⟨bn, 0, none⟩) nums10) := by
    rw [hbn]
    exact slq_block nums10 (MapKept.heap_alloc wc _).1 rfl
  have HBA : Hid (Below w.heap.size w (wc.alloc (.cells #[.int .i64 (-9223372036854775808), .int .i64 (-1), .int .i64 0, .int .i64 1, .int .i64 2, .int .i64 7, .int .i64 1114110, .int .i64 1114111, .int .i64 1114112, .int .i64 9223372036854775807] 3))) := hcut.out.alloc hcut.out.size _
  clear hbn hcut
  generalize wc.alloc (.cells #[.int .i64 (-9223372036854775808), .int .i64 (-1), .int .i64 0, .int .i64 1, .int .i64 2, .int .i64 7, .int .i64 1114110, .int .i64 1114111, .int .i64 1114112, .int .i64 9223372036854775807] 3) = wn at *
  have HNL : Hid (nums10.length = 10) := by show _ = _; rfl
  generalize nums10 = N at HSQ HNL
  have HCELL : Hid (∀ W, Below wn.heap.size wn W → ∀ i, i < 10 → W.cell? ⟨bn, i, none⟩ = some (.int .i64 (gq N i))) := fun W hb i hi => slq_cell (HSQ.out.below hb) (by rw [HNL.out]; exact hi)
  go_cut [17] from 18 (fun s wx => s = .slice (some ⟨bn, 0, none⟩) 10 10 ∧ Below wn.heap.size wn wx)
  case first =>
    as_aux_lemma =>
      go_wp2
      go_loopw [18] (fun iv wr => ∃ i : Nat, i ≤ 10 ∧ iv = .int .i64 (i : Nat) ∧ Hid (Below wn.heap.size wn wr)) (fun iv _ => 10 - (intOf iv).toNat)
      case atStart => exact ⟨0, by omega, rfl, Below.refl _ _⟩
      case round =>
        obtain ⟨i, hi, rfl, HB⟩ := hrel
        rename World => wr
        by_cases hlt : i < 10
        · have hiI : (i : Int) < 10 := by omega
          have HI := Lib.hid hlt
          clear hlt hi
          go_wp2
          go_loopw [19] (fun kv wz => ∃ k : Nat, k ≤ 10 ∧ kv = .int .i64 (k : Nat) ∧ Hid (Below wn.heap.size wn wz)) (fun kv _ => 10 - (intOf kv).toNat)
          case atStart => exact ⟨0, by omega, rfl, HB.out⟩
          case round =>
            obtain ⟨k, hk, rfl, HBZ⟩ := hrel
            rename World => wz
            by_cases hkn : k < 10
            · have hkI : (k : Int) < 10 := by omega
              have HKN := Lib.hid hkn
              have hci := HCELL.out wz HBZ.out i HI.out
              have hck := HCELL.out wz HBZ.out k hkn
              generalize hgi : gq N i = x at hci
              generalize hgk : gq N k = y at hck
              have HGI := Lib.hid hgi
              have HGK := Lib.hid hgk
              clear hgi hgk
              have HCI := Lib.hid hci
              have HCK := Lib.hid hck
              clear hkn hk
              have hs1 : SlR (wz.alloc (.cells #[.int .i64 x, .int .i64 y] 28)).drew (some ⟨wz.heap.size, 0, none⟩) [(x, y)] := by
                have h := ownR_below (own_litR wz 0 [(x, y)] 1 _ rfl rfl (Nat.zero_le _) (by decide)) (bl_drew _)
                obtain ⟨p, c', e, _, _, _, hs, _⟩ := ownR_form h
                simp only [Value.slice.injEq] at e
                rw [← e.1] at hs; exact hs
              have hb1 : Below wn.heap.size wn (wz.alloc (.cells #[.int .i64 x, .int .i64 y] 28)).drew := (HBZ.out.alloc HBZ.out.size _).drew
              have HS1 := Lib.hid hs1
              have HB1 := Lib.hid hb1
              clear hs1 hb1
              go_upto_region 44 with fail
              go_region
              go_wp2_with (go_not_at_region 45)
              generalize (wz.alloc (.cells #[.int .i64 x, .int .i64 y] 28)).drew = W1 at *
              generalize wz.heap.size = bs at *
              clear hci hck
              have hci := HCELL.out W1 HB1.out i HI.out
              have hck := HCELL.out W1 HB1.out k HKN.out
              rw [HGI.out] at hci
              rw [HGK.out] at hck
              have hs2 : SlR (W1.alloc (.cells #[.int .i64 y, .int .i64 x, .int .i64 1, .int .i64 4] 28)).drew (some ⟨W1.heap.size, 0, none⟩) [(y, x), (1, 4)] := by
                have h := ownR_below (own_litR W1 0 [(y, x), (1, 4)] 2 _ rfl rfl (Nat.zero_le _) (by decide)) (bl_drew _)
                obtain ⟨p, c', e, _, _, _, hs, _⟩ := ownR_form h
                simp only [Value.slice.injEq] at e
                rw [← e.1] at hs; exact hs
              have HS2 := Lib.hid hs2
              have HS3 : Hid (SlR (W1.alloc (.cells #[.int .i64 y, .int .i64 x, .int .i64 1, .int .i64 4] 28)).drew (some ⟨bs, 0, none⟩) [(x, y)]) := HS1.out.below (bl_trans (bl_alloc _ _) (bl_drew _))
              have H2 : Hid (Below wn.heap.size wn (W1.alloc (.cells #[.int .i64 y, .int .i64 x, .int .i64 1, .int .i64 4] 28)).drew) := (HB1.out.alloc HB1.out.size _).drew
              clear hs2 HS1 HB1
              go_upto_region 45 with fail
              go_region
              clear hci hck
              generalize (W1.alloc (.cells #[.int .i64 y, .int .i64 x, .int .i64 1, .int .i64 4] 28)).drew = W2 at *
              generalize W1.heap.size = bt at *
              have HSA : Hid (∀ W, Below W2.heap.size W2 W → SlR W (some ⟨bs, 0, none⟩) [(x, y)]) := fun W hb => HS3.out.below hb
              have HSB : Hid (∀ W, Below W2.heap.size W2 W → SlR W (some ⟨bt, 0, none⟩) [(y, x), (1, 4)]) := fun W hb => HS2.out.below hb
              have HSN : Hid (∀ W, Below W2.heap.size W2 W → SlQ W (some ⟨bn, 0, none⟩) N) := fun W hb => HSQ.out.below (bl_trans H2.out hb)
              clear HS2 HS3 HCI HCK
              go_wp2_with fail
              refine (po_lit W2 [(some ⟨bs, 0, none⟩, 1, [(x, y)])] 1 _ rfl (by decide) rfl (fun z hz => by
                rw [List.mem_singleton] at hz; subst hz
                exact ⟨HSA.out _ (Below.refl _ _), (fun h => by cases h), by simp⟩)).mono ?_
              rintro e w3 ⟨rfl, hb3⟩
              have HB3 := Lib.hid hb3
              clear hb3
              go_wp2_with fail
              refine (po_lit w3 [(some ⟨bt, 0, none⟩, 2, [(y, x), (1, 4)]), (some ⟨bs, 0, none⟩, 1, [(x, y)])] 2 _ rfl (by decide) rfl (fun z hz => by
                simp only [List.mem_cons, List.not_mem_nil, or_false] at hz
                rcases hz with rfl | rfl
                · exact ⟨HSB.out _ HB3.out, (fun h => by cases h), by simp⟩
                · exact ⟨HSA.out _ HB3.out, (fun h => by cases h), by simp⟩)).mono ?_
              rintro e w4 ⟨rfl, hb4⟩
              have HB4 := Lib.hid (bl_trans HB3.out hb4)
              clear hb4 HB3
              have hsl29 : SlR (w4.alloc (.cells #[.int .i64 2, .int .i64 9] 28)) (some ⟨w4.heap.size, 0, none⟩) [(2, 9)] := by
                have h := own_litR w4 0 [(2, 9)] 1 _ rfl rfl (Nat.zero_le _) (by decide)
                obtain ⟨p, c', e, _, _, _, hs, _⟩ := ownR_form h
                simp only [Value.slice.injEq] at e
                rw [← e.1] at hs; exact hs
              have HPL := po_lit (w4.alloc (.cells #[.int .i64 2, .int .i64 9] 28)) [(some ⟨bs, 0, none⟩, 1, [(x, y)]), (some ⟨w4.heap.size, 0, none⟩, 1, [(2, 9)]), (some ⟨bt, 0, none⟩, 2, [(y, x), (1, 4)])] 3 _ rfl (by decide) rfl (fun z hz => by
                simp only [List.mem_cons, List.not_mem_nil, or_false] at hz
                rcases hz with rfl | rfl | rfl
                · exact ⟨HSA.out _ (bl_trans HB4.out (bl_alloc _ _)), (fun h => by cases h), by simp⟩
                · exact ⟨hsl29, (fun h => by cases h), by simp⟩
                · exact ⟨HSB.out _ (bl_trans HB4.out (bl_alloc _ _)), (fun h => by cases h), by simp⟩)
              rw [size_alloc] at HPL
              have HPL2 := Lib.hid HPL
              clear HPL hsl29
              go_wp2_with fail
              refine HPL2.out.mono ?_
              rintro e w5 ⟨rfl, hb5⟩
              have hb5' : Below w4.heap.size w4 w5 := (bl_alloc w4 (.cells #[.int .i64 2, .int .i64 9] 28)).trans (hb5.mono (Nat.le_succ _))
              have HB5 := Lib.hid (bl_trans HB4.out hb5')
              clear hb5 hb5' HB4 HPL2
              go_wp2_with fail
              refine (at_lit w5 [(some ⟨bs, 0, none⟩, 1, [(x, y)]), (some ⟨bt, 0, none⟩, 2, [(y, x), (1, 4)]), (none, 0, [])] 3 _ (some ⟨bt, 0, none⟩) (some ⟨bn, 0, none⟩) 2 2 10 10 [(y, x), (1, 4)] N rfl (by decide) rfl (fun z hz => by
                simp only [List.mem_cons, List.not_mem_nil, or_false] at hz
                rcases hz with rfl | rfl | rfl
                · exact ⟨HSA.out _ HB5.out, (fun h => by cases h), by simp⟩
                · exact ⟨HSB.out _ HB5.out, (fun h => by cases h), by simp⟩
                · exact ⟨.inl rfl, (fun _ => rfl), by simp⟩) rfl HNL.out.symm (HSB.out _ HB5.out) (fun h => by cases h) (HSN.out _ HB5.out) (by decide) (by decide)).mono ?_
              rintro e w6 ⟨rfl, hb6⟩
              have HB6 := Lib.hid (bl_trans H2.out (bl_trans HB5.out hb6))
              clear hb6 HB5
              go_wp2
              go_roundw
              case rel => exact ⟨k + 1, by have := HKN.out; omega, by go_num, HB6⟩
              case measure => have := HKN.out; simp [intOf]; omega
            · obtain rfl : k = 10 := by omega
              go_wp2
              go_roundw
              case rel => exact ⟨i + 1, by have := HI.out; omega, by go_num, HBZ⟩
              case measure => have := HI.out; simp [intOf]; omega
        · obtain rfl : i = 10 := by omega
          go_wp2_with fail
          go_meet
          exact ⟨rfl, HB.out⟩
  case rest =>
  obtain ⟨rfl, hb⟩ := hcut
  have HBF := Lib.hid hb
  clear hb
  go_wp2_with fail
  have HP0 := of_true apartRows_ok none 0 [] wc ⟨fun x hx => by simp at hx, .inl rfl⟩ (fun i hi => by simp at hi) (by simp) (fun x hx => by simp at hx)
  refine HP0.mono ?_
  clear HP0
  rintro e w3 ⟨rfl, hb3⟩
  have HB3 := Lib.hid hb3
  clear hb3
  have HPL := po_lit (w3.alloc (.cells #[] 28)) [(none, 0, []), (some ⟨w3.heap.size, 0, none⟩, 0, [])] 2 _ rfl (by decide) rfl (fun z hz => by
    simp only [List.mem_cons, List.not_mem_nil, or_false] at hz
    rcases hz with rfl | rfl
    · exact ⟨.inl rfl, (fun _ => rfl), by simp⟩
    · exact ⟨.inl rfl, (fun h => by cases h), by simp⟩)
  rw [size_alloc] at HPL
  have HPL2 := Lib.hid HPL
  clear HPL
  go_wp2_with fail
  refine HPL2.out.mono ?_
  rintro e w5 ⟨rfl, hb5⟩
  have hb5' : Below w3.heap.size w3 w5 := (bl_alloc w3 (.cells #[] 28)).trans (hb5.mono (Nat.le_succ _))
  have HB5 := Lib.hid (bl_trans HB3.out hb5')
  clear hb5 hb5' HPL2
  go_wp2_with fail
  have HA := at_true none none (some ⟨bn, 0, none⟩) 0 0 10 [] [] N w5 ⟨fun x hx => by simp at hx, .inl rfl⟩ (fun i hi => by simp at hi) (.inl rfl) (fun _ => rfl) (HSQ.out.below (bl_trans HBF.out HB5.out)) (by simp) (fun x hx => by simp at hx) (by simp) (by rw [HNL.out]; decide)
  rw [HNL.out] at HA
  refine HA.mono ?_
  clear HA
  rintro e w6 ⟨rfl, hb6⟩
  have HB6 := Lib.hid (bl_trans HB5.out hb6)
  clear hb6
  go_wp2_with fail
  refine (awake_any _).mono ?_
  rintro e w7 ⟨rfl, hb7⟩
  have HB7 := Lib.hid (bl_trans HBA.out (bl_trans HBF.out (bl_trans HB6.out hb7)))
  clear hb7
  go_wp2
  go_ret
  exact ⟨rfl, HB7.out⟩
end Go.Proofs.YtildfjlaieaadaaGreat
