/- The walk of the document's where: the set of code points that so many of some rows have. -/
import Derived.Test.YtglgfpapackcdaaGreatRw
import Derived.Deep.Onto

namespace Go.Proofs.YtglgfpapackcdaaGreat
open Go.RowKit Tnr

theorem mem_addR {L : List R} {lo hi : Int} {r : R} (h : r ∈ addR L lo hi) : r ∈ L ∨ r.2 = hi := by
  rcases snoc_or L with rfl | ⟨i, x, rfl⟩
  · rw [addR_nil] at h; simp at h; exact .inr (by rw [h])
  · rw [addR_snoc] at h
    split at h
    · rw [List.mem_append, List.mem_singleton] at h
      rcases h with h | rfl
      · exact .inl (by simp [h])
      · exact .inr rfl
    · rw [List.mem_append, List.mem_singleton] at h
      rcases h with h | rfl
      · exact .inl h
      · exact .inr rfl
theorem drop_gi {l : List Int} {k : Nat} (h : k < l.length) : l.drop k = gi l k :: l.drop (k + 1) := by
  rw [List.drop_eq_getElem_cons h]
  unfold gi
  rw [List.getD_eq_getElem?_getD, List.getElem?_eq_getElem h]; rfl
theorem gi_in {l : List Int} {k : Nat} (h : k < l.length) : gi l k ∈ l := by
  unfold gi
  rw [List.getD_eq_getElem?_getD, List.getElem?_eq_getElem h]; exact List.getElem_mem h
theorem upTo_drop {l : List Int} {k : Nat} (h : k < l.length) : upTo (l.drop k) = gi l k - 1 := by rw [drop_gi h]; rfl
theorem upTo_end {l : List Int} {k : Nat} (h : l.length ≤ k) : upTo (l.drop k) = 1114111 := by rw [List.drop_eq_nil_of_le h]; rfl
theorem places_range {rows : List (List R)} {ts : List Int} (h : Places rows ts) {u : Int} (hu : u ∈ ts) : 0 ≤ u ∧ u ≤ 1114111 := by
  rcases (h.2 u).1 hu with rfl | ⟨l, _, r, _, h⟩
  · omega
  · exact endsOf_range h
theorem rising_next {l : List Int} {k : Nat} (h : Rising l) (hk : k + 1 < l.length) : gi l k < gi l (k + 1) := by
  unfold Rising at h
  have := List.pairwise_iff_getElem.1 h k (k + 1) (by omega) hk (by omega)
  unfold gi
  rw [List.getD_eq_getElem?_getD, List.getD_eq_getElem?_getD, List.getElem?_eq_getElem (by omega), List.getElem?_eq_getElem hk]
  exact this
theorem many_take {xs : List SV} {k : Nat} (h : k < xs.length) (c : Int) : many (rowsOf (xs.take (k + 1))) c = many (rowsOf (xs.take k)) c + if Has (gs xs k).2.2 c then 1 else 0 := by
  rw [take_gs h]
  unfold rowsOf
  rw [List.map_append]
  exact many_snoc _ _ _
def whF (least most : Nat) (xs : List SV) (t : Int) : Bool := decide (least ≤ many (rowsOf xs) t) && decide (many (rowsOf xs) t ≤ most)

def WherePost (s : List R) (w : World) (e : Ending) (w' : World) : Prop :=
  ∃ q d, e = .returned (.slice q s.length d) ∧ OwnR w' w.heap.size (.slice q s.length d) s ∧ Below w.heap.size w w'
theorem ownR_mono {w : World} {B B' : Nat} {v : Value} {l : List R} (h : OwnR w B v l) (hb : B' ≤ B) : OwnR w B' v l := World.ownsRow.mono h hb
theorem ownR_hn {w : World} {B n d : Nat} {q : Option Addr} {l : List R} (h : OwnR w B (.slice q n d) l) : n = l.length := by
  obtain ⟨p, c, e, _⟩ := ownR_form h
  simp only [Value.slice.injEq] at e
  exact e.2.1

set_option maxHeartbeats 12800000 in
set_option maxRecDepth 100000 in
theorem where_any (p : Option Addr) (c n : Nat) (xs : List SV) (least most : Nat) (w : World) (s : List R) (hn : n = xs.length) (hx : SlS w p xs) (hl : (flat xs).length ≤ 10000000) (hnm : n ≤ 100000000) (hlm : least ≤ 100000000) (hmm : most ≤ 100000000)
    (hs : Rt s) (hh : ∀ c, 0 ≤ c → c ≤ 1114111 → (Has s c ↔ least ≤ many (rowsOf xs) c ∧ many (rowsOf xs) c ≤ most)) :
    Calls Tryz.prog 82 #[.slice p n c, .int .i64 (least : Nat), .int .i64 (most : Nat)] w (WherePost s w) := by
  have HENDS := Lib.hid (ends_any p c n xs w hn hx hl hnm)
  have HX := Lib.hid hx
  have HFL := Lib.hid hl
  have hnI : (n : Int) ≤ 100000000 := by omega
  have hlI : (least : Int) ≤ 100000000 := by omega
  have hmI : (most : Int) ≤ 100000000 := by omega
  have HN := Lib.hid hn
  have HS := Lib.hid hs
  have HH := Lib.hid hh
  clear hx hl hn hnm hs hh hlm hmm
  go_enter Tryz.func82, Tryz.ntmps82
  go_wp2_with (go_at_call 126; refine HENDS.out.mono ?_; rintro e w1 ⟨q1, d1, ts, rfl, hs1, hp1, hb1, hl1⟩; have HS1 := Lib.hid hs1; have HP1 := Lib.hid hp1; have HB1 := Lib.hid hb1; have hlI1 : (ts.length : Int) ≤ 100000000 := (by omega); clear hs1 hp1 hb1 hl1)
  obtain ⟨T, hT⟩ : ∃ T, T = ts.length := ⟨_, rfl⟩
  rw [← hT] at hlI1
  have HT := Lib.hid hT
  have HWE : Hid (wh (whF least most xs) [] ts = s) := where_eq HP1.out least most HS.out HH.out
  rw [← hT]
  clear HH hT
  go_loopw [8, 9] (fun ov iv wr => ∃ (i : Nat) (q : Option Addr) (no d : Nat) (L : List R), i ≤ T ∧ ov = .slice q no d ∧ iv = .int .i64 (i : Nat) ∧ no ≤ i ∧ Hid (wh (whF least most xs) L (ts.drop i) = s) ∧ Hid (∀ r ∈ L, 0 ≤ r.2 ∧ r.2 ≤ 1114111) ∧ Hid (OwnR wr w1.heap.size (.slice q no d) L) ∧ Hid (Below w1.heap.size w1 wr)) (fun _ iv _ => T - (intOf iv).toNat)
  case atStart => exact ⟨0, none, 0, 0, [], Nat.zero_le _, rfl, rfl, Nat.le_refl _, HWE.out, fun r hr => by simp at hr, ownR_nil _ _, Below.refl _ _⟩
  case round =>
    clear HENDS
    obtain ⟨i, q, no, d, L, hi, rfl, rfl, hno, HE, HLR, HOW, HB⟩ := hrel
    rename World => wr
    by_cases hin : i < T
    · have hit : i < ts.length := by have := HT.out; omega
      have hiI : (i : Int) < T := by omega
      obtain ⟨t, ht⟩ : ∃ t, t = gi ts i := ⟨_, rfl⟩
      obtain ⟨b1, o1, rfl, hct⟩ := sli_at (HS1.out.below HB.out) hit
      rw [← ht] at hct
      have htr := places_range HP1.out (gi_in hit)
      rw [← ht] at htr
      have ht0 := htr.1
      have ht1 := htr.2
      have HD : Hid (wh (whF least most xs) L (ts.drop i) = wh (whF least most xs) (if whF least most xs t then addR L t (upTo (ts.drop (i + 1))) else L) (ts.drop (i + 1))) := by
        show wh _ L (ts.drop i) = _
        rw [drop_gi hit, ← ht]
        conv => lhs; unfold wh
      have HTT := Lib.hid ht
      have HBW : Hid (Below w.heap.size w wr) := bl_trans HB1.out HB.out
      clear ht htr
      by_cases hi1 : i + 1 < T
      · obtain ⟨u, hu⟩ : ∃ u, u = gi ts (i + 1) := ⟨_, rfl⟩
        have hit2 : i + 1 < ts.length := by have := HT.out; omega
        have hcu : wr.cell? ⟨b1, o1 + (i + 1), none⟩ = some (.int .i64 u) := by
          obtain ⟨b2, o2, e2, h2⟩ := sli_at (HS1.out.below HB.out) hit2
          simp only [Option.some.injEq, Addr.mk.injEq, and_true] at e2
          obtain ⟨rfl, rfl⟩ := e2
          rw [hu]; exact h2
        have hur := places_range HP1.out (gi_in hit2)
        rw [← hu] at hur
        have hu0 := hur.1
        have hu1 := hur.2
        have hi1I : (i : Int) + 1 < T := by omega
        have HU : Hid (upTo (ts.drop (i + 1)) = u - 1) := by show _ = _; rw [upTo_drop hit2, hu]
        have hu2 : 1 ≤ u := by have h := rising_next HP1.out.1 hit2; rw [← hu, ← HTT.out] at h; omega
        clear hu hur hit2
        go_wp2
        go_loopw [11, 12] (fun nv kv wq => ∃ (k N r : Nat), k ≤ n ∧ nv = .int .i64 (N : Nat) ∧ kv = .int .i64 (k : Nat) ∧ N ≤ k ∧ Hid (N = many (rowsOf (xs.take k)) t) ∧ wq = wr.drewN r) (fun _ kv _ => n - (intOf kv).toNat)
        case atStart => exact ⟨0, 0, 0, Nat.zero_le _, rfl, rfl, Nat.le_refl _, rfl, rfl⟩
        case round =>
          obtain ⟨k, N, r, hk, rfl, rfl, hNk, HM, rfl⟩ := hrel
          by_cases hkn : k < n
          · have hkx : k < xs.length := by have := HN.out; omega
            obtain ⟨bp, op, rfl, hcell⟩ := sls_at (HX.out.below HBW.out) hkx
            have hkI : (k : Int) < n := by omega
            have hNI : (N : Int) ≤ 100000000 := by omega
            have HMT := Lib.hid (many_take hkx t)
            obtain ⟨pa, ca, la, hga⟩ : ∃ pa ca la, gs xs k = (pa, ca, la) := ⟨_, _, _, rfl⟩
            have HA : Hid (SlR (wr.drewN r) pa la) := by
              have h := HX.out.1 (gs xs k) (by rw [gs_get hkx]; exact List.getElem_mem hkx)
              rw [hga] at h
              exact h.below (bl_trans HBW.out (drewN_below wr r))
            have HLA : Hid (la.length ≤ 4611686018427387904) := by
              have h1 := flat_one_le hkx
              rw [hga] at h1
              have h2 := HFL.out
              show la.length ≤ _
              simp only at h1
              omega
            obtain ⟨m, hm⟩ : ∃ m, m = la.length := ⟨_, rfl⟩
            rw [hga] at hcell
            simp only at hcell
            rw [← hm] at hcell
            rw [hga] at HMT
            have HMM := Lib.hid hm
            clear hga hm hkx
            by_cases hb : Has la t
            · have RH : Hid (∀ W : World, SlR W pa la → Calls Tryz.prog 51 #[.slice pa m ca, .int .i64 t] W fun e w' => e = .returned (.bool true) ∧ w' = W) := fun W hW => (rhas_any pa ca m la t W HMM.out hW HLA.out).mono fun e w' h => ⟨by rw [h.1]; unfold hasB; rw [decide_eq_true hb], h.2.symm⟩
              have HNX : Hid (N + 1 = many (rowsOf (xs.take (k + 1))) t) := by show _ = _; rw [HMT.out, if_pos hb, ← HM.out]
              clear hb
              go_wp2
              go_quiet ((go_at_call 51; exact (RH.out _ (by first | assumption | exact HA.out)).mono fun _ _ h => ⟨h.1, _, h.2⟩))
              go_wp2
              go_roundw
              case rel => exact ⟨k + 1, N + 1, r + nq, by omega, by go_num, by go_num, by omega, HNX.out, rfl⟩
              case measure => simp [intOf]; omega
            · have RH : Hid (∀ W : World, SlR W pa la → Calls Tryz.prog 51 #[.slice pa m ca, .int .i64 t] W fun e w' => e = .returned (.bool false) ∧ w' = W) := fun W hW => (rhas_any pa ca m la t W HMM.out hW HLA.out).mono fun e w' h => ⟨by rw [h.1]; unfold hasB; rw [decide_eq_false hb], h.2.symm⟩
              have HNX : Hid (N = many (rowsOf (xs.take (k + 1))) t) := by show _ = _; rw [HMT.out, if_neg hb, ← HM.out]; rfl
              clear hb
              go_wp2
              go_quiet ((go_at_call 51; exact (RH.out _ (by first | assumption | exact HA.out)).mono fun _ _ h => ⟨h.1, _, h.2⟩))
              go_wp2
              go_roundw
              case rel => exact ⟨k + 1, N, r + nq, by omega, rfl, by go_num, by omega, HNX.out, rfl⟩
              case measure => simp [intOf]; omega
          · have hkI : (n : Int) ≤ k := by omega
            have HM2 : Hid (N = many (rowsOf xs) t) := by show N = _; rw [HM.out, List.take_of_length_le (by have := HN.out; omega)]
            have hNI : (N : Int) ≤ 100000000 := by omega
            have HOWr : Hid (OwnR (wr.drewN r) w1.heap.size (.slice q no d) L) := HOW
            have HBr := Lib.hid (bl_trans HB.out (drewN_below wr r))
            clear HM
            by_cases hA : least ≤ N
            · have hAI : (least : Int) ≤ N := by omega
              by_cases hB : N ≤ most
              · have hBI : (N : Int) ≤ most := by omega
                have HF : Hid (whF least most xs t = true) := by show whF least most xs t = _; unfold whF; rw [← HM2.out]; simp only [Bool.and_eq_true, decide_eq_true_eq]; omega
                have HLR2 : Hid (∀ r ∈ addR L t (u - 1), 0 ≤ r.2 ∧ r.2 ≤ 1114111) := fun r hr => by
                  rcases mem_addR hr with h | h
                  · exact HLR.out r h
                  · rw [h]; omega
                have HADD : Hid (Calls Tryz.prog 127 #[.slice q no d, .int .i64 t, .int .i64 ((u - 1))] (wr.drewN r) (AddPost w1.heap.size (wr.drewN r) (addR L t ((u - 1))))) := by
                  have hnl := ownR_hn HOWr.out
                  rcases snoc_or L with rfl | ⟨I, x, rfl⟩
                  · obtain rfl : no = 0 := by simpa using hnl
                    exact radd_nil _ _ _ _ _ _ HOWr.out HBr.out.size
                  · obtain rfl : no = I.length + 1 := by simpa using hnl
                    exact radd_snoc _ _ _ I.length I x _ _ _ rfl HOWr.out HBr.out.size (by omega) (HLR.out x (by simp))
                have HLN := Lib.hid (addR_length L t ((u - 1)))
                have HLO := Lib.hid (ownR_hn HOWr.out)
                go_wp2_with (go_at_call 127; refine HADD.out.mono ?_; rintro e w5 ⟨q5, d5, rfl, ho5, hb5⟩; have HO5 := Lib.hid ho5; have HB5 := Lib.hid (HBr.out.trans hb5); clear ho5 hb5)
                go_roundw
                case rel => exact ⟨i + 1, q5, _, d5, _, by omega, rfl, by go_num, (by have h1 := HLN.out; have h2 := HLO.out; omega), (by show _ = _; rw [← HE.out, HD.out, HF.out, HU.out]; simp), HLR2.out, HO5.out, HB5.out⟩
                case measure => simp [intOf]; omega
              · have hBI : (most : Int) < N := by omega
                have HF : Hid (whF least most xs t = false) := by show whF least most xs t = _; unfold whF; rw [← HM2.out]; simp only [Bool.and_eq_false_iff, decide_eq_false_iff_not]; omega
                go_wp2
                go_roundw
                case rel => exact ⟨i + 1, q, no, d, L, by omega, rfl, by go_num, by omega, (by show _ = _; rw [← HE.out, HD.out, HF.out]; simp), HLR.out, HOWr.out, HBr.out⟩
                case measure => simp [intOf]; omega
            · have hAI : (N : Int) < least := by omega
              have HF : Hid (whF least most xs t = false) := by show whF least most xs t = _; unfold whF; rw [← HM2.out]; simp only [Bool.and_eq_false_iff, decide_eq_false_iff_not]; omega
              go_wp2
              go_roundw
              case rel => exact ⟨i + 1, q, no, d, L, by omega, rfl, by go_num, by omega, (by show _ = _; rw [← HE.out, HD.out, HF.out]; simp), HLR.out, HOWr.out, HBr.out⟩
              case measure => simp [intOf]; omega
      · have hi1I : (T : Int) ≤ (i : Int) + 1 := by omega
        have HU : Hid (upTo (ts.drop (i + 1)) = 1114111) := by show _ = _; rw [upTo_end (by have := HT.out; omega)]
        go_wp2
        go_loopw [11, 12] (fun nv kv wq => ∃ (k N r : Nat), k ≤ n ∧ nv = .int .i64 (N : Nat) ∧ kv = .int .i64 (k : Nat) ∧ N ≤ k ∧ Hid (N = many (rowsOf (xs.take k)) t) ∧ wq = wr.drewN r) (fun _ kv _ => n - (intOf kv).toNat)
        case atStart => exact ⟨0, 0, 0, Nat.zero_le _, rfl, rfl, Nat.le_refl _, rfl, rfl⟩
        case round =>
          obtain ⟨k, N, r, hk, rfl, rfl, hNk, HM, rfl⟩ := hrel
          by_cases hkn : k < n
          · have hkx : k < xs.length := by have := HN.out; omega
            obtain ⟨bp, op, rfl, hcell⟩ := sls_at (HX.out.below HBW.out) hkx
            have hkI : (k : Int) < n := by omega
            have hNI : (N : Int) ≤ 100000000 := by omega
            have HMT := Lib.hid (many_take hkx t)
            obtain ⟨pa, ca, la, hga⟩ : ∃ pa ca la, gs xs k = (pa, ca, la) := ⟨_, _, _, rfl⟩
            have HA : Hid (SlR (wr.drewN r) pa la) := by
              have h := HX.out.1 (gs xs k) (by rw [gs_get hkx]; exact List.getElem_mem hkx)
              rw [hga] at h
              exact h.below (bl_trans HBW.out (drewN_below wr r))
            have HLA : Hid (la.length ≤ 4611686018427387904) := by
              have h1 := flat_one_le hkx
              rw [hga] at h1
              have h2 := HFL.out
              show la.length ≤ _
              simp only at h1
              omega
            obtain ⟨m, hm⟩ : ∃ m, m = la.length := ⟨_, rfl⟩
            rw [hga] at hcell
            simp only at hcell
            rw [← hm] at hcell
            rw [hga] at HMT
            have HMM := Lib.hid hm
            clear hga hm hkx
            by_cases hb : Has la t
            · have RH : Hid (∀ W : World, SlR W pa la → Calls Tryz.prog 51 #[.slice pa m ca, .int .i64 t] W fun e w' => e = .returned (.bool true) ∧ w' = W) := fun W hW => (rhas_any pa ca m la t W HMM.out hW HLA.out).mono fun e w' h => ⟨by rw [h.1]; unfold hasB; rw [decide_eq_true hb], h.2.symm⟩
              have HNX : Hid (N + 1 = many (rowsOf (xs.take (k + 1))) t) := by show _ = _; rw [HMT.out, if_pos hb, ← HM.out]
              clear hb
              go_wp2
              go_quiet ((go_at_call 51; exact (RH.out _ (by first | assumption | exact HA.out)).mono fun _ _ h => ⟨h.1, _, h.2⟩))
              go_wp2
              go_roundw
              case rel => exact ⟨k + 1, N + 1, r + nq, by omega, by go_num, by go_num, by omega, HNX.out, rfl⟩
              case measure => simp [intOf]; omega
            · have RH : Hid (∀ W : World, SlR W pa la → Calls Tryz.prog 51 #[.slice pa m ca, .int .i64 t] W fun e w' => e = .returned (.bool false) ∧ w' = W) := fun W hW => (rhas_any pa ca m la t W HMM.out hW HLA.out).mono fun e w' h => ⟨by rw [h.1]; unfold hasB; rw [decide_eq_false hb], h.2.symm⟩
              have HNX : Hid (N = many (rowsOf (xs.take (k + 1))) t) := by show _ = _; rw [HMT.out, if_neg hb, ← HM.out]; rfl
              clear hb
              go_wp2
              go_quiet ((go_at_call 51; exact (RH.out _ (by first | assumption | exact HA.out)).mono fun _ _ h => ⟨h.1, _, h.2⟩))
              go_wp2
              go_roundw
              case rel => exact ⟨k + 1, N, r + nq, by omega, rfl, by go_num, by omega, HNX.out, rfl⟩
              case measure => simp [intOf]; omega
          · have hkI : (n : Int) ≤ k := by omega
            have HM2 : Hid (N = many (rowsOf xs) t) := by show N = _; rw [HM.out, List.take_of_length_le (by have := HN.out; omega)]
            have hNI : (N : Int) ≤ 100000000 := by omega
            have HOWr : Hid (OwnR (wr.drewN r) w1.heap.size (.slice q no d) L) := HOW
            have HBr := Lib.hid (bl_trans HB.out (drewN_below wr r))
            clear HM
            by_cases hA : least ≤ N
            · have hAI : (least : Int) ≤ N := by omega
              by_cases hB : N ≤ most
              · have hBI : (N : Int) ≤ most := by omega
                have HF : Hid (whF least most xs t = true) := by show whF least most xs t = _; unfold whF; rw [← HM2.out]; simp only [Bool.and_eq_true, decide_eq_true_eq]; omega
                have HLR2 : Hid (∀ r ∈ addR L t 1114111, 0 ≤ r.2 ∧ r.2 ≤ 1114111) := fun r hr => by
                  rcases mem_addR hr with h | h
                  · exact HLR.out r h
                  · rw [h]; omega
                have HADD : Hid (Calls Tryz.prog 127 #[.slice q no d, .int .i64 t, .int .i64 (1114111)] (wr.drewN r) (AddPost w1.heap.size (wr.drewN r) (addR L t (1114111)))) := by
                  have hnl := ownR_hn HOWr.out
                  rcases snoc_or L with rfl | ⟨I, x, rfl⟩
                  · obtain rfl : no = 0 := by simpa using hnl
                    exact radd_nil _ _ _ _ _ _ HOWr.out HBr.out.size
                  · obtain rfl : no = I.length + 1 := by simpa using hnl
                    exact radd_snoc _ _ _ I.length I x _ _ _ rfl HOWr.out HBr.out.size (by omega) (HLR.out x (by simp))
                have HLN := Lib.hid (addR_length L t (1114111))
                have HLO := Lib.hid (ownR_hn HOWr.out)
                go_wp2_with (go_at_call 127; refine HADD.out.mono ?_; rintro e w5 ⟨q5, d5, rfl, ho5, hb5⟩; have HO5 := Lib.hid ho5; have HB5 := Lib.hid (HBr.out.trans hb5); clear ho5 hb5)
                go_roundw
                case rel => exact ⟨i + 1, q5, _, d5, _, by omega, rfl, by go_num, (by have h1 := HLN.out; have h2 := HLO.out; omega), (by show _ = _; rw [← HE.out, HD.out, HF.out, HU.out]; simp), HLR2.out, HO5.out, HB5.out⟩
                case measure => simp [intOf]; omega
              · have hBI : (most : Int) < N := by omega
                have HF : Hid (whF least most xs t = false) := by show whF least most xs t = _; unfold whF; rw [← HM2.out]; simp only [Bool.and_eq_false_iff, decide_eq_false_iff_not]; omega
                go_wp2
                go_roundw
                case rel => exact ⟨i + 1, q, no, d, L, by omega, rfl, by go_num, by omega, (by show _ = _; rw [← HE.out, HD.out, HF.out]; simp), HLR.out, HOWr.out, HBr.out⟩
                case measure => simp [intOf]; omega
            · have hAI : (N : Int) < least := by omega
              have HF : Hid (whF least most xs t = false) := by show whF least most xs t = _; unfold whF; rw [← HM2.out]; simp only [Bool.and_eq_false_iff, decide_eq_false_iff_not]; omega
              go_wp2
              go_roundw
              case rel => exact ⟨i + 1, q, no, d, L, by omega, rfl, by go_num, by omega, (by show _ = _; rw [← HE.out, HD.out, HF.out]; simp), HLR.out, HOWr.out, HBr.out⟩
              case measure => simp [intOf]; omega
    · have hiI : (T : Int) ≤ i := by omega
      have hL : L = s := by
        have h := HE.out
        rw [List.drop_eq_nil_of_le (by have := HT.out; omega)] at h
        exact h
      have HO2 := Lib.hid (ownR_mono HOW.out HB1.out.size)
      have HNO := Lib.hid (ownR_hn HOW.out)
      subst hL
      go_wp2
      go_ret
      exact ⟨q, d, congrArg (fun k => Ending.returned (.slice q k d)) HNO.out, by rw [← HNO.out]; exact HO2.out, bl_trans HB1.out HB.out⟩
end Go.Proofs.YtglgfpapackcdaaGreat
