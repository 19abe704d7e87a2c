/- The walk of RangesEnds. -/
import Derived.Test.YtobdkkcihjpebaaGreatRzi
namespace Go.Proofs.YtobdkkcihjpebaaGreat
open Go.RowKit Tnr

def endsE : List Int := [(-9223372036854775808), (-1), 0, 1, 2, 4, 5, 1114110, 1114111, 1114112, 9223372036854775807]
theorem rjoin_two (p q : Option Addr) (c e m n : Nat) (a b r : List R) (W : World) (hr : r = cn (a ++ b)) (hm : m = a.length) (hn : n = b.length) (hp : SlR W p a) (hq : SlR W q b) (hl : a.length + b.length ≤ 10000) :
    Calls Tryz.prog 26 #[.slice (some ⟨W.heap.size, 0, none⟩) 2 2] (W.alloc (.cells #[.slice p m c, .slice q n e] 22)) (WherePost r W) := by
  subst hm hn
  have ef : flat [(p, c, a), (q, e, b)] = a ++ b := by simp [flat]
  refine (rjoin_any (some ⟨W.heap.size, 0, none⟩) 2 2 [(p, c, a), (q, e, b)] r _ (by rw [ef]; exact hr) rfl (sls_new (fun x hx => by
    simp only [List.mem_cons, List.not_mem_nil, or_false] at hx
    rcases hx with rfl | rfl
    · exact hp
    · exact hq) rfl) (by rw [ef, List.length_append]; exact hl) (by simp)).mono ?_
  exact fun _ _ h => where_back (bl_alloc _ _) h
theorem slr_part {w : World} {b o : Nat} {l : List R} {i : Nat} (h : SlR w (some ⟨b, o, none⟩) l) (hi : i < l.length) : SlR w (some ⟨b, o + i * 2, none⟩) [gr l i] := by
  obtain ⟨b', o', e, h1, h2⟩ := slr_at h hi
  simp only [Option.some.injEq, Addr.mk.injEq, and_true] at e
  obtain ⟨rfl, rfl⟩ := e
  refine .inr ⟨b, o + i * 2, rfl, fun j hj => ?_⟩
  have hj0 : j = 0 := by simpa using hj
  subst hj0
  exact ⟨by rw [Nat.zero_mul, Nat.add_zero]; exact h1, by rw [Nat.zero_mul, Nat.add_zero]; exact h2⟩
theorem ownR_grown {w w' : World} {B : Nat} {v : Value} {l : List R} (h : OwnR w B v l) (hb : Below w.heap.size w w') : OwnR w' B v l := ownR_below h hb

set_option maxHeartbeats 12800000 in
set_option maxRecDepth 100000 in
theorem rends_true (w : World) :
    Calls Tryz.prog 4 #[] w fun e w' => e = .returned (.bool true) ∧ Below w.heap.size w w' := by
  obtain ⟨i0, hinf, hz0, hz1, hz2⟩ := info_parts info_range
  have hse0 := sli_new w endsE #[.int .i64 (-9223372036854775808), .int .i64 (-1), .int .i64 0, .int .i64 1, .int .i64 2, .int .i64 4, .int .i64 5, .int .i64 1114110, .int .i64 1114111, .int .i64 1114112, .int .i64 9223372036854775807] 3 (by rfl)
  have hbw := bl_alloc w (.cells #[.int .i64 (-9223372036854775808), .int .i64 (-1), .int .i64 0, .int .i64 1, .int .i64 2, .int .i64 4, .int .i64 5, .int .i64 1114110, .int .i64 1114111, .int .i64 1114112, .int .i64 9223372036854775807] 3)
  go_enter Tryz.func4, Tryz.ntmps4
  go_wp2
  obtain ⟨w1, hw1⟩ : ∃ w1, w1 = w.alloc (.cells #[.int .i64 (-9223372036854775808), .int .i64 (-1), .int .i64 0, .int .i64 1, .int .i64 2, .int .i64 4, .int .i64 5, .int .i64 1114110, .int .i64 1114111, .int .i64 1114112, .int .i64 9223372036854775807] 3) := ⟨_, rfl⟩
  rw [← hw1] at hse0 hbw ⊢
  clear hw1
  generalize w.heap.size = eb at hse0 ⊢
  have SE := Lib.hid hse0
  have KW := Lib.hid hbw
  clear hse0 hbw
  go_loopw [2, 3] (fun lv iv wr => ∃ (i no d : Nat) (q : Option Addr) (L : List R), i ≤ 11 ∧ lv = .slice q no d ∧ iv = .int .i64 (i : Nat) ∧ Hid (no = L.length) ∧ no = i * 11 ∧ Hid (OwnR wr w1.heap.size (.slice q no d) L) ∧ Hid (Below w1.heap.size w1 wr)) (fun _ iv _ => 11 - (intOf iv).toNat)
  case atStart => exact ⟨0, 0, 0, none, [], by omega, rfl, rfl, rfl, rfl, ownR_nil _ _, Below.refl _ _⟩
  case round =>
    obtain ⟨i, no, d, q, L, hi, rfl, rfl, HNO, hno, HOW, HB⟩ := hrel
    rename World => wr
    by_cases hi11 : i < 11
    · have hiI : (i : Int) < 11 := by omega
      have HI := Lib.hid hi11
      have HNI := Lib.hid hno
      clear hi11 hno hi
      go_wp2
      go_loopw [2, 4] (fun lv kv wq => ∃ (k no d : Nat) (q : Option Addr) (L : List R), k ≤ 11 ∧ lv = .slice q no d ∧ kv = .int .i64 (k : Nat) ∧ Hid (no = L.length) ∧ no = i * 11 + k ∧ Hid (OwnR wq w1.heap.size (.slice q no d) L) ∧ Hid (Below w1.heap.size w1 wq)) (fun _ kv _ => 11 - (intOf kv).toNat)
      case atStart => exact ⟨0, no, d, q, L, by omega, rfl, rfl, HNO.out, HNI.out, HOW.out, HB.out⟩
      case round =>
        clear HNO HNI HOW HB
        obtain ⟨k, no, d, q, L, hk, rfl, rfl, HNO, hno, HOW, HB⟩ := hrel
        rename World => wq
        by_cases hk11 : k < 11
        · have hkI : (k : Int) < 11 := by omega
          obtain ⟨b1, o1, e1, hc1⟩ := sli_at (SE.out.below HB.out) (show i < endsE.length from HI.out)
          obtain ⟨b2, o2, e2, hc2⟩ := sli_at (SE.out.below HB.out) (show k < endsE.length from hk11)
          simp only [Option.some.injEq, Addr.mk.injEq, and_true] at e1 e2
          obtain ⟨rfl, rfl⟩ := e1
          obtain ⟨rfl, rfl⟩ := e2
          rw [Nat.zero_add] at hc1 hc2
          obtain ⟨x, hx⟩ : ∃ x, x = gi endsE i := ⟨_, rfl⟩
          obtain ⟨y, hy⟩ : ∃ x, x = gi endsE k := ⟨_, rfl⟩
          rw [← hx] at hc1
          rw [← hy] at hc2
          clear hx hy
          have HK := Lib.hid hk11
          have HNN := Lib.hid hno
          have HLT : Hid (no ≤ 121) := by have := HI.out; show _ ≤ _; omega
          have hrow := ownR_rowN HOW.out HNO.out
          have HRO := Lib.hid hrow
          have HWS := Lib.hid HB.out.size
          clear hrow hk11 hno hk
          go_wp2
          go_region_law ((refine step_append_lies _ (by rfl) _ _ _ (by rfl) w1.heap.size 39 i0 (.agg #[.int .i64 0, .int .i64 0]) 2 16 Tryz.underlying22 hinf hz0 hz1 hz2 rfl (by omega) (.slice q no d) no _ (by rfl) ((HRO.out.alloc _).drew) ⟨wq.heap.size, 0, none⟩ 1 1 [.int .i64 x, .int .i64 y] (by rfl) (by rfl) (World.news_of_block (cs := #[.int .i64 x, .int .i64 y]) (t := 39) (fr := (0, 0)) (heap_alloc_new wq _)) (by simp [Value.oneCell']) (by omega) (by have := HLT.out; simp only [maxLen]; omega) (by have := HLT.out; omega) (by have := HWS.out; simp; omega) (wq.heap.size + 1) (by simp) ?_; intro gg cap w5 hown5 hgrow hat hlt))
          all_goals
            have hO5 : OwnR w5 w1.heap.size (.slice (some ⟨gg, 0, none⟩) (no + 1) cap) (L ++ [(x, y)]) := ownR_appended (r := (x, y)) HNO.out.symm hown5
            have hb5 : Below w1.heap.size w1 w5 := (HB.out.alloc HB.out.size _).drew.grown hgrow (by have := HWS.out; simp; omega) (fun k hk => (HRO.out.lt k hk).1)
            have HO5 := Lib.hid hO5
            have HB5 := Lib.hid hb5
            have HN5 : Hid (no + 1 = (L ++ [(x, y)]).length) := by show _ = _; rw [List.length_append, ← HNO.out]; rfl
            clear hown5 hgrow hat hlt hO5 hb5
            go_wp2
            go_roundw
          case rel => exact ⟨k + 1, no + 1, cap, _, _, by have := HK.out; omega, rfl, by go_num, HN5.out, by have := HNN.out; omega, HO5.out, HB5.out⟩
          case measure => have := HK.out; simp [intOf]; omega
          case rel => exact ⟨k + 1, no + 1, cap, _, _, by have := HK.out; omega, rfl, by go_num, HN5.out, by have := HNN.out; omega, HO5.out, HB5.out⟩
          case measure => have := HK.out; simp [intOf]; omega
        · have hkI : (11 : Int) ≤ k := by omega
          have HNN : Hid (no = (i + 1) * 11) := by show _ = _; omega
          clear hno
          go_wp2
          go_roundw
          case rel => exact ⟨i + 1, no, d, q, L, by have := HI.out; omega, rfl, by go_num, HNO.out, HNN.out, HOW.out, HB.out⟩
          case measure => have := HI.out; simp [intOf]; omega
    · have hiI : (11 : Int) ≤ i := by omega
      obtain rfl : no = 121 := by omega
      clear hno
      obtain ⟨q', c', e', hlc, hcm, _, hsl, _⟩ := ownR_form HOW.out
      have hLL := HNO.out
      simp only [Value.slice.injEq] at e'
      obtain ⟨rfl, hq2, rfl⟩ := e'
      clear hq2
      obtain ⟨bL, oL, rfl, _, _⟩ := slr_at hsl (show 0 < L.length by omega)
      have SL := Lib.hid hsl
      have HLL := Lib.hid hLL
      have hdI : (121 : Int) ≤ d := by omega
      have hdJ : (d : Int) ≤ 9223372036854775807 := by omega
      have SE2 := Lib.hid (SE.out.below HB.out)
      have K := Lib.hid (bl_trans KW.out HB.out)
      clear hsl hLL hlc hcm HOW HNO HB hi
      go_wp2
      go_loopw [5] (fun iv wx => ∃ (i : Nat), i ≤ 121 ∧ iv = .int .i64 (i : Nat) ∧ Hid (Below wr.heap.size wr wx)) (fun iv _ => 121 - (intOf iv).toNat)
      case atStart => exact ⟨0, by omega, rfl, Below.refl _ _⟩
      case round =>
        obtain ⟨i, hi, rfl, HB⟩ := hrel
        rename World => wx
        by_cases hi121 : i < 121
        · have hiJ : (i : Int) < 121 := by omega
          have HI := Lib.hid hi121
          clear hi121 hi
          go_wp2
          go_loopw [6] (fun kv wy => ∃ (k : Nat), k ≤ 121 ∧ kv = .int .i64 (k : Nat) ∧ Hid (Below wr.heap.size wr wy)) (fun kv _ => 121 - (intOf kv).toNat)
          case atStart => exact ⟨0, by omega, rfl, HB.out⟩
          case round =>
            clear HB
            obtain ⟨k, hk, rfl, HB⟩ := hrel
            rename World => wy
            by_cases hk121 : k < 121
            · have hkJ : (k : Int) < 121 := by omega
              obtain ⟨b1, o1, e1, hx1, hx2⟩ := slr_at (SL.out.below HB.out) (show i < L.length by have := HLL.out; have := HI.out; omega)
              obtain ⟨b2, o2, e2, hy1, hy2⟩ := slr_at (SL.out.below HB.out) (show k < L.length by have := HLL.out; omega)
              obtain ⟨j, hj⟩ : ∃ j, j = (i + k) % 121 := ⟨_, rfl⟩
              have hj121 : j < 121 := by rw [hj]; exact Nat.mod_lt _ (by omega)
              obtain ⟨b3, o3, e3, hz1', hz2'⟩ := slr_at (SL.out.below HB.out) (show j < L.length by have := HLL.out; omega)
              simp only [Option.some.injEq, Addr.mk.injEq, and_true] at e1 e2 e3
              obtain ⟨rfl, rfl⟩ := e1
              obtain ⟨rfl, rfl⟩ := e2
              obtain ⟨rfl, rfl⟩ := e3
              have hrem2 : ((i : Int) + (k : Int)) % 121 = (j : Int) := by rw [hj]; omega
              have hrem : ((i : Int) + (k : Int)).tmod 121 = (j : Int) := by rw [Int.tmod_eq_emod_of_nonneg (by omega)]; exact hrem2
              have hjJ : (j : Int) < 121 := by omega
              obtain ⟨u1, hu1⟩ : ∃ x, x = (gr L i).1 := ⟨_, rfl⟩
              obtain ⟨u2, hu2⟩ : ∃ x, x = (gr L i).2 := ⟨_, rfl⟩
              obtain ⟨v1, hv1⟩ : ∃ x, x = (gr L k).1 := ⟨_, rfl⟩
              obtain ⟨v2, hv2⟩ : ∃ x, x = (gr L k).2 := ⟨_, rfl⟩
              obtain ⟨t1, ht1⟩ : ∃ x, x = (gr L j).1 := ⟨_, rfl⟩
              obtain ⟨t2, ht2⟩ : ∃ x, x = (gr L j).2 := ⟨_, rfl⟩
              rw [← hu1] at hx1
              rw [← hu2] at hx2
              rw [← hv1] at hy1
              rw [← hv2] at hy2
              rw [← ht1] at hz1'
              rw [← ht2] at hz2'
              clear hu1 hu2 hv1 hv2 ht1 ht2 hj hj121 hk
              have HK := Lib.hid hk121
              clear hk121
              go_wp2
              go_region_held3 (fun W => W.cell? ⟨bL, oL + i * 2, none⟩ = some (.int .i64 u1) ∧ W.cell? ⟨bL, oL + i * 2 + 1, none⟩ = some (.int .i64 u2) ∧ W.cell? ⟨bL, oL + k * 2, none⟩ = some (.int .i64 v1) ∧ W.cell? ⟨bL, oL + k * 2 + 1, none⟩ = some (.int .i64 v2)) (first | go_keep | exact ⟨by assumption, by assumption, by assumption, by assumption⟩) (fail)
              obtain ⟨wa, hwa⟩ : ∃ wa, wa = (wy.alloc (.cells #[.int .i64 u1, .int .i64 u2, .int .i64 v1, .int .i64 v2] 39)).drew := ⟨_, rfl⟩
              rw [← hwa]
              have hsa : SlR wa (some ⟨wy.heap.size, 0, none⟩) [(u1, u2), (v1, v2)] := by rw [hwa]; exact slr_new wy [(u1, u2), (v1, v2)] _ 39 rfl
              have hba : Below wy.heap.size wy wa := by rw [hwa]; exact (bl_alloc _ _).drew
              clear hwa
              generalize wy.heap.size = ba at hsa ⊢
              have SA := Lib.hid hsa
              have hz1 := keep_cell hba hz1'
              have hz2 := keep_cell hba hz2'
              replace HB := Lib.hid (bl_trans HB.out hba)
              clear hsa hba hx1 hx2 hy1 hy2 hz1' hz2'
              go_wp2_with fail
              rw [show wa.heap.size + 1 = (wa.alloc (.cells #[.int .i64 t1, .int .i64 t2, .int .i64 3, .int .i64 3] 39)).heap.size by simp]
              obtain ⟨wb, hwb⟩ : ∃ wb, wb = wa.alloc (.cells #[.int .i64 t1, .int .i64 t2, .int .i64 3, .int .i64 3] 39) := ⟨_, rfl⟩
              rw [← hwb]
              have hsb : SlR wb (some ⟨wa.heap.size, 0, none⟩) [(t1, t2), (3, 3)] := by rw [hwb]; exact slr_new wa [(t1, t2), (3, 3)] _ 39 rfl
              have hbb : Below wa.heap.size wa wb := by rw [hwb]; exact bl_alloc _ _
              clear hwb
              generalize wa.heap.size = bb at hsb ⊢
              have SB := Lib.hid hsb
              replace SA := Lib.hid (SA.out.below hbb)
              replace HB := Lib.hid (bl_trans HB.out hbb)
              clear hsb hbb hz1 hz2
              obtain ⟨A, hA⟩ : ∃ A : List R, A = [(u1, u2), (v1, v2)] := ⟨_, rfl⟩
              obtain ⟨B, hB⟩ : ∃ B : List R, B = [(t1, t2), (3, 3)] := ⟨_, rfl⟩
              rw [← hA] at SA
              rw [← hB] at SB
              have HA := Lib.hid (show 2 = A.length by rw [hA]; rfl)
              have HBL := Lib.hid (show 2 = B.length by rw [hB]; rfl)
              clear hA hB
              obtain ⟨J, hJ⟩ : ∃ J, J = cn (A ++ B) := ⟨_, rfl⟩
              obtain ⟨M, hM⟩ : ∃ M, M = mt A B := ⟨_, rfl⟩
              obtain ⟨N, hN⟩ : ∃ N, N = ng A := ⟨_, rfl⟩
              obtain ⟨tr, htr⟩ : ∃ t, t = rightB A := ⟨_, rfl⟩
              obtain ⟨y, hy⟩ : ∃ t, t = mny A := ⟨_, rfl⟩
              have HLN : Hid (J.length ≤ 100 ∧ M.length ≤ 100 ∧ N.length ≤ 100) := by
                have h1 := cn_length (A ++ B)
                have h2 := mt_length A B
                have h3 := ng_length A
                have h4 := HA.out
                have h5 := HBL.out
                rw [List.length_append] at h1
                show _ ∧ _ ∧ _
                rw [hJ, hM, hN]; omega
              have HJ := Lib.hid hJ
              have HMt := Lib.hid hM
              have HNg := Lib.hid hN
              have HTR := Lib.hid htr
              have HY := Lib.hid hy
              clear hJ hM hN htr hy
              refine (join_two (some ⟨ba, 0, none⟩) (some ⟨bb, 0, none⟩) 2 2 2 2 A B J wb HJ.out HA.out HBL.out SA.out SB.out (by have := HA.out; have := HBL.out; omega)).mono ?_
              rintro e x1 ⟨q3, c3, rfl, hs, hb⟩
              replace HB := Lib.hid (bl_trans HB.out hb)
              replace SA := Lib.hid (SA.out.below hb)
              replace SB := Lib.hid (SB.out.below hb)
              have S3 := Lib.hid hs
              clear hs hb
              go_wp2_with fail
              refine (rjoin_two (some ⟨ba, 0, none⟩) (some ⟨bb, 0, none⟩) 2 2 2 2 A B J x1 HJ.out HA.out HBL.out SA.out SB.out (by have := HA.out; have := HBL.out; omega)).mono ?_
              rintro e x2 ⟨q4, c4, rfl, ho, hb⟩
              replace HB := Lib.hid (bl_trans HB.out hb)
              replace SA := Lib.hid (SA.out.below hb)
              replace SB := Lib.hid (SB.out.below hb)
              replace S3 := Lib.hid (S3.out.below hb)
              have S4 := Lib.hid (tells_sl ho)
              clear ho hb
              go_wp2_with fail
              refine (same_self q3 q4 c3 c4 J x2 S3.out S4.out (by have := HLN.out; omega)).mono ?_
              rintro e x3 ⟨rfl, hb⟩
              replace HB := Lib.hid (bl_trans HB.out hb)
              replace SA := Lib.hid (SA.out.below hb)
              replace SB := Lib.hid (SB.out.below hb)
              clear hb S3 S4
              go_wp2_with fail
              refine (rightT (some ⟨ba, 0, none⟩) 2 2 A tr x3 HTR.out HA.out SA.out (by have := HA.out; omega)).mono ?_
              rintro e x4 ⟨rfl, hb⟩
              replace HB := Lib.hid (bl_trans HB.out hb)
              replace SA := Lib.hid (SA.out.below hb)
              replace SB := Lib.hid (SB.out.below hb)
              clear hb
              go_wp2_with fail
              refine (rrightT (some ⟨ba, 0, none⟩) 2 2 A tr x4 HTR.out HA.out SA.out (by have := HA.out; omega)).mono ?_
              rintro e x5 ⟨rfl, hb⟩
              replace HB := Lib.hid (bl_trans HB.out hb)
              replace SA := Lib.hid (SA.out.below hb)
              replace SB := Lib.hid (SB.out.below hb)
              clear hb
              go_wp2_with fail
              refine (manyT (some ⟨ba, 0, none⟩) 2 2 A y x5 HY.out HA.out SA.out (by have := HA.out; omega)).mono ?_
              rintro e x6 ⟨rfl, hb⟩
              replace HB := Lib.hid (bl_trans HB.out hb)
              replace SA := Lib.hid (SA.out.below hb)
              replace SB := Lib.hid (SB.out.below hb)
              clear hb
              go_wp2_with fail
              refine (rmanyT (some ⟨ba, 0, none⟩) 2 2 A y x6 HY.out HA.out SA.out (by have := HA.out; omega)).mono ?_
              rintro e x7 ⟨rfl, hb⟩
              replace HB := Lib.hid (bl_trans HB.out hb)
              replace SA := Lib.hid (SA.out.below hb)
              replace SB := Lib.hid (SB.out.below hb)
              clear hb
              go_wp2_with fail
              refine (meet_any (some ⟨ba, 0, none⟩) (some ⟨bb, 0, none⟩) 2 2 2 2 A B M x7 HMt.out HA.out HBL.out SA.out SB.out (by have := HA.out; omega) (by have := HBL.out; omega)).mono ?_
              rintro e x8 ⟨q3, c3, rfl, ho, hb⟩
              replace HB := Lib.hid (bl_trans HB.out hb)
              replace SA := Lib.hid (SA.out.below hb)
              replace SB := Lib.hid (SB.out.below hb)
              have S3 := Lib.hid (tells_sl ho)
              clear ho hb
              go_wp2_with fail
              refine (rmeet_any (some ⟨ba, 0, none⟩) (some ⟨bb, 0, none⟩) 2 2 2 2 A B M x8 HMt.out HA.out HBL.out SA.out SB.out (by have := HA.out; have := HBL.out; omega)).mono ?_
              rintro e x9 ⟨q4, c4, rfl, ho, hb⟩
              replace HB := Lib.hid (bl_trans HB.out hb)
              replace SA := Lib.hid (SA.out.below hb)
              replace SB := Lib.hid (SB.out.below hb)
              replace S3 := Lib.hid (S3.out.below hb)
              have S4 := Lib.hid (tells_sl ho)
              clear ho hb
              go_wp2_with fail
              refine (same_self q3 q4 c3 c4 M x9 S3.out S4.out (by have := HLN.out; omega)).mono ?_
              rintro e x10 ⟨rfl, hb⟩
              replace HB := Lib.hid (bl_trans HB.out hb)
              replace SA := Lib.hid (SA.out.below hb)
              replace SB := Lib.hid (SB.out.below hb)
              clear hb S3 S4
              go_wp2_with fail
              refine (not_any (some ⟨ba, 0, none⟩) 2 2 A N x10 HNg.out HA.out SA.out (by have := HA.out; omega)).mono ?_
              rintro e x11 ⟨q3, c3, rfl, ho, hb⟩
              replace HB := Lib.hid (bl_trans HB.out hb)
              replace SA := Lib.hid (SA.out.below hb)
              replace SB := Lib.hid (SB.out.below hb)
              have S3 := Lib.hid (tells_sl ho)
              clear ho hb
              go_wp2_with fail
              refine (rnot_any (some ⟨ba, 0, none⟩) 2 2 A N x11 HNg.out HA.out SA.out (by have := HA.out; omega)).mono ?_
              rintro e x12 ⟨q4, c4, rfl, ho, hb⟩
              replace HB := Lib.hid (bl_trans HB.out hb)
              replace SA := Lib.hid (SA.out.below hb)
              replace SB := Lib.hid (SB.out.below hb)
              replace S3 := Lib.hid (S3.out.below hb)
              have S4 := Lib.hid (tells_sl ho)
              clear ho hb
              go_wp2_with fail
              refine (same_self q3 q4 c3 c4 N x12 S3.out S4.out (by have := HLN.out; omega)).mono ?_
              rintro e x13 ⟨rfl, hb⟩
              replace HB := Lib.hid (bl_trans HB.out hb)
              replace SA := Lib.hid (SA.out.below hb)
              replace SB := Lib.hid (SB.out.below hb)
              clear hb S3 S4
              go_wp2
              go_roundw
              case rel => exact ⟨k + 1, by have := HK.out; omega, by go_num, HB.out⟩
              case measure => have := HK.out; simp [intOf]; omega
            · have hkJ : (121 : Int) ≤ k := by omega
              go_wp2
              go_loopw [9] (fun kv wy => ∃ (k : Nat), k ≤ 11 ∧ kv = .int .i64 (k : Nat) ∧ Hid (Below wr.heap.size wr wy)) (fun kv _ => 11 - (intOf kv).toNat)
              case atStart => exact ⟨0, by omega, rfl, HB.out⟩
              case round =>
                clear HB hkJ hk hk121
                obtain ⟨k, hk, rfl, HB⟩ := hrel
                rename World => wy
                by_cases hk11 : k < 11
                · have hkJ : (k : Int) < 11 := by omega
                  obtain ⟨b1, o1, e1, hc1⟩ := sli_at (SE2.out.below HB.out) (show k < endsE.length from hk11)
                  simp only [Option.some.injEq, Addr.mk.injEq, and_true] at e1
                  obtain ⟨rfl, rfl⟩ := e1
                  rw [Nat.zero_add] at hc1
                  obtain ⟨x, hx⟩ : ∃ x, x = gi endsE k := ⟨_, rfl⟩
                  rw [← hx] at hc1
                  have hsl := slr_part (SL.out.below HB.out) (show i < L.length by have := HLL.out; have := HI.out; omega)
                  obtain ⟨th, hth⟩ : ∃ t, t = hasB [gr L i] x := ⟨_, rfl⟩
                  have HHAS : Hid (∀ (W : World) (q : Option Addr) (n c : Nat), q = some ⟨bL, oL + i * 2, none⟩ → n = 1 → SlR W (some ⟨bL, oL + i * 2, none⟩) [gr L i] → Calls Tryz.prog 19 #[.slice q n c, .int .i64 x] W fun e w' => e = .returned (.bool th) ∧ Below W.heap.size W w') := by
                    rintro W q n c rfl rfl hs
                    exact hasT _ c 1 _ x th W hth rfl hs (by simp)
                  have HRHAS : Hid (∀ (W : World) (q : Option Addr) (n c : Nat), q = some ⟨bL, oL + i * 2, none⟩ → n = 1 → SlR W (some ⟨bL, oL + i * 2, none⟩) [gr L i] → Calls Tryz.prog 20 #[.slice q n c, .int .i64 x] W fun e w' => e = .returned (.bool th) ∧ Below W.heap.size W w') := by
                    rintro W q n c rfl rfl hs
                    exact rhasT _ c 1 _ x th W hth rfl hs (by simp)
                  have HSL := Lib.hid hsl
                  have HK := Lib.hid hk11
                  have hiK : (i : Int) + 1 ≤ d := by have := HI.out; omega
                  have hwr : IntKind.i64.wrap ((i : Int) + 1) = (i : Int) + 1 := by rw [IntKind.wrap_i64]; have := HI.out; omega
                  have htn : ((i : Int) + 1).toNat = i + 1 := by omega
                  have hi01 : (0 : Int) ≤ (i : Int) + 1 := by omega
                  have hdne : ¬ d = i := by omega
                  have hsub : i + 1 - i = 1 := by omega
                  clear hx hth hsl hk11 hk
                  go_wp2
                  refine wp_region_held_drew (S := (fun W => W.cell? ⟨eb, k, none⟩ = some (.int .i64 x) ∧ Hid (SlR W (some ⟨bL, oL + i * 2, none⟩) [gr L i]) ∧ Hid (Below wr.heap.size wr W))) (by kernel_rfl) ⟨hc1, HSL.out, bl_trans HB.out (bl_drew _)⟩ (fun hHeld => ?_)
                  refine wpAnyH_take (i := 0) (oi := { dst := some 115, op := Op.move (Operand.tmp 2), type := 22, pos := "law.go:74", after := #[], guard := none }) (v := ?_) rfl (by kernel_rfl) (by kernel_rfl) (by kernel_rfl) (fun _ _ _ h => h) (Or.inl ⟨by kernel_rfl, ?_⟩) (by exact hHeld) ?_
                  rotate_left
                  focus (intro w hSw; (try dsimp only at hSw); go_simp; try with_reducible rfl)
                  try simp only [Act.put, List.setIfInBounds_toArray, List.set_cons_zero, List.set_cons_succ]
                  refine wpAnyH_take (i := 1) (oi := { dst := some 116, op := Op.move (Operand.tmp 5), type := 3, pos := "law.go:74", after := #[], guard := none }) (v := ?_) rfl (by kernel_rfl) (by kernel_rfl) (by kernel_rfl) (fun _ _ _ h => h) (Or.inl ⟨by kernel_rfl, ?_⟩) (by exact hHeld) ?_
                  rotate_left
                  focus (intro w hSw; (try dsimp only at hSw); go_simp; try with_reducible rfl)
                  try simp only [Act.put, List.setIfInBounds_toArray, List.set_cons_zero, List.set_cons_succ]
                  refine wpAnyH_take (i := 2) (oi := { dst := some 117, op := Op.move (Operand.tmp 5), type := 3, pos := "law.go:74", after := #[], guard := none }) (v := ?_) rfl (by kernel_rfl) (by kernel_rfl) (by kernel_rfl) (fun _ _ _ h => h) (Or.inl ⟨by kernel_rfl, ?_⟩) (by exact hHeld) ?_
                  rotate_left
                  focus (intro w hSw; (try dsimp only at hSw); go_simp; try with_reducible rfl)
                  try simp only [Act.put, List.setIfInBounds_toArray, List.set_cons_zero, List.set_cons_succ]
                  refine wpAnyH_take (i := 3) (oi := { dst := some 118, op := Op.binOp BinOp.add 3 (Operand.tmp 117) (Operand.const (Value.int IntKind.i64 1)) 3, type := 3, pos := "law.go:74", after := #[{ on := 2, ground := Ground.data }], guard := none }) (v := ?_) rfl (by kernel_rfl) (by kernel_rfl) (by kernel_rfl) (fun _ _ _ h => h) (Or.inl ⟨by kernel_rfl, ?_⟩) (by exact hHeld) ?_
                  rotate_left
                  focus (intro w hSw; (try dsimp only at hSw); go_simp; try with_reducible rfl)
                  try simp only [Act.put, List.setIfInBounds_toArray, List.set_cons_zero, List.set_cons_succ]
                  refine wpAnyH_take (i := 4) (oi := { dst := some 119, op := Op.slice 22 (Operand.tmp 115) (some (Operand.tmp 116)) (some (Operand.tmp 118)) none, type := 22, pos := "law.go:74", after := #[{ on := 0, ground := Ground.data }, { on := 1, ground := Ground.data }, { on := 3, ground := Ground.data }], guard := none }) (v := ?_) rfl (by kernel_rfl) (by kernel_rfl) (by kernel_rfl) (fun _ _ _ h => h) (Or.inl ⟨by kernel_rfl, ?_⟩) (by exact hHeld) ?_
                  rotate_left
                  focus (intro w hSw; (try dsimp only at hSw); go_simp; try with_reducible rfl)
                  try simp only [Act.put, List.setIfInBounds_toArray, List.set_cons_zero, List.set_cons_succ]
                  refine wpAnyH_take (i := 5) (oi := { dst := some 120, op := Op.move (Operand.tmp 1), type := 37, pos := "law.go:74", after := #[], guard := none }) (v := ?_) rfl (by kernel_rfl) (by kernel_rfl) (by kernel_rfl) (fun _ _ _ h => h) (Or.inl ⟨by kernel_rfl, ?_⟩) (by exact hHeld) ?_
                  rotate_left
                  focus (intro w hSw; (try dsimp only at hSw); go_simp; try with_reducible rfl)
                  try simp only [Act.put, List.setIfInBounds_toArray, List.set_cons_zero, List.set_cons_succ]
                  refine wpAnyH_take (i := 6) (oi := { dst := some 121, op := Op.move (Operand.tmp 9), type := 3, pos := "law.go:74", after := #[], guard := none }) (v := ?_) rfl (by kernel_rfl) (by kernel_rfl) (by kernel_rfl) (fun _ _ _ h => h) (Or.inl ⟨by kernel_rfl, ?_⟩) (by exact hHeld) ?_
                  rotate_left
                  focus (intro w hSw; (try dsimp only at hSw); go_simp; try with_reducible rfl)
                  try simp only [Act.put, List.setIfInBounds_toArray, List.set_cons_zero, List.set_cons_succ]
                  refine wpAnyH_take (i := 7) (oi := { dst := some 122, op := Op.indexAddr 37 (Operand.tmp 120) (Operand.tmp 121), type := 0, pos := "law.go:74", after := #[{ on := 5, ground := Ground.data }, { on := 6, ground := Ground.data }], guard := none }) (v := ?_) rfl (by kernel_rfl) (by kernel_rfl) (by kernel_rfl) (fun _ _ _ h => h) (Or.inl ⟨by kernel_rfl, ?_⟩) (by exact hHeld) ?_
                  rotate_left
                  focus (intro w hSw; (try dsimp only at hSw); go_simp; try with_reducible rfl)
                  try simp only [Act.put, List.setIfInBounds_toArray, List.set_cons_zero, List.set_cons_succ]
                  refine wpAnyH_take (i := 8) (oi := { dst := some 123, op := Op.load 3 (Operand.tmp 122), type := 3, pos := "law.go:74", after := #[{ on := 7, ground := Ground.data }], guard := none }) (v := ?_) rfl (by kernel_rfl) (by kernel_rfl) (by kernel_rfl) (fun _ _ _ h => h) (Or.inl ⟨by kernel_rfl, ?_⟩) (by exact hHeld) ?_
                  rotate_left
                  focus (intro w hSw; (try dsimp only at hSw); go_simp; try with_reducible rfl)
                  try simp only [Act.put, List.setIfInBounds_toArray, List.set_cons_zero, List.set_cons_succ]
                  refine wpAnyH_take (i := 10) (oi := { dst := some 125, op := Op.move (Operand.tmp 2), type := 22, pos := "law.go:74", after := #[], guard := none }) (v := ?_) rfl (by kernel_rfl) (by kernel_rfl) (by kernel_rfl) (fun _ _ _ h => h) (Or.inl ⟨by kernel_rfl, ?_⟩) (by exact hHeld) ?_
                  rotate_left
                  focus (intro w hSw; (try dsimp only at hSw); go_simp; try with_reducible rfl)
                  try simp only [Act.put, List.setIfInBounds_toArray, List.set_cons_zero, List.set_cons_succ]
                  refine wpAnyH_take (i := 11) (oi := { dst := some 126, op := Op.move (Operand.tmp 5), type := 3, pos := "law.go:74", after := #[], guard := none }) (v := ?_) rfl (by kernel_rfl) (by kernel_rfl) (by kernel_rfl) (fun _ _ _ h => h) (Or.inl ⟨by kernel_rfl, ?_⟩) (by exact hHeld) ?_
                  rotate_left
                  focus (intro w hSw; (try dsimp only at hSw); go_simp; try with_reducible rfl)
                  try simp only [Act.put, List.setIfInBounds_toArray, List.set_cons_zero, List.set_cons_succ]
                  refine wpAnyH_take (i := 12) (oi := { dst := some 127, op := Op.move (Operand.tmp 5), type := 3, pos := "law.go:74", after := #[], guard := none }) (v := ?_) rfl (by kernel_rfl) (by kernel_rfl) (by kernel_rfl) (fun _ _ _ h => h) (Or.inl ⟨by kernel_rfl, ?_⟩) (by exact hHeld) ?_
                  rotate_left
                  focus (intro w hSw; (try dsimp only at hSw); go_simp; try with_reducible rfl)
                  try simp only [Act.put, List.setIfInBounds_toArray, List.set_cons_zero, List.set_cons_succ]
                  refine wpAnyH_take (i := 13) (oi := { dst := some 128, op := Op.binOp BinOp.add 3 (Operand.tmp 127) (Operand.const (Value.int IntKind.i64 1)) 3, type := 3, pos := "law.go:74", after := #[{ on := 12, ground := Ground.data }], guard := none }) (v := ?_) rfl (by kernel_rfl) (by kernel_rfl) (by kernel_rfl) (fun _ _ _ h => h) (Or.inl ⟨by kernel_rfl, ?_⟩) (by exact hHeld) ?_
                  rotate_left
                  focus (intro w hSw; (try dsimp only at hSw); go_simp; try with_reducible rfl)
                  try simp only [Act.put, List.setIfInBounds_toArray, List.set_cons_zero, List.set_cons_succ]
                  refine wpAnyH_take (i := 14) (oi := { dst := some 129, op := Op.slice 22 (Operand.tmp 125) (some (Operand.tmp 126)) (some (Operand.tmp 128)) none, type := 22, pos := "law.go:74", after := #[{ on := 10, ground := Ground.data }, { on := 11, ground := Ground.data }, { on := 13, ground := Ground.data }], guard := none }) (v := ?_) rfl (by kernel_rfl) (by kernel_rfl) (by kernel_rfl) (fun _ _ _ h => h) (Or.inl ⟨by kernel_rfl, ?_⟩) (by exact hHeld) ?_
                  rotate_left
                  focus (intro w hSw; (try dsimp only at hSw); go_simp; try with_reducible rfl)
                  try simp only [Act.put, List.setIfInBounds_toArray, List.set_cons_zero, List.set_cons_succ]
                  refine wpAnyH_take (i := 15) (oi := { dst := some 130, op := Op.move (Operand.tmp 1), type := 37, pos := "law.go:74", after := #[], guard := none }) (v := ?_) rfl (by kernel_rfl) (by kernel_rfl) (by kernel_rfl) (fun _ _ _ h => h) (Or.inl ⟨by kernel_rfl, ?_⟩) (by exact hHeld) ?_
                  rotate_left
                  focus (intro w hSw; (try dsimp only at hSw); go_simp; try with_reducible rfl)
                  try simp only [Act.put, List.setIfInBounds_toArray, List.set_cons_zero, List.set_cons_succ]
                  refine wpAnyH_take (i := 16) (oi := { dst := some 131, op := Op.move (Operand.tmp 9), type := 3, pos := "law.go:74", after := #[], guard := none }) (v := ?_) rfl (by kernel_rfl) (by kernel_rfl) (by kernel_rfl) (fun _ _ _ h => h) (Or.inl ⟨by kernel_rfl, ?_⟩) (by exact hHeld) ?_
                  rotate_left
                  focus (intro w hSw; (try dsimp only at hSw); go_simp; try with_reducible rfl)
                  try simp only [Act.put, List.setIfInBounds_toArray, List.set_cons_zero, List.set_cons_succ]
                  refine wpAnyH_take (i := 17) (oi := { dst := some 132, op := Op.indexAddr 37 (Operand.tmp 130) (Operand.tmp 131), type := 0, pos := "law.go:74", after := #[{ on := 15, ground := Ground.data }, { on := 16, ground := Ground.data }], guard := none }) (v := ?_) rfl (by kernel_rfl) (by kernel_rfl) (by kernel_rfl) (fun _ _ _ h => h) (Or.inl ⟨by kernel_rfl, ?_⟩) (by exact hHeld) ?_
                  rotate_left
                  focus (intro w hSw; (try dsimp only at hSw); go_simp; try with_reducible rfl)
                  try simp only [Act.put, List.setIfInBounds_toArray, List.set_cons_zero, List.set_cons_succ]
                  refine wpAnyH_take (i := 18) (oi := { dst := some 133, op := Op.load 3 (Operand.tmp 132), type := 3, pos := "law.go:74", after := #[{ on := 17, ground := Ground.data }], guard := none }) (v := ?_) rfl (by kernel_rfl) (by kernel_rfl) (by kernel_rfl) (fun _ _ _ h => h) (Or.inl ⟨by kernel_rfl, ?_⟩) (by exact hHeld) ?_
                  rotate_left
                  focus (intro w hSw; (try dsimp only at hSw); go_simp; try with_reducible rfl)
                  try simp only [Act.put, List.setIfInBounds_toArray, List.set_cons_zero, List.set_cons_succ]
                  refine wpAnyH_ready (rs := [9]) (by kernel_rfl) (by simp) ?_
                  refine AllReadyH.cons (o := { dst := some 124, op := Op.call { callee := Callee.value (Operand.func 19), args := #[Operand.tmp 119, Operand.tmp 123], argTypes := #[22, 3] }, type := 4, pos := "law.go:74", after := #[{ on := 4, ground := Ground.data }, { on := 8, ground := Ground.data }], guard := none }) rfl (fun K hK => ?_) AllReadyH.nil
                  · go_simp
                    go_at_call 19
                    refine (HHAS.out _ _ _ _ (by first | rfl | simp) (by first | rfl | omega | simp) hHeld.2.1.out).mono ?_
                    rintro e w6 ⟨rfl, hb6⟩
                    have hS6 := And.intro (keep_cell hb6 hHeld.1) (And.intro (Lib.hid (hHeld.2.1.out.below hb6)) (Lib.hid (bl_trans hHeld.2.2.out hb6)))
                    clear hb6
                    try go_wp2_with fail
                    refine hK.out _ _ hS6 (fun hHeld2 => ?_)
                    clear hK K hS6
                    try simp only [Act.put, List.setIfInBounds_toArray, List.set_cons_zero, List.set_cons_succ]
                    refine wpAnyH_ready (rs := [19]) (by kernel_rfl) (by simp) ?_
                    refine AllReadyH.cons (o := { dst := some 134, op := Op.call { callee := Callee.value (Operand.func 20), args := #[Operand.tmp 129, Operand.tmp 133], argTypes := #[22, 3] }, type := 4, pos := "law.go:74", after := #[{ on := 14, ground := Ground.data }, { on := 18, ground := Ground.data }, { on := 9, ground := Ground.chain }], guard := none }) rfl (fun K hK => ?_) AllReadyH.nil
                    go_simp
                    go_at_call 20
                    refine (HRHAS.out _ _ _ _ (by first | rfl | simp) (by first | rfl | omega | simp) hHeld2.2.1.out).mono ?_
                    rintro e w6 ⟨rfl, hb6⟩
                    have hS6 := And.intro (keep_cell hb6 hHeld2.1) (And.intro (Lib.hid (hHeld2.2.1.out.below hb6)) (Lib.hid (bl_trans hHeld2.2.2.out hb6)))
                    clear hb6
                    try go_wp2_with fail
                    refine hK.out _ _ hS6 (fun hHeld3 => ?_)
                    clear hK K hS6
                    try simp only [Act.put, List.setIfInBounds_toArray, List.set_cons_zero, List.set_cons_succ]
                    refine wpAnyH_take (i := 20) (oi := { dst := some 135, op := Op.binOp BinOp.neq 4 (Operand.tmp 124) (Operand.tmp 134) 4, type := 4, pos := "law.go:74", after := #[{ on := 9, ground := Ground.data }, { on := 19, ground := Ground.data }], guard := none }) (v := ?_) rfl (by kernel_rfl) (by kernel_rfl) (by kernel_rfl) (fun _ _ _ h => h) (Or.inl ⟨by kernel_rfl, ?_⟩) (by exact hHeld3) ?_
                    rotate_left
                    focus (intro w hSw; (try dsimp only at hSw); go_simp; try with_reducible rfl)
                    try simp only [Act.put, List.setIfInBounds_toArray, List.set_cons_zero, List.set_cons_succ]
                    refine wpAnyH_done (by kernel_rfl) ?_ _
                    go_wp2
                    go_roundw
                    case rel => exact ⟨k + 1, by have := HK.out; omega, by go_num, hHeld3.2.2.out⟩
                    case measure => have := HK.out; simp [intOf]; omega
                · have hkJ : (11 : Int) ≤ k := by omega
                  go_wp2
                  go_roundw
                  case rel => exact ⟨i + 1, by have := HI.out; omega, by go_num, HB.out⟩
                  case measure => have := HI.out; simp [intOf]; omega
        · have hiJ : (121 : Int) ≤ i := by omega
          go_wp2_with fail
          refine (joins_true none (some ⟨eb, 0, none⟩) 0 11 0 11 [] endsE wx rfl rfl ⟨fun x hx => by simp at hx, .inl rfl⟩ (SE2.out.below HB.out) (by omega) (by omega) (fun x hx => by simp at hx) (fun t ht => by omega) (by simp)).mono ?_
          rintro e x1 ⟨rfl, hb⟩
          replace HB := Lib.hid (bl_trans HB.out hb)
          clear hb
          go_wp2_with fail
          refine (tells_true none none 0 0 0 0 [] [] 0 x1 rfl rfl (.inl rfl) (.inl rfl) (by simp) (by simp) (fun _ => rfl) (fun _ => rfl)).mono ?_
          rintro e x2 ⟨rfl, hb⟩
          replace HB := Lib.hid (bl_trans HB.out hb)
          clear hb
          go_wp2_with fail
          refine (awake_any x2).mono ?_
          rintro e x3 ⟨rfl, hb⟩
          replace HB := Lib.hid (bl_trans HB.out hb)
          clear hb
          go_wp2
          go_ret
          exact ⟨rfl, bl_trans K.out HB.out⟩
end Go.Proofs.YtobdkkcihjpebaaGreat
