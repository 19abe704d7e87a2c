/- The walks of LentLimbs and KeptLimbs: a list handed in with marks behind its end; that it is still as it was. -/
/- The walks of LentNat, KeptNat, markNat. -/
import Derived.Test.YtcahnkocfbcchaaGreatDoorNc
import Derived.Test.YtcahnkocfbcchaaGreatDoorWo

namespace Go.Proofs.YtcahnkocfbcchaaGreatDoor
open Go.RowKit Tnd

theorem below_drewN' (w : World) (n : Nat) : Below w.heap.size w (w.drewN n) := Joins.below_draws _ _ _
theorem mark_any (i : Int) (w : World) (h0 : 0 ≤ i) (h1 : i ≤ 100) : Calls Tryz.prog 61 #[.int .i64 1, .int .i64 i] w fun e w' => e = .returned (.int .i64 (8000024 + i)) ∧ w' = w := by
  go_enter Tryz.func61, Tryz.ntmps61
  go_wp2
  go_ret
  exact ⟨rfl, rfl⟩

def marks (k : Nat) : List Nat := (List.range k).map fun i => 8000024 + i
theorem marks_succ (k : Nat) : marks (k + 1) = marks k ++ [8000024 + k] := by unfold marks; rw [List.range_succ, List.map_append]; rfl
theorem marks_length (k : Nat) : (marks k).length = k := by simp [marks]
theorem gd_front {l m : List Nat} {i : Nat} (h : i < l.length) : gd (l ++ m) i = gd l i := by
  unfold gd
  rw [List.getD_eq_getElem?_getD, List.getD_eq_getElem?_getD, List.getElem?_append_left h]
theorem gd_marks {l : List Nat} {k i : Nat} (h1 : l.length ≤ i) (h2 : i < l.length + k) : gd (l ++ marks k) i = 8000024 + (i - l.length) := by
  unfold gd
  rw [List.getD_eq_getElem?_getD, List.getElem?_append_right h1]
  unfold marks
  rw [List.getElem?_map, List.getElem?_range (by omega)]
  rfl
theorem news32_at {w : World} {b off : Nat} {a : List Nat} (h : ∀ i, i < a.length → w.cell? ⟨b, off + i, none⟩ = some (.int .u32 (gd a i : Nat))) : ∀ j u, (a.map fun d => Value.int .u32 (d : Nat))[j]? = some u → w.cell? ((⟨b, off, none⟩ : Addr).add j) = some u := by
  intro j u hu
  rw [List.getElem?_map] at hu
  obtain ⟨d, hd, rfl⟩ := Option.map_eq_some_iff.1 hu
  have hj := (List.getElem?_eq_some_iff.1 hd).1
  have e2 : (⟨b, off, none⟩ : Addr).add j = ⟨b, off + j, none⟩ := by simp [Addr.add]
  rw [e2, h j hj]
  unfold gd
  rw [List.getD_eq_getElem?_getD, hd]; rfl
theorem run_joinL {w : World} {B : Nat} {v : Value} {N : List Nat} {q : Option Addr} {cq : Nat} {a : List Nat} (T : TypeId) (ho : Own w B 46 .u32 v N) (hs : Sl w .u32 q a) (hq : q = none → cq = 0) (hl : N.length + a.length ≤ 1000000000) (hB : B ≤ w.heap.size) :
    ∃ v' w', (Builtin.append_ #[22, 22] T #[v, .slice q a.length cq]).run Tryz.prog w = .ok v' w' ∧ Own w' B 46 .u32 v' (N ++ a) ∧ w.grownBy w' v.ownBlock := by
  obtain ⟨i0, hinf, hz0, hz1, hz2⟩ := info_parts info_u32
  unfold Own at ho
  cases q with
  | none =>
    have := hq rfl
    subst this
    have ha : a = [] := by
      rcases hs with h | ⟨b, off, h, _⟩
      · exact h
      · cases h
    subst ha
    have hrun := run_append_owned_none (P := Tryz.prog) (w := w) B 22 T 46 i0 1 Tryz.underlying22 hinf v N.length _ ho
    refine ⟨v, w, hrun, ?_, World.grownBy.refl _ _⟩
    unfold Own
    rw [List.append_nil]; exact ho
  | some ad =>
    have hn : ∀ j u, (a.map fun d => Value.int .u32 (d : Nat))[j]? = some u → w.cell? (ad.add j) = some u := by
      rcases hs with h | ⟨b, off, h, hc⟩
      · subst h; intro j u hu; simp at hu
      · simp only [Option.some.injEq] at h
        subst h
        exact news32_at hc
    obtain ⟨v', w', h1, h2, h3, _⟩ := run_append_own (P := Tryz.prog) (w := w) B 22 T 46 i0 (.int .u32 0) 1 4 Tryz.underlying22 hinf hz0 hz1 hz2 rfl (by decide) v N.length _ ho ad a.length cq (a.map fun d => Value.int .u32 (d : Nat)) (by simp) hn (by intro u hu; rw [List.mem_map] at hu; obtain ⟨d, _, rfl⟩ := hu; rfl) (by simp only [maxLen]; omega) (by omega) hB
    refine ⟨v', w', h1, ?_, h3⟩
    unfold Own
    rw [List.length_append, List.map_append]
    exact h2
theorem Sl.below {w w' : World} {k : IntKind} {p : Option Addr} {l : List Nat} (h : Sl w k p l) (hb : Below w.heap.size w w') : Sl w' k p l := by
  rcases h with h | ⟨b, off, h1, h2⟩
  · exact .inl h
  · exact .inr ⟨b, off, h1, fun i hi => by rw [hb.cell (World.block_lt_of_cell? w _ (h2 i hi))]; exact h2 i hi⟩
theorem own_some {w : World} {B : Nat} {e : TypeId} {k : IntKind} {v : Value} {l : List Nat} (h : Own w B e k v l) (hl : l ≠ []) : ∃ g c, v = .slice (some ⟨g, 0, none⟩) l.length c ∧ l.length ≤ c ∧ c ≤ 9223372036854775807 ∧ B ≤ g := by
  rcases h.2 with ⟨rfl, hn⟩ | ⟨g, cap, cur, rfl, hb, hg, hnc, hcm, hcs, htake⟩
  · exact absurd (List.eq_nil_of_length_eq_zero hn) hl
  · exact ⟨g, cap, rfl, hnc, by simpa [maxLen] using hcm, hb⟩

def LentLPost (n : Nat) (l : List Nat) (w : World) (e : Ending) (w' : World) : Prop :=
  ∃ g cap, e = .returned (.slice (some ⟨g, 0, none⟩) n cap) ∧ n + 12 ≤ cap ∧ cap ≤ 9223372036854775807 ∧ Own w' w.heap.size 46 .u32 (.slice (some ⟨g, 0, none⟩) (n + 12) cap) (l ++ marks 12) ∧ Below w.heap.size w w'

set_option maxHeartbeats 1600000 in
set_option maxRecDepth 100000 in
theorem lentl_any (p : Option Addr) (cp : Nat) (l : List Nat) (w : World) (hp : Sl w .u32 p l) (hl : l.length ≤ 3000) (hpn : p = none → cp = 0) :
    Calls Tryz.prog 29 #[.slice p l.length cp] w (LentLPost l.length l w) := by
  obtain ⟨i0, hinf, hz0, hz1, hz2⟩ := info_parts info_u32
  obtain ⟨n, hn⟩ : ∃ n, n = l.length := ⟨_, rfl⟩
  rw [← hn]
  have hnI : (n : Int) ≤ 3000 := by omega
  have HN := Lib.hid hn
  have HP := Lib.hid hp
  have HPN := Lib.hid hpn
  have HNL := Lib.hid (show n ≤ 3000 by omega)
  clear hp hn hl hpn
  go_enter Tryz.func29, Tryz.ntmps29
  go_wp2_with (at_make; refine wpList_make_own _ rfl _ _ 22 rfl w.heap.size 46 i0 (.int .u32 0) 1 Tryz.underlying22 hinf hz0 hz1 .i64 .i64 _ (n + 12) rfl rfl ?m1 ?m3 ?m4 ?m5 ?_)
  case m1 => push_cast; rfl
  case m3 => rw [hz2]; have := HNL.out; omega
  case m4 => have := HNL.out; simp only [maxLen]; omega
  case m5 => exact Nat.le_refl _
  intro w2 hown2 hgrow2
  have hb2 : Below w.heap.size w w2 := (Below.refl _ _).grown hgrow2 (Nat.le_refl _) (by simp)
  have ho2 : Own w2 w.heap.size 46 .u32 (.slice (some ⟨w.heap.size, 0, none⟩) 0 (n + 12)) [] := hown2
  obtain ⟨v3, w3, hr1, hr2, hr3⟩ := run_joinL (w := w2) 22 ho2 (HP.out.below hb2) HPN.out (by have := HN.out; have := HNL.out; simp; omega) hb2.size
  have hb3 : Below w.heap.size w w3 := hb2.grown hr3 hb2.size (fun k hk => (ho2.lt k hk).1)
  rw [List.nil_append] at hr2
  rw [← HN.out] at hr1
  obtain ⟨q3, c3, hv3, _⟩ := own_form hr2
  subst hv3
  have HR1 := Lib.hid hr1
  have HR2 := Lib.hid hr2
  have HB3 := Lib.hid hb3
  clear hr1 hr2 hr3 hb3 hb2 ho2 hown2 hgrow2
  go_wp2_with (at_builtin; refine wpList_append_run (by rfl) _ _ 22 rfl _ _ _ rfl rfl HR1.out ?_)
  go_loopw [3, 4] (fun tv iv wr => ∃ (k : Nat) (M : List Nat) (q : Option Addr) (cq : Nat), k ≤ 12 ∧ iv = .int .i64 (k : Nat) ∧ tv = .slice q M.length cq ∧ Hid (M = l ++ marks k) ∧ Hid (M.length = n + k) ∧ Hid (Own wr w.heap.size 46 .u32 (.slice q M.length cq) M) ∧ Hid (Below w.heap.size w wr)) (fun _ iv _ => 12 - (intOf iv).toNat)
  case atStart =>
    refine ⟨0, l, q3, c3, by omega, rfl, rfl, ?_, ?_, HR2.out, HB3.out⟩
    · show l = l ++ marks 0
      simp [marks]
    · show l.length = n + 0
      rw [HN.out]; rfl
  case round =>
    obtain ⟨k, M, q, cq, hk, rfl, rfl, HM, HML, HO, HB⟩ := hrel
    rename World => wr
    by_cases hk12 : k < 12
    · have hkI : (k : Int) < 12 := by omega
      have HO2 := HO.out
      unfold Own at HO2
      have HO3 := Lib.hid HO2
      have HK := Lib.hid hk12
      clear HO2 hk12
      go_wp2_with (first
        | (go_at_call 61; refine (mark_any _ _ (by omega) (by omega)).mono ?_; rintro e w' ⟨rfl, hw'⟩; obtain rfl := hw'.symm; clear hw')
        | (at_builtin; refine wpList_append_own _ rfl _ _ 22 rfl w.heap.size 46 i0 (.int .u32 0) 1 4 Tryz.underlying22 hinf hz0 hz1 hz2 rfl (by decide) (.slice q M.length cq) M.length _ rfl (HO3.out.alloc _) ⟨_, 0, none⟩ 1 1 [.int .u32 (8000024 + (k : Int))] rfl rfl ?c1 ?c2 ?c3 ?c4 ?c5 ?_))
      case c1 => exact cell_one_new _ _ _
      case c2 => simp [Value.oneCell']
      case c3 => have := HML.out; have := HNL.out; have := HK.out; simp only [maxLen]; omega
      case c4 => have := HML.out; have := HNL.out; have := HK.out; omega
      case c5 => have := HB.out.size; simp; omega
      intro v5 w5 hown5 hgrow5 _
      have hO5 : Own w5 w.heap.size 46 .u32 v5 (M ++ [8000024 + k]) := by
        have e : (8000024 + (k : Int)) = ((8000024 + k : Nat) : Int) := by omega
        rw [e] at hown5
        exact own_appended rfl hown5
      have hb5 : Below w.heap.size w w5 := (HB.out.alloc HB.out.size _).grown hgrow5 (by have := HB.out.size; simp; omega) (fun k hk => (HO3.out.lt k hk).1)
      obtain ⟨p', c5, hs', _⟩ := own_form hO5
      subst hs'
      have HO5 := Lib.hid hO5
      have HB5 := Lib.hid hb5
      have HM5 : Hid (M ++ [8000024 + k] = l ++ marks (k + 1)) := by
        show M ++ [8000024 + k] = l ++ marks (k + 1)
        rw [HM.out, marks_succ, List.append_assoc]
      have HML5 : Hid ((M ++ [8000024 + k]).length = n + (k + 1)) := by
        show (M ++ [8000024 + k]).length = n + (k + 1)
        rw [List.length_append, HML.out]; rfl
      clear hown5 hgrow5 hO5 hb5
      generalize M ++ [8000024 + k] = M5 at *
      go_wp2
      go_roundw
      case rel => exact ⟨k + 1, M5, p', c5, by have := HK.out; omega, by go_num, rfl, HM5, HML5, HO5, HB5⟩
      case measure => simp [intOf]; omega
    · have hkk : k = 12 := by omega
      subst hkk
      have hML := HML.out
      obtain ⟨g, c', hs', hlc, hcm, hg⟩ := own_some HO.out (by intro e; rw [e] at hML; simp at hML)
      simp only [Value.slice.injEq, true_and] at hs'
      obtain ⟨rfl, rfl⟩ := hs'
      rw [hML]
      have hcI : (n : Int) + 12 ≤ (cq : Int) := by omega
      have hcJ : (cq : Int) ≤ 9223372036854775807 := by omega
      have HLC := Lib.hid (show n + 12 ≤ cq by omega)
      have HCM := Lib.hid hcm
      have HO2 := Lib.hid (show Own wr w.heap.size 46 .u32 (.slice (some ⟨g, 0, none⟩) (n + 12) cq) (l ++ marks 12) by
        have h := HO.out
        rw [hML] at h
        rw [← HM.out]; exact h)
      clear hML hlc hcm hg hk12
      go_wp2
      go_ret
      exact ⟨g, cq, rfl, HLC.out, HCM.out, HO2.out, HB.out⟩

set_option maxHeartbeats 3200000 in
set_option maxRecDepth 100000 in
theorem keptl_any (p : Option Addr) (cp : Nat) (l : List Nat) (B g cap : Nat) (w : World) (hp : Sl w .u32 p l) (hl : l.length ≤ 3000) (ho : Own w B 46 .u32 (.slice (some ⟨g, 0, none⟩) (l.length + 12) cap) (l ++ marks 12)) (hcap : l.length + 12 ≤ cap) (hcm : cap ≤ 9223372036854775807) :
    Calls Tryz.prog 47 #[.slice (some ⟨g, 0, none⟩) l.length cap, .slice p l.length cp] w fun e w' => e = .returned (.bool true) ∧ Below w.heap.size w w' := by
  obtain ⟨n, hn⟩ : ∃ n, n = l.length := ⟨_, rfl⟩
  rw [← hn] at ho hcap ⊢
  have hnI : (n : Int) ≤ 3000 := by omega
  have hcI : (n : Int) + 12 ≤ (cap : Int) := by omega
  have hcJ : (cap : Int) ≤ 9223372036854775807 := by omega
  have HN := Lib.hid hn
  have HP := Lib.hid hp
  have HO := Lib.hid ho
  clear hp hn hl hcap hcm ho
  go_enter Tryz.func47, Tryz.ntmps47
  go_wp2
  go_loopw [6] (fun iv wr => ∃ (k r : Nat), k ≤ n + 12 ∧ iv = .int .i64 (k : Nat) ∧ wr = w.drewN r) (fun iv _ => n + 12 - (intOf iv).toNat)
  case atStart => exact ⟨0, 0, Nat.zero_le _, rfl, rfl⟩
  case round =>
    obtain ⟨k, r, hk, rfl, rfl⟩ := hrel
    by_cases hkn : k < n
    · obtain ⟨b1, o1, rfl, hc1⟩ : ∃ b off, p = some ⟨b, off, none⟩ ∧ w.cell? ⟨b, off + k, none⟩ = some (.int .u32 (gd l k : Nat)) := by
        have hkl : k < l.length := by have := HN.out; omega
        rcases HP.out with h | ⟨b, off, h1, h2⟩
        · rw [h] at hkl; simp at hkl
        · exact ⟨b, off, h1, h2 k hkl⟩
      have hc2 : w.cell? ⟨g, k, none⟩ = some (.int .u32 (gd l k : Nat)) := by
        rw [own_cell HO.out (by rw [List.length_append, marks_length, ← HN.out]) k (by omega), gd_front (by have := HN.out; omega)]
      obtain ⟨x, hx⟩ : ∃ x, x = gd l k := ⟨_, rfl⟩
      rw [← hx] at hc1 hc2
      clear hx
      have hkI : (k : Int) < n := by omega
      have hkJ : (k : Int) < (n : Int) + 12 := by omega
      have hge : decide ((n : Int) ≤ k) = false := by rw [decide_eq_false_iff_not]; omega
      have hlt : decide ((k : Int) < n) = true := by rw [decide_eq_true_iff]; omega
      have hltN : decide (k < n) = true := by rw [decide_eq_true_iff]; omega
      have hgeN : decide (n ≤ k) = false := by rw [decide_eq_false_iff_not]; omega
      clear hkn
      go_wp2
      go_quiet (fail)
      go_wp2
      go_roundw
      case rel => exact ⟨k + 1, r + nq, by omega, by go_num, by first | rfl | exact World.drewN_drewN _ _ _⟩
      case measure => simp [intOf]; omega
    · by_cases hk12 : k < n + 12
      · have hc2 : w.cell? ⟨g, k, none⟩ = some (.int .u32 (8000024 + ((k : Int) - n))) := by
          rw [own_cell HO.out (by rw [List.length_append, marks_length, ← HN.out]) k (by omega), gd_marks (by have := HN.out; omega) (by have := HN.out; omega), ← HN.out]
          have e : ((8000024 + (k - n) : Nat) : Int) = 8000024 + ((k : Int) - n) := by omega
          rw [e]
        have hkI : (n : Int) ≤ k := by omega
        have hkJ : (k : Int) < (n : Int) + 12 := by omega
        have hge : decide ((n : Int) ≤ k) = true := by rw [decide_eq_true_iff]; omega
        have hlt : decide ((k : Int) < n) = false := by rw [decide_eq_false_iff_not]; omega
        have hltN : decide (k < n) = false := by rw [decide_eq_false_iff_not]; omega
        have hgeN : decide (n ≤ k) = true := by rw [decide_eq_true_iff]; omega
        have hd0 : (0 : Int) ≤ (k : Int) - n := by omega
        have hd1 : (k : Int) - n ≤ 100 := by omega
        clear hkn
        go_wp2
        have hwr : IntKind.i64.wrap ((k : Int) - n) = (k : Int) - n := by rw [IntKind.wrap_i64]; omega
        obtain ⟨x, hx⟩ : ∃ x, x = 8000024 + ((k : Int) - n) := ⟨_, rfl⟩
        rw [← hx] at hc2
        have hxb : 0 ≤ x ∧ x ≤ 4294967295 := by omega
        have hx0 := hxb.1
        have hx1 := hxb.2
        clear hxb
        have HMARK : Hid (∀ (z : Int) (W : World), z = (k : Int) - n → Calls Tryz.prog 61 #[.int .i64 1, .int .i64 z] W fun e w' => e = .returned (.int .i64 x) ∧ w' = W) := by
          rintro z W rfl
          rw [hx]
          exact mark_any _ W hd0 hd1
        clear hd0 hd1 hx
        go_quiet ((go_at_call 61; exact (HMARK.out _ _ (by first | rfl | exact hwr)).mono fun _ _ h => ⟨h.1, _, h.2⟩))
        go_wp2
        go_roundw
        case rel => exact ⟨k + 1, r + nq, by omega, by go_num, by first | rfl | exact World.drewN_drewN _ _ _⟩
        case measure => simp [intOf]; omega
      · have hkJ : (n : Int) + 12 ≤ k := by omega
        go_wp2
        go_ret
        exact ⟨rfl, below_drewN' _ _⟩
end Go.Proofs.YtcahnkocfbcchaaGreatDoor


namespace Go.Proofs.YtcahnkocfbcchaaGreatDoor
open Go.RowKit Tnd

/-- a list of limbs handed in: its digits and the marks behind them, in memory of the call's own. -/
def LentL (w : World) (B g cap : Nat) (l : List Nat) : Prop :=
  l.length + 12 ≤ cap ∧ cap ≤ 9223372036854775807 ∧ Own w B 46 .u32 (.slice (some ⟨g, 0, none⟩) (l.length + 12) cap) (l ++ marks 12)
theorem LentL.below {w w' : World} {B g cap : Nat} {l : List Nat} (h : LentL w B g cap l) (hb : Below w.heap.size w w') : LentL w' B g cap l := ⟨h.1, h.2.1, own_below h.2.2 hb⟩
theorem LentL.down {w : World} {B B' g cap : Nat} {l : List Nat} (h : LentL w B g cap l) (hb : B' ≤ B) : LentL w B' g cap l := ⟨h.1, h.2.1, own_down h.2.2 hb⟩
theorem LentL.sl {w : World} {B g cap : Nat} {l : List Nat} (h : LentL w B g cap l) : Sl w .u32 (some ⟨g, 0, none⟩) l := by
  refine .inr ⟨g, 0, rfl, fun i hi => ?_⟩
  rw [Nat.zero_add, own_cell h.2.2 (by rw [List.length_append, marks_length]) i (by omega), gd_front hi]
theorem LentL.lt {w : World} {B g cap : Nat} {l : List Nat} (h : LentL w B g cap l) : B ≤ g ∧ g < w.heap.size := h.2.2.lt g rfl
theorem LentL.old {w : World} {B g cap : Nat} {l : List Nat} (h : LentL w B g cap l) : Old w w.heap.size (some ⟨g, 0, none⟩) l := by
  rcases h.sl with h1 | ⟨b, off, h1, h2⟩
  · exact .inl h1
  · simp only [Option.some.injEq, Addr.mk.injEq, and_true] at h1
    obtain ⟨rfl, rfl⟩ := h1
    exact .inr ⟨g, 0, rfl, h.lt.2, h2⟩
theorem LentL.nat {w : World} {B g cap : Nat} {l : List Nat} (h : LentL w B g cap l) (hd : Digs 4294967296 l) : NatIn w w.heap.size (.agg #[.slice (some ⟨g, 0, none⟩) l.length cap]) l :=
  ⟨_, _, rfl, h.old, hd, by have := h.1; omega, h.2.1, fun e => by cases e⟩

set_option maxRecDepth 100000 in
theorem lentn_any (p : Option Addr) (cp : Nat) (l : List Nat) (w : World) (hp : Sl w .u32 p l) (hl : l.length ≤ 3000) (hpn : p = none → cp = 0) :
    Calls Tryz.prog 8 #[.agg #[.slice p l.length cp]] w fun e w' => ∃ g cap, e = .returned (.agg #[.slice (some ⟨g, 0, none⟩) l.length cap]) ∧ LentL w' w.heap.size g cap l ∧ Below w.heap.size w w' := by
  obtain ⟨w0, hw0⟩ : ∃ w0, w0 = (w.alloc (.cells #[.slice p l.length cp] 24)).alloc (.cells #[.slice none 0 0] 24) := ⟨_, rfl⟩
  have hB0 : Below w.heap.size w w0 := by subst hw0; exact ((Below.refl _ _).alloc (Nat.le_refl _) _).alloc (by simp) _
  have hX0 : w0.heap[w.heap.size]? = some (.cells #[.slice p l.length cp] 24 (0, 0)) := by
    subst hw0
    rw [Below.heap_alloc _ _ _ (by simp)]; exact heap_alloc_new w _
  have hR0 : w0.heap[w.heap.size + 1]? = some (.cells #[.slice none 0 0] 24 (0, 0)) := by
    have h := heap_alloc_new (w.alloc (.cells #[.slice p l.length cp] 24)) (.cells #[.slice none 0 0] 24)
    subst hw0
    simpa using h
  have hs0 : w0.heap.size = w.heap.size + 2 := by subst hw0; simp
  have hc0 := cell_of_one hX0
  have HLL := Lib.hid (lentl_any p cp l w0 (hp.below hB0) hl hpn)
  have HB0 := Lib.hid hB0
  have HX0 := Lib.hid hX0
  have HR0 := Lib.hid hR0
  have HS0 := Lib.hid hs0
  have HW0 := Lib.hid hw0
  clear hB0 hX0 hR0 hs0 hw0 hp hl hpn
  go_enter Tryz.func8, Tryz.ntmps8
  go_wp2_with fail
  rw [← HW0.out]
  refine HLL.out.mono ?_
  rintro e w1 ⟨g, cap, rfl, h1, h2, h3, hb1⟩
  have hX1 : w1.heap[w.heap.size]? = some (.cells #[.slice p l.length cp] 24 (0, 0)) := by rw [hb1.block _ (by rw [HS0.out]; omega)]; exact HX0.out
  have hR1 : w1.heap[w.heap.size + 1]? = some (.cells #[.slice none 0 0] 24 (0, 0)) := by rw [hb1.block _ (by rw [HS0.out]; omega)]; exact HR0.out
  have hc1 := cell_of_one hX1
  have hf1 := free_of_one hX1
  have hX2 := one_setCell hX1 (u := .slice (some ⟨g, 0, none⟩) l.length cap)
  have hR2 : (w1.setCell ⟨w.heap.size, 0, none⟩ (.slice (some ⟨g, 0, none⟩) l.length cap)).heap[w.heap.size + 1]? = some (.cells #[.slice none 0 0] 24 (0, 0)) := by
    rw [Below.heap_setCell _ _ _ _ (by simp)]; exact hR1
  have hc2 := cell_of_one hX2
  have hr2 := cell_of_one hR2
  have hf2 := free_of_one hR2
  have hO2 : Own _ w0.heap.size 46 .u32 _ _ := ownsRow_setCell_other (a := ⟨w.heap.size, 0, none⟩) h3 (own_ne h3 hX1 (by decide)) (.slice (some ⟨g, 0, none⟩) l.length cap)
  have hO3 : Own _ w0.heap.size 46 .u32 _ _ := ownsRow_setCell_other (a := ⟨w.heap.size + 1, 0, none⟩) hO2 (own_ne hO2 hR2 (by decide)) (.slice (some ⟨g, 0, none⟩) l.length cap)
  have HO3 := Lib.hid hO3
  have HB3 := Lib.hid (((HB0.out.trans (hb1.mono HB0.out.size)).setCell (p := ⟨w.heap.size, 0, none⟩) (Nat.le_refl _) (.slice (some ⟨g, 0, none⟩) l.length cap)).setCell (p := ⟨w.heap.size + 1, 0, none⟩) (Nat.le_succ _) (.slice (some ⟨g, 0, none⟩) l.length cap))
  have H1 := Lib.hid h1
  have H2 := Lib.hid h2
  clear hX1 hR1 hX2 hR2 hO2 hO3 h1 h2 h3 hb1 hc0
  go_wp2
  refine bodyPost_ret (v := .agg #[.slice (some ⟨g, 0, none⟩) l.length cap]) (by simp [results, Tryz.results8, go_sem, hr2]) rfl ?_
  exact ⟨g, cap, rfl, ⟨H1.out, H2.out, own_down HO3.out HB0.out.size⟩, HB3.out⟩

set_option maxRecDepth 100000 in
theorem keptn_any (p : Option Addr) (cp : Nat) (l : List Nat) (B g cap : Nat) (w : World) (hp : Sl w .u32 p l) (hl : l.length ≤ 3000) (ho : LentL w B g cap l) :
    Calls Tryz.prog 20 #[.agg #[.slice (some ⟨g, 0, none⟩) l.length cap], .agg #[.slice p l.length cp]] w fun e w' => e = .returned (.bool true) ∧ Below w.heap.size w w' := by
  obtain ⟨w0, hw0⟩ : ∃ w0, w0 = (w.alloc (.cells #[.slice (some ⟨g, 0, none⟩) l.length cap] 24)).alloc (.cells #[.slice p l.length cp] 24) := ⟨_, rfl⟩
  have hB0 : Below w.heap.size w w0 := by subst hw0; exact ((Below.refl _ _).alloc (Nat.le_refl _) _).alloc (by simp) _
  have hc1 : w0.cell? ⟨w.heap.size, 0, none⟩ = some (.slice (some ⟨g, 0, none⟩) l.length cap) := by subst hw0; rw [World.cell?_alloc_past _ _ _ (by simp), World.cell?_alloc_at _ _ _ _ rfl]; rfl
  have hc2 : w0.cell? ⟨w.heap.size + 1, 0, none⟩ = some (.slice p l.length cp) := by subst hw0; rw [World.cell?_alloc_at _ _ _ _ (by simp)]; rfl
  have hs0 : w0.heap.size = w.heap.size + 2 := by subst hw0; simp
  have hsame := samenat_any (some ⟨g, 0, none⟩) p cap cp l l w0 (ho.below hB0).sl (hp.below hB0) (by omega) (by omega)
  rw [show decide (l = l) = true by simp] at hsame
  have HSAME := Lib.hid hsame
  have HK := Lib.hid (fun W (hW : Below w0.heap.size w0 W) => keptl_any p cp l B g cap W ((hp.below hB0).below hW) hl ((ho.below hB0).below hW).2.2 ho.1 ho.2.1)
  have HB0 := Lib.hid hB0
  have HS0 := Lib.hid hs0
  have HW0 := Lib.hid hw0
  clear hB0 hs0 hw0 hp hl ho hsame
  go_enter Tryz.func20, Tryz.ntmps20
  go_wp2_with fail
  rw [← HW0.out]
  refine HSAME.out.mono ?_
  rintro e w1 ⟨rfl, hb1⟩
  have hd1 : w1.cell? ⟨w.heap.size, 0, none⟩ = some (.slice (some ⟨g, 0, none⟩) l.length cap) := by rw [hb1.cell (by simp; have := HS0.out; omega)]; exact hc1
  have hd2 : w1.cell? ⟨w.heap.size + 1, 0, none⟩ = some (.slice p l.length cp) := by rw [hb1.cell (by simp; have := HS0.out; omega)]; exact hc2
  have HK1 := Lib.hid (HK.out w1 hb1)
  have HB1 := Lib.hid (HB0.out.trans (hb1.mono HB0.out.size))
  clear hb1 hc1 hc2 HSAME HK
  go_wp2_with fail
  refine HK1.out.mono ?_
  rintro e w2 ⟨rfl, hb2⟩
  have HB2 := Lib.hid (HB1.out.trans (hb2.mono HB1.out.size))
  clear hb2 hd1 hd2 HK1
  go_wp2
  go_ret
  exact ⟨rfl, HB2.out⟩

/-- the mark of place i in a list of Nats. -/
def MarkN (w : World) (B : Nat) (v : Value) (i : Nat) : Prop := ∃ g, v = .slice (some ⟨g, 0, none⟩) 1 1 ∧ Own w B 46 .u32 (.slice (some ⟨g, 0, none⟩) 1 1) [8000024 + i]
theorem MarkN.below {w w' : World} {B : Nat} {v : Value} {i : Nat} (h : MarkN w B v i) (hb : Below w.heap.size w w') : MarkN w' B v i := by
  obtain ⟨g, h1, h2⟩ := h
  exact ⟨g, h1, own_below h2 hb⟩
theorem MarkN.down {w : World} {B B' : Nat} {v : Value} {i : Nat} (h : MarkN w B v i) (hb : B' ≤ B) : MarkN w B' v i := by
  obtain ⟨g, h1, h2⟩ := h
  exact ⟨g, h1, own_down h2 hb⟩
theorem own_lit1 (w : World) (B d : Nat) (hB : B ≤ w.heap.size) : Own (w.alloc (.cells #[.int .u32 (d : Nat)] 46)) B 46 .u32 (.slice (some ⟨w.heap.size, 0, none⟩) 1 1) [d] := own_lit w B [d] _ rfl hB (by simp)

set_option maxRecDepth 100000 in
theorem markn_any (i : Nat) (z : Int) (hz : z = (i : Nat)) (w : World) (hi : i ≤ 100) :
    Calls Tryz.prog 101 #[.int .i64 1, .int .i64 z] w fun e w' => ∃ v, e = .returned (.agg #[v]) ∧ MarkN w' w.heap.size v i ∧ Below w.heap.size w w' := by
  subst hz
  obtain ⟨w0, hw0⟩ : ∃ w0, w0 = w.alloc (.cells #[.slice none 0 0] 24) := ⟨_, rfl⟩
  have hB0 : Below w.heap.size w w0 := by subst hw0; exact (Below.refl _ _).alloc (Nat.le_refl _) _
  have hR0 : w0.heap[w.heap.size]? = some (.cells #[.slice none 0 0] 24 (0, 0)) := by subst hw0; exact heap_alloc_new w _
  have hs0 : w0.heap.size = w.heap.size + 1 := by subst hw0; simp
  have hiI : (i : Int) ≤ 100 := by omega
  have e : (8000024 + (i : Int)) = ((8000024 + i : Nat) : Int) := by omega
  have hR1 : (w0.alloc (.cells #[.int .u32 (8000024 + (i : Int))] 46)).heap[w.heap.size]? = some (.cells #[.slice none 0 0] 24 (0, 0)) := by rw [Below.heap_alloc _ _ _ (by omega)]; exact hR0
  have hcr := cell_of_one hR1
  have hfr := free_of_one hR1
  have hO : Own (w0.alloc (.cells #[.int .u32 (8000024 + (i : Int))] 46)) w.heap.size 46 .u32 (.slice (some ⟨w0.heap.size, 0, none⟩) 1 1) [8000024 + i] := by
    rw [e]; exact own_lit1 w0 w.heap.size (8000024 + i) hB0.size
  have hO2 : Own _ w.heap.size 46 .u32 _ _ := ownsRow_setCell_other (a := ⟨w.heap.size, 0, none⟩) hO (own_ne hO hR1 (by decide)) (.slice (some ⟨w0.heap.size, 0, none⟩) 1 1)
  have HO2 := Lib.hid hO2
  have HB2 := Lib.hid (((hB0.alloc hB0.size (.cells #[.int .u32 (8000024 + (i : Int))] 46)).setCell (p := ⟨w.heap.size, 0, none⟩) (Nat.le_refl _) (.slice (some ⟨w0.heap.size, 0, none⟩) 1 1)))
  have HW0 := Lib.hid hw0
  clear hB0 hR0 hs0 hw0 hi hR1 hO hO2 e
  go_enter Tryz.func101, Tryz.ntmps101
  go_wp2_with fail
  rw [← HW0.out]
  refine (mark_any (i : Nat) _ (by omega) hiI).mono ?_
  rintro e w1 ⟨rfl, hw⟩
  obtain rfl := hw.symm
  clear hw
  go_wp2
  refine bodyPost_ret (v := .agg #[.slice (some ⟨w0.heap.size, 0, none⟩) 1 1]) (by simp [results, Tryz.results101, go_sem, hcr]) rfl ?_
  exact ⟨_, rfl, ⟨_, rfl, HO2.out⟩, HB2.out⟩
end Go.Proofs.YtcahnkocfbcchaaGreatDoor

