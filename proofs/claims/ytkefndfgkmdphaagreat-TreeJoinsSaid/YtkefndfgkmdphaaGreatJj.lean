import Derived.Test.YtkefndfgkmdphaaGreatFi
import Derived.Test.YtkefndfgkmdphaaGreatLc
import Derived.Laws.MakeOwn

namespace Go.Proofs.YtkefndfgkmdphaaGreat
set_option maxHeartbeats 6400000
set_option maxRecDepth 100000
open Go.RowKit Tnr

theorem ownZ_cell {w : World} {B : Nat} {g n cap : Nat} {l : List Int} (h : OwnZ w B (.slice (some ⟨g, 0, none⟩) n cap) l) (hn : l.length = n) (i : Nat) (hi : i < n) :
  w.cell? ⟨g, i, none⟩ = some (.int .i64 (gz l i)) := by
 unfold OwnZ at h
 rw [hn] at h
 rw [h.cellAt i (by omega)]
 unfold gz
 rw [List.getElem?_map, List.getD_eq_getElem?_getD, List.getElem?_eq_getElem (by omega)]; rfl
theorem ownZ_form2 {w : World} {B : Nat} {v : Value} {l : List Int} (h : OwnZ w B v l) : ∃ p c, v = .slice p l.length c ∧ l.length ≤ c ∧ c ≤ 9223372036854775807 ∧ (l ≠ [] → ∃ g, p = some ⟨g, 0, none⟩ ∧ B ≤ g) := by
 rcases h.2 with ⟨rfl, hn⟩ | ⟨g, cap, cur, rfl, hb, hg, hnc, hcm, hcs, htake⟩
 ·have hl : l = [] := List.eq_nil_of_length_eq_zero hn
  subst hl
  exact ⟨none, 0, rfl, by simp, by omega, fun h => absurd rfl h⟩
 ·exact ⟨_, _, rfl, hnc, by simpa [maxLen] using hcm, fun _ => ⟨g, rfl, hb⟩⟩
theorem mark_any (i : Int) (w : World) (h0 : 0 ≤ i) (h1 : i ≤ 100) : Calls Tryz.prog 76 #[.int .i64 1, .int .i64 i] w fun e w' => e = .returned (.int .i64 (8000024 + i)) ∧ w' = w := by
 go_enter Tryz.func76, Tryz.ntmps76
 go_wp2
 go_ret
 exact ⟨rfl, rfl⟩

def marks (k : Nat) : List Int := (List.range k).map fun (i : Nat) => 8000024 + (i : Int)
theorem marks_succ (k : Nat) : marks (k + 1) = marks k ++ [8000024 + (k : Int)] := by unfold marks; rw [List.range_succ, List.map_append]; rfl
theorem marks_length (k : Nat) : (marks k).length = k := by simp [marks]
theorem gi_front {l m : List Int} {i : Nat} (h : i < l.length) : gz (l ++ m) i = gz l i := by
 unfold gz
 rw [List.getD_eq_getElem?_getD, List.getD_eq_getElem?_getD, List.getElem?_append_left h]
theorem gi_marks {l : List Int} {k i : Nat} (h1 : l.length ≤ i) (h2 : i < l.length + k) : gz (l ++ marks k) i = 8000024 + ((i : Int) - l.length) := by
 unfold gz
 rw [List.getD_eq_getElem?_getD, List.getElem?_append_right h1]
 unfold marks
 rw [List.getElem?_map, List.getElem?_range (by omega)]
 simp; omega

theorem newsI_at {w : World} {b off : Nat} {a : List Int} (h : ∀ i, i < a.length → w.cell? ⟨b, off + i, none⟩ = some (.int .i64 (gz a i))) : ∀ j u, (a.map (Value.int .i64))[j]? = some u → w.cell? ((⟨b, off, none⟩ : Addr).add j) = some u := by
 intro j u hu
 rw [List.getElem?_map] at hu
 obtain ⟨d, hd, rfl⟩ := Option.map_eq_some_iff.1 hu
 have hj := (List.getElem?_eq_some_iff.1 hd).1
 have e2 : (⟨b, off, none⟩ : Addr).add j = ⟨b, off + j, none⟩ := by simp [Addr.add]
 rw [e2, h j hj]
 unfold gz
 rw [List.getD_eq_getElem?_getD, hd]; rfl
theorem run_joinI {w : World} {B : Nat} {v : Value} {N : List Int} {q : Option Addr} {cq : Nat} {a : List Int} (T : TypeId) (ho : OwnZ w B v N) (hs : SlZ w q a) (hq : q = none → cq = 0) (hl : N.length + a.length ≤ 1000000) (hB : B ≤ w.heap.size) :
  ∃ v' w', (Builtin.append_ #[24, 24] T #[v, .slice q a.length cq]).run Tryz.prog w = .ok v' w' ∧ OwnZ w' B v' (N ++ a) ∧ w.grownBy w' v.ownBlock := by
 obtain ⟨i0, hinf, hz0, hz1, hz2⟩ := info_parts info_intz
 unfold OwnZ at ho
 cases q with
 | none =>
  have := hq rfl
  subst this
  have ha : a = [] := by
   rcases hs with h | ⟨b, off, h, _⟩
   ·exact h
   ·cases h
  subst ha
  have hrun := run_append_owned_none (P := Tryz.prog) (w := w) B 24 T 3 i0 1 Tryz.underlying24 hinf v N.length _ ho
  refine ⟨v, w, hrun, ?_, World.grownBy.refl _ _⟩
  unfold OwnZ
  rw [List.append_nil]; exact ho
 | some ad =>
  have hn : ∀ j u, (a.map (Value.int .i64))[j]? = some u → w.cell? (ad.add j) = some u := by
   rcases hs with h | ⟨b, off, h, hc⟩
   ·subst h; intro j u hu; simp at hu
   ·simp only [Option.some.injEq] at h
    subst h
    exact newsI_at hc
  obtain ⟨v', w', h1, h2, h3, _⟩ := run_append_own (P := Tryz.prog) (w := w) B 24 T 3 i0 (.int .i64 0) 1 8 Tryz.underlying24 hinf hz0 hz1 hz2 rfl (by decide) v N.length _ ho ad a.length cq (a.map (Value.int .i64)) (by simp) hn (by intro u hu; rw [List.mem_map] at hu; obtain ⟨d, _, rfl⟩ := hu; rfl) (by simp only [maxLen]; omega) (by omega) hB
  refine ⟨v', w', h1, ?_, h3⟩
  unfold OwnZ
  rw [List.length_append, List.map_append]
  exact h2

def LentPost (n : Nat) (l : List Int) (w : World) (e : Ending) (w' : World) : Prop :=
 ∃ g cap, e = .returned (.slice (some ⟨g, 0, none⟩) n cap) ∧ n + 12 ≤ cap ∧ cap ≤ 9223372036854775807 ∧ OwnZ w' w.heap.size (.slice (some ⟨g, 0, none⟩) (n + 12) cap) (l ++ marks 12) ∧ Below w.heap.size w w'

theorem lent_any (p : Option Addr) (cp : Nat) (l : List Int) (w : World) (hp : SlZ w p l) (hl : l.length ≤ 3000) (hpn : p = none → cp = 0) :
  Calls Tryz.prog 36 #[.slice p l.length cp] w (LentPost l.length l w) := by
 obtain ⟨i0, hinf, hz0, hz1, hz2⟩ := info_parts info_intz
 obtain ⟨n, hn⟩ : ∃ n, n = l.length := ⟨_, rfl⟩
 rw [← hn]
 have hnI : (n : Int) ≤ 3000 := by omega
 have HN := lh hn
 have HP := lh hp
 have HPN := lh hpn
 have HNL := lh (show n ≤ 3000 by omega)
 clear hp hn hl hpn
 go_enter Tryz.func36, Tryz.ntmps36
 go_wp2_with (at_make; refine wpList_make_own _ rfl _ _ 24 rfl w.heap.size 3 i0 (.int .i64 0) 1 Tryz.underlying24 hinf hz0 hz1 .i64 .i64 _ (n + 12) rfl rfl ?m1 ?m3 ?m4 ?m5 ?_)
 case m1 => push_cast; rfl
 case m3 => rw [hz2]; have := HNL.out; omega
 case m4 => have := HNL.out; simp only [maxLen]; omega
 case m5 => exact Nat.le_refl _
 intro w2 hown2 hgrow2
 have hb2 : Below w.heap.size w w2 := (Below.refl _ _).grown hgrow2 (Nat.le_refl _) (by simp)
 have ho2 : OwnZ w2 w.heap.size (.slice (some ⟨w.heap.size, 0, none⟩) 0 (n + 12)) [] := hown2
 obtain ⟨v3, w3, hr1, hr2, hr3⟩ := run_joinI (w := w2) 24 ho2 (HP.out.below hb2) HPN.out (by have := HN.out; have := HNL.out; simp; omega) hb2.size
 have hb3 : Below w.heap.size w w3 := hb2.grown hr3 hb2.size (fun k hk => (ho2.lt k hk).1)
 rw [List.nil_append] at hr2
 rw [← HN.out] at hr1
 obtain ⟨q3, c3, hv3, _⟩ := ownZ_form2 hr2
 subst hv3
 have HR1 := lh hr1
 have HR2 := lh hr2
 have HB3 := lh hb3
 clear hr1 hr2 hr3 hb3 hb2 ho2 hown2 hgrow2
 go_wp2_with (at_builtin; refine wpList_append_run (by rfl) _ _ 24 rfl _ _ _ rfl rfl HR1.out ?_)
 go_loopw [3, 4] (fun tv iv wr => ∃ (k : Nat) (M : List Int) (q : Option Addr) (cq : Nat), k ≤ 12 ∧ iv = .int .i64 (k : Nat) ∧ tv = .slice q M.length cq ∧ Hid (M = l ++ marks k) ∧ Hid (M.length = n + k) ∧ Hid (OwnZ wr w.heap.size (.slice q M.length cq) M) ∧ Hid (Below w.heap.size w wr)) (fun _ iv _ => 12 - (intOf iv).toNat)
 case atStart =>
  refine ⟨0, l, q3, c3, by omega, rfl, rfl, ?_, ?_, HR2.out, HB3.out⟩
  ·show l = l ++ marks 0
   simp [marks]
  ·show l.length = n + 0
   rw [HN.out]; rfl
 case round =>
  obtain ⟨k, M, q, cq, hk, rfl, rfl, HM, HML, HO, HB⟩ := hrel
  rename World => wr
  by_cases hk12 : k < 12
  ·have hkI : (k : Int) < 12 := by omega
   have HO2 := HO.out
   unfold OwnZ at HO2
   have HO3 := lh HO2
   have HK := lh hk12
   clear HO2 hk12
   go_wp2_with (first
    | (go_at_call 76; refine (mark_any _ _ (by omega) (by omega)).mono ?_; rintro e w' ⟨rfl, hw'⟩; obtain rfl := hw'.symm; clear hw')
    | (at_builtin; refine wpList_append_own _ rfl _ _ 24 rfl w.heap.size 3 i0 (.int .i64 0) 1 8 Tryz.underlying24 hinf hz0 hz1 hz2 rfl (by decide) (.slice q M.length cq) M.length _ rfl (HO3.out.alloc _) ⟨_, 0, none⟩ 1 1 [.int .i64 (8000024 + (k : Int))] rfl rfl ?c1 ?c2 ?c3 ?c4 ?c5 ?_))
   case c1 => exact cells_one_z _ _ _
   case c2 => simp [Value.oneCell']
   case c3 => have := HML.out; have := HNL.out; have := HK.out; simp only [maxLen]; omega
   case c4 => have := HML.out; have := HNL.out; have := HK.out; omega
   case c5 => have := HB.out.size; simp; omega
   intro v5 w5 hown5 hgrow5 _
   have hO5 : OwnZ w5 w.heap.size v5 (M ++ [8000024 + (k : Int)]) := by
    unfold OwnZ
    rw [List.length_append, List.map_append]
    exact hown5
   have hb5 : Below w.heap.size w w5 := (HB.out.alloc HB.out.size _).grown hgrow5 (by have := HB.out.size; simp; omega) (fun k hk => (HO3.out.lt k hk).1)
   obtain ⟨p', c5, hs', _⟩ := ownZ_form2 hO5
   subst hs'
   have HO5 := lh hO5
   have HB5 := lh hb5
   have HM5 : Hid (M ++ [8000024 + (k : Int)] = l ++ marks (k + 1)) := by
    show M ++ [8000024 + (k : Int)] = l ++ marks (k + 1)
    rw [HM.out, marks_succ, List.append_assoc]
   have HML5 : Hid ((M ++ [8000024 + (k : Int)]).length = n + (k + 1)) := by
    show (M ++ [8000024 + (k : Int)]).length = n + (k + 1)
    rw [List.length_append, HML.out]; rfl
   clear hown5 hgrow5 hO5 hb5
   generalize M ++ [8000024 + (k : Int)] = M5 at *
   go_wp2
   go_roundw
   case rel => exact ⟨k + 1, M5, p', c5, by have := HK.out; omega, by go_num, rfl, HM5, HML5, HO5, HB5⟩
   case measure => simp [intOf]; omega
  ·have hkk : k = 12 := by omega
   subst hkk
   have hML := HML.out
   obtain ⟨p', c', hs', hlc, hcm, hne⟩ := ownZ_form2 HO.out
   simp only [Value.slice.injEq, true_and] at hs'
   obtain ⟨rfl, rfl⟩ := hs'
   obtain ⟨g, rfl, hg⟩ := hne (by intro e; rw [e] at hML; simp at hML)
   rw [hML]
   have hcI : (n : Int) + 12 ≤ (cq : Int) := by omega
   have hcJ : (cq : Int) ≤ 9223372036854775807 := by omega
   have HLC := lh (show n + 12 ≤ cq by omega)
   have HCM := lh hcm
   have HO2 := lh (show OwnZ wr w.heap.size (.slice (some ⟨g, 0, none⟩) (n + 12) cq) (l ++ marks 12) by
    have h := HO.out
    rw [hML] at h
    rw [← HM.out]; exact h)
   clear hML hlc hcm hne hg hk12
   go_wp2
   go_ret
   exact ⟨g, cq, rfl, HLC.out, HCM.out, HO2.out, HB.out⟩

theorem lent_sl {w : World} {B : Nat} {g n cap : Nat} {l m : List Int} (h : OwnZ w B (.slice (some ⟨g, 0, none⟩) (n + 12) cap) (l ++ m)) (hn : l.length = n) (hm : m.length = 12) : SlZ w (some ⟨g, 0, none⟩) l := by
 refine .inr ⟨g, 0, rfl, fun i hi => ?_⟩
 rw [Nat.zero_add, ownZ_cell h (by rw [List.length_append, hn, hm]) i (by omega), gi_front hi]

theorem kept_any (p : Option Addr) (cp : Nat) (l : List Int) (B g cap : Nat) (w : World) (hp : SlZ w p l) (hl : l.length ≤ 3000) (ho : OwnZ w B (.slice (some ⟨g, 0, none⟩) (l.length + 12) cap) (l ++ marks 12)) (hcap : l.length + 12 ≤ cap) (hcm : cap ≤ 9223372036854775807) :
  Calls Tryz.prog 49 #[.slice (some ⟨g, 0, none⟩) l.length cap, .slice p l.length cp] w fun e w' => e = .returned (.bool true) ∧ Below w.heap.size w w' := by
 obtain ⟨n, hn⟩ : ∃ n, n = l.length := ⟨_, rfl⟩
 rw [← hn] at ho hcap ⊢
 have hnI : (n : Int) ≤ 3000 := by omega
 have hcI : (n : Int) + 12 ≤ (cap : Int) := by omega
 have hcJ : (cap : Int) ≤ 9223372036854775807 := by omega
 have HN := lh hn
 have HP := lh hp
 have HO := lh ho
 clear hp hn hl hcap hcm ho
 go_enter Tryz.func49, Tryz.ntmps49
 go_wp2
 go_loopw [6] (fun iv wr => ∃ (k r : Nat), k ≤ n + 12 ∧ iv = .int .i64 (k : Nat) ∧ wr = w.drewN r) (fun iv _ => n + 12 - (intOf iv).toNat)
 case atStart => exact ⟨0, 0, Nat.zero_le _, rfl, rfl⟩
 case round =>
  obtain ⟨k, r, hk, rfl, rfl⟩ := hrel
  by_cases hkn : k < n
  ·obtain ⟨b1, o1, rfl, hc1⟩ : ∃ b off, p = some ⟨b, off, none⟩ ∧ w.cell? ⟨b, off + k, none⟩ = some (.int .i64 (gz l k)) := by
    have hkl : k < l.length := by have := HN.out; omega
    rcases HP.out with h | ⟨b, off, h1, h2⟩
    ·rw [h] at hkl; simp at hkl
    ·exact ⟨b, off, h1, h2 k hkl⟩
   have hc2 : w.cell? ⟨g, k, none⟩ = some (.int .i64 (gz l k)) := by
    rw [ownZ_cell HO.out (by rw [List.length_append, marks_length, ← HN.out]) k (by omega), gi_front (by have := HN.out; omega)]
   obtain ⟨x, hx⟩ : ∃ x, x = gz l k := ⟨_, rfl⟩
   rw [← hx] at hc1 hc2
   clear hx
   have hkI : (k : Int) < n := by omega
   have hkJ : (k : Int) < (n : Int) + 12 := by omega
   have hge : decide ((n : Int) ≤ k) = false := by rw [decide_eq_false_iff_not]; omega
   have hlt : decide ((k : Int) < n) = true := by rw [decide_eq_true_iff]; omega
   have hltN : decide (k < n) = true := by rw [decide_eq_true_iff]; omega
   have hgeN : decide (n ≤ k) = false := by rw [decide_eq_false_iff_not]; omega
   clear hkn
   go_wp2
   go_quiet (fail)
   go_wp2
   go_roundw
   case rel => exact ⟨k + 1, r + nq, by omega, by go_num, by first | rfl | exact World.drewN_drewN _ _ _⟩
   case measure => simp [intOf]; omega
  ·by_cases hk12 : k < n + 12
   ·have hc2 : w.cell? ⟨g, k, none⟩ = some (.int .i64 (8000024 + ((k : Int) - n))) := by
     rw [ownZ_cell HO.out (by rw [List.length_append, marks_length, ← HN.out]) k (by omega), gi_marks (by have := HN.out; omega) (by have := HN.out; omega), ← HN.out]
    have hkI : (n : Int) ≤ k := by omega
    have hkJ : (k : Int) < (n : Int) + 12 := by omega
    have hge : decide ((n : Int) ≤ k) = true := by rw [decide_eq_true_iff]; omega
    have hlt : decide ((k : Int) < n) = false := by rw [decide_eq_false_iff_not]; omega
    have hltN : decide (k < n) = false := by rw [decide_eq_false_iff_not]; omega
    have hgeN : decide (n ≤ k) = true := by rw [decide_eq_true_iff]; omega
    have hd0 : (0 : Int) ≤ (k : Int) - n := by omega
    have hd1 : (k : Int) - n ≤ 100 := by omega
    clear hkn
    go_wp2
    have hwr : IntKind.i64.wrap ((k : Int) - n) = (k : Int) - n := by rw [IntKind.wrap_i64]; omega
    obtain ⟨x, hx⟩ : ∃ x, x = 8000024 + ((k : Int) - n) := ⟨_, rfl⟩
    rw [← hx] at hc2
    have HMARK : Hid (∀ (z : Int) (W : World), z = (k : Int) - n → Calls Tryz.prog 76 #[.int .i64 1, .int .i64 z] W fun e w' => e = .returned (.int .i64 x) ∧ w' = W) := by
     rintro z W rfl
     rw [hx]
     exact mark_any _ W hd0 hd1
    clear hd0 hd1 hx
    go_quiet ((go_at_call 76; exact (HMARK.out _ _ (by first | rfl | exact hwr)).mono fun _ _ h => ⟨h.1, _, h.2⟩))
    go_wp2
    go_roundw
    case rel => exact ⟨k + 1, r + nq, by omega, by go_num, by first | rfl | exact World.drewN_drewN _ _ _⟩
    case measure => simp [intOf]; omega
   ·have hkJ : (n : Int) + 12 ≤ k := by omega
    go_wp2
    go_ret
    exact ⟨rfl, drewN_below _ _⟩

theorem newsR_at {w : World} {b off : Nat} {a : List R} (h : ∀ i, i < a.length → w.cell? ⟨b, off + i * 2, none⟩ = some (.int .i64 (gr a i).1) ∧ w.cell? ⟨b, off + i * 2 + 1, none⟩ = some (.int .i64 (gr a i).2)) : ∀ j u, (a.flatMap encR)[j]? = some u → w.cell? ((⟨b, off, none⟩ : Addr).add j) = some u := by
 intro j u hu
 have hj := (List.getElem?_eq_some_iff.1 hu).1
 rw [encs_length] at hj
 have e2 : (⟨b, off, none⟩ : Addr).add j = ⟨b, off + j, none⟩ := by simp [Addr.add]
 rw [e2]
 obtain ⟨i, hi | hi⟩ : ∃ i, j = i * 2 ∨ j = i * 2 + 1 := ⟨j / 2, by omega⟩
 ·subst hi
  have h1 := (encs_at a i (by omega)).1
  rw [h1] at hu
  rw [(h i (by omega)).1]; exact hu
 ·subst hi
  have h1 := (encs_at a i (by omega)).2
  rw [h1] at hu
  rw [← Nat.add_assoc, (h i (by omega)).2]; exact hu
theorem ownR_rowN {w : World} {B no d : Nat} {q : Option Addr} {l : List R} (h : OwnR w B (.slice q no d) l) (hn : no = l.length) : w.ownsRow B 63 2 (.slice q no d) no (l.flatMap encR) := by
 subst hn; exact h
theorem enc_one {a : List R} : ∀ u ∈ a.flatMap encR, ∃ x, u = .int .i64 x := by
 intro u hu
 rw [List.mem_flatMap] at hu
 obtain ⟨d, _, hd⟩ := hu
 unfold encR at hd
 simp only [List.mem_cons, List.not_mem_nil, or_false] at hd
 rcases hd with rfl | rfl
 ·exact ⟨_, rfl⟩
 ·exact ⟨_, rfl⟩
theorem run_joinR {w : World} {B : Nat} {v : Value} {N : List R} {q : Option Addr} {cq : Nat} {a : List R} (T : TypeId) (ho : OwnR w B v N) (hs : SlR w q a) (hq : q = none → cq = 0) (hl : N.length + a.length ≤ 1000000) (hB : B ≤ w.heap.size) :
  ∃ v' w', (Builtin.append_ #[23, 23] T #[v, .slice q a.length cq]).run Tryz.prog w = .ok v' w' ∧ OwnR w' B v' (N ++ a) ∧ w.grownBy w' v.ownBlock := by
 obtain ⟨i0, hinf, hz0, hz1, hz2⟩ := info_parts info_range
 unfold OwnR at ho
 cases q with
 | none =>
  have := hq rfl
  subst this
  have ha : a = [] := by
   rcases hs with h | ⟨b, off, h, _⟩
   ·exact h
   ·cases h
  subst ha
  have hrun := run_append_owned_none (P := Tryz.prog) (w := w) B 23 T 63 i0 2 Tryz.underlying23 hinf v N.length _ ho
  refine ⟨v, w, hrun, ?_, World.grownBy.refl _ _⟩
  unfold OwnR
  rw [List.append_nil]; exact ho
 | some ad =>
  have hn : ∀ j u, (a.flatMap encR)[j]? = some u → w.cell? (ad.add j) = some u := by
   rcases hs with h | ⟨b, off, h, hc⟩
   ·subst h; intro j u hu; simp at hu
   ·simp only [Option.some.injEq] at h
    subst h
    exact newsR_at hc
  obtain ⟨v', w', h1, h2, h3, _⟩ := run_append_own (P := Tryz.prog) (w := w) B 23 T 63 i0 (.agg #[.int .i64 0, .int .i64 0]) 2 16 Tryz.underlying23 hinf hz0 hz1 hz2 rfl (by decide) v N.length _ ho ad a.length cq (a.flatMap encR) (by rw [encs_length]) hn (by intro u hu; obtain ⟨x, rfl⟩ := enc_one u hu; rfl) (by simp only [maxLen]; omega) (by omega) hB
  refine ⟨v', w', h1, ?_, h3⟩
  unfold OwnR
  rw [List.length_append, List.flatMap_append]
  exact h2

theorem markRange_any (i : Int) (w : World) (h0 : 0 ≤ i) (h1 : i ≤ 100) : Calls Tryz.prog 75 #[.int .i64 1, .int .i64 i] w fun e w' => e = .returned (.agg #[.int .i64 (8000024 + i), .int .i64 0]) ∧ Below w.heap.size w w' := by
 have HM := fun W => mark_any i W h0 h1
 go_enter Tryz.func75, Tryz.ntmps75
 go_wp2_with (go_at_call 76; refine (HM _).mono ?_; rintro e w' ⟨rfl, hw'⟩; obtain rfl := hw'.symm; clear hw')
 refine bodyPost_ret (v := .agg #[.int .i64 (8000024 + i), .int .i64 0]) (by simp [results, Tryz.results75, go_sem]) rfl ?_
 exact ⟨rfl, bl_alloc _ _⟩

def marksR (k : Nat) : List R := (List.range k).map fun (i : Nat) => (8000024 + (i : Int), 0)
theorem marksR_succ (k : Nat) : marksR (k + 1) = marksR k ++ [(8000024 + (k : Int), 0)] := by unfold marksR; rw [List.range_succ, List.map_append]; rfl
theorem marksR_length (k : Nat) : (marksR k).length = k := by simp [marksR]
def LentRPost (n : Nat) (l : List R) (w : World) (e : Ending) (w' : World) : Prop :=
 ∃ g cap, e = .returned (.slice (some ⟨g, 0, none⟩) n cap) ∧ n + 12 ≤ cap ∧ cap ≤ 9223372036854775807 ∧ OwnR w' w.heap.size (.slice (some ⟨g, 0, none⟩) (n + 12) cap) (l ++ marksR 12) ∧ Below w.heap.size w w'

theorem lentR_any (p : Option Addr) (cp n : Nat) (l : List R) (w : World) (hn : n = l.length) (hp : SlR w p l) (hl : l.length ≤ 3000) (hpn : p = none → cp = 0) :
  Calls Tryz.prog 35 #[.slice p n cp] w (LentRPost n l w) := by
 obtain ⟨i0, hinf, hz0, hz1, hz2⟩ := info_parts info_range
 have hnI : (n : Int) ≤ 3000 := by omega
 have HN := lh hn
 have HP := lh hp
 have HPN := lh hpn
 have HNL := lh (show n ≤ 3000 by omega)
 clear hp hn hl hpn
 go_enter Tryz.func35, Tryz.ntmps35
 go_wp2_with (at_make; refine wpList_make_own _ rfl _ _ 23 rfl w.heap.size 63 i0 (.agg #[.int .i64 0, .int .i64 0]) 2 Tryz.underlying23 hinf hz0 hz1 .i64 .i64 _ (n + 12) rfl rfl ?m1 ?m3 ?m4 ?m5 ?_)
 case m1 => push_cast; rfl
 case m3 => rw [hz2]; have := HNL.out; omega
 case m4 => have := HNL.out; simp only [maxLen]; omega
 case m5 => exact Nat.le_refl _
 intro w2 hown2 hgrow2
 have hb2 : Below w.heap.size w w2 := (Below.refl _ _).grown hgrow2 (Nat.le_refl _) (by simp)
 have ho2 : OwnR w2 w.heap.size (.slice (some ⟨w.heap.size, 0, none⟩) 0 (n + 12)) [] := hown2
 obtain ⟨v3, w3, hr1, hr2, hr3⟩ := run_joinR (w := w2) 23 ho2 (HP.out.below hb2) HPN.out (by have := HN.out; have := HNL.out; simp; omega) hb2.size
 have hb3 : Below w.heap.size w w3 := hb2.grown hr3 hb2.size (fun k hk => (ho2.lt k hk).1)
 rw [List.nil_append] at hr2
 rw [← HN.out] at hr1
 obtain ⟨q3, c3, hv3, _⟩ := ownR_form hr2
 subst hv3
 rw [← HN.out] at hr1 hr2
 have HR1 := lh hr1
 have HR2 := lh hr2
 have HB3 := lh hb3
 clear hr1 hr2 hr3 hb3 hb2 ho2 hown2 hgrow2
 go_wp2_with (at_builtin; refine wpList_append_run (by rfl) _ _ 23 rfl _ _ _ rfl rfl HR1.out ?_)
 go_loopw [3, 4] (fun tv iv wr => ∃ (k no : Nat) (M : List R) (q : Option Addr) (cq : Nat), k ≤ 12 ∧ iv = .int .i64 (k : Nat) ∧ tv = .slice q no cq ∧ no = n + k ∧ Hid (no = M.length) ∧ Hid (M = l ++ marksR k) ∧ Hid (OwnR wr w.heap.size (.slice q no cq) M) ∧ Hid (Below w.heap.size w wr)) (fun _ iv _ => 12 - (intOf iv).toNat)
 case atStart => exact ⟨0, n, l, q3, c3, by omega, rfl, rfl, rfl, HN.out, (by show l = l ++ marksR 0; simp [marksR]), HR2.out, HB3.out⟩
 case round =>
  obtain ⟨k, no, M, q, cq, hk, rfl, rfl, hno, HO, HM, HOW, HB⟩ := hrel
  rename World => wr
  by_cases hk12 : k < 12
  ·have hkI : (k : Int) < 12 := by omega
   have HNO := lh hno
   have HK := lh hk12
   clear hno hk12
   go_wp2_with (first
    | (go_at_call 75; refine (markRange_any _ _ (by omega) (by omega)).mono ?_; rintro e w6 ⟨rfl, hb6⟩; have HO6 := lh (ownR_below HOW.out hb6); have HB6 := lh (bl_trans HB.out hb6); have HRO := lh (ownR_rowN HO6.out HO.out); clear hb6)
    | (at_builtin; refine wpList_append_own _ rfl _ _ 23 rfl w.heap.size 63 i0 (.agg #[.int .i64 0, .int .i64 0]) 2 16 Tryz.underlying23 hinf hz0 hz1 hz2 rfl (by decide) (.slice q no cq) no _ rfl (HRO.out.alloc _) ⟨w6.heap.size, 0, none⟩ 1 1 [.int .i64 (8000024 + (k : Int)), .int .i64 0] rfl rfl (cells_two_new _ _ _ _) (by simp [Value.oneCell']) ?c3 ?c4 ?c5 ?_))
   case c3 => have := HNO.out; have := HNL.out; have := HK.out; simp only [maxLen]; omega
   case c4 => have := HNO.out; have := HNL.out; have := HK.out; omega
   case c5 => have := HB6.out.size; simp; omega
   intro v5 w5 hown5 hgrow5 _
   have hO5 : OwnR w5 w.heap.size v5 (M ++ [(8000024 + (k : Int), 0)]) := ownR_appended HO.out.symm hown5
   have hb5 : Below w.heap.size w w5 := (HB6.out.alloc HB6.out.size _).grown hgrow5 (by have := HB6.out.size; simp; omega) (fun k hk => (HRO.out.lt k hk).1)
   obtain ⟨p', c5, hs', _⟩ := ownR_form hO5
   subst hs'
   have HN5 : Hid ((M ++ [(8000024 + (k : Int), (0 : Int))]).length = no + 1) := by
    show _ = _
    rw [List.length_append, ← HO.out]; rfl
   rw [HN5.out] at hO5 ⊢
   have HO5 := lh hO5
   have HB5 := lh hb5
   clear hown5 hgrow5 hO5 hb5
   go_wp2
   go_roundw
   case rel => exact ⟨k + 1, no + 1, _, p', c5, by have := HK.out; omega, by go_num, rfl, by have := HNO.out; omega, HN5.out.symm, (by show _ = _; rw [HM.out, marksR_succ, List.append_assoc]), HO5.out, HB5.out⟩
   case measure => have := HK.out; simp [intOf]; omega
  ·have hkk : k = 12 := by omega
   subst hkk
   obtain rfl := hno
   obtain ⟨p', c', hs', hlc, hcm, _, _, hne⟩ := ownR_form HOW.out
   have hlen := HO.out
   simp only [Value.slice.injEq] at hs'
   obtain ⟨rfl, hl2, rfl⟩ := hs'
   obtain ⟨g, rfl⟩ : ∃ g, q = some ⟨g, 0, none⟩ := by
    rcases HOW.out.2 with ⟨h, h2⟩ | ⟨g, cap, cur, h, _⟩
    ·exfalso; omega
    ·simp only [Value.slice.injEq] at h
     exact ⟨g, h.1⟩
   have hcI : (n : Int) + 12 ≤ (cq : Int) := by omega
   have hcJ : (cq : Int) ≤ 9223372036854775807 := by omega
   have HLC := lh (show n + 12 ≤ cq by omega)
   have HCM := lh hcm
   have HO2 := lh (show OwnR wr w.heap.size (.slice (some ⟨g, 0, none⟩) (n + 12) cq) (l ++ marksR 12) by
    rw [← HM.out]; exact HOW.out)
   clear hlc hcm hne hk12 hlen hl2
   go_wp2
   go_ret
   exact ⟨g, cq, rfl, HLC.out, HCM.out, HO2.out, HB.out⟩
theorem lentR_sl {w : World} {B : Nat} {g n cap : Nat} {l m : List R} (h : OwnR w B (.slice (some ⟨g, 0, none⟩) (n + 12) cap) (l ++ m)) : SlR w (some ⟨g, 0, none⟩) l := by
 obtain ⟨p', c', hs', _, _, _, hsl, _⟩ := ownR_form h
 simp only [Value.slice.injEq] at hs'
 obtain ⟨rfl, _, _⟩ := hs'
 rcases hsl with h | ⟨b, off, h1, h2⟩
 ·exact .inl (List.append_eq_nil_iff.1 h).1
 ·refine .inr ⟨b, off, h1, fun i hi => ?_⟩
  have e : gr (l ++ m) i = gr l i := by
   rw [gr_get (by rw [List.length_append]; omega), gr_get hi, List.getElem_append_left hi]
  have := h2 i (by rw [List.length_append]; omega)
  rw [e] at this; exact this

theorem ownR_cellN {w : World} {B g no cap : Nat} {l : List R} (h : OwnR w B (.slice (some ⟨g, 0, none⟩) no cap) l) (hn : no = l.length) (i : Nat) (hi : i < no) :
  w.cell? ⟨g, i * 2, none⟩ = some (.int .i64 (gr l i).1) ∧ w.cell? ⟨g, i * 2 + 1, none⟩ = some (.int .i64 (gr l i).2) := by
 subst hn
 unfold OwnR at h
 obtain ⟨e1, e2⟩ := encs_at l i hi
 rw [h.cellAt (i * 2) (by omega), h.cellAt (i * 2 + 1) (by omega)]
 exact ⟨e1, e2⟩
theorem keep_cell {W w6 : World} {a : Addr} {v : Value} (hb : Below W.heap.size W w6) (h : W.cell? a = some v) : w6.cell? a = some v := by rw [hb.cell (World.block_lt_of_cell? W _ h)]; exact h
theorem keep_below {w W w6 : World} (hb : Below W.heap.size W w6) (h : Hid (Below w.heap.size w W)) : Hid (Below w.heap.size w w6) := bl_trans h.out hb
theorem gr_front {l m : List R} {i : Nat} (h : i < l.length) : gr (l ++ m) i = gr l i := by
 rw [gr_get (by rw [List.length_append]; omega), gr_get h, List.getElem_append_left h]
theorem gr_marks {l : List R} {k i : Nat} (h1 : l.length ≤ i) (h2 : i < l.length + k) : gr (l ++ marksR k) i = (8000024 + ((i : Int) - l.length), 0) := by
 rw [gr_get (by rw [List.length_append, marksR_length]; omega), List.getElem_append_right h1]
 unfold marksR
 simp
 omega

theorem keptR_any (p : Option Addr) (cp n : Nat) (l : List R) (B g cap : Nat) (w : World) (hn : n = l.length) (hp : SlR w p l) (hl : l.length ≤ 3000) (ho : OwnR w B (.slice (some ⟨g, 0, none⟩) (n + 12) cap) (l ++ marksR 12)) (hcap : n + 12 ≤ cap) (hcm : cap ≤ 9223372036854775807) :
  Calls Tryz.prog 48 #[.slice (some ⟨g, 0, none⟩) n cap, .slice p n cp] w fun e w' => e = .returned (.bool true) ∧ Below w.heap.size w w' := by
 have hnI : (n : Int) ≤ 3000 := by omega
 have hcI : (n : Int) + 12 ≤ (cap : Int) := by omega
 have hcJ : (cap : Int) ≤ 9223372036854775807 := by omega
 have HN := lh hn
 have HP := lh hp
 have HO := lh ho
 have HNN : Hid (n + 12 = (l ++ marksR 12).length) := by show _ = _; rw [List.length_append, marksR_length, ← hn]
 clear hp hn hl hcap hcm ho
 go_enter Tryz.func48, Tryz.ntmps48
 go_wp2
 go_loopw [6] (fun iv wr => ∃ (k : Nat), k ≤ n + 12 ∧ iv = .int .i64 (k : Nat) ∧ Hid (Below w.heap.size w wr)) (fun iv _ => n + 12 - (intOf iv).toNat)
 case atStart => exact ⟨0, Nat.zero_le _, rfl, Below.refl _ _⟩
 case round =>
  obtain ⟨k, hk, rfl, HB⟩ := hrel
  rename World => wr
  by_cases hkn : k < n
  ·obtain ⟨b1, o1, rfl, hc1, hc2⟩ := slr_at (HP.out.below HB.out) (show k < l.length by have := HN.out; omega)
   obtain ⟨hc3, hc4⟩ := ownR_cellN (ownR_below HO.out HB.out) HNN.out k (by omega)
   rw [gr_front (by have := HN.out; omega)] at hc3 hc4
   obtain ⟨x, hx⟩ : ∃ x, x = (gr l k).1 := ⟨_, rfl⟩
   obtain ⟨x', hx'⟩ : ∃ x, x = (gr l k).2 := ⟨_, rfl⟩
   rw [← hx] at hc1 hc3
   rw [← hx'] at hc2 hc4
   clear hx hx'
   have hgd := range_guard
   have heq := fun W => equal_range 9998 x x' x x' W
   rw [show (x == x && x' == x') = true by simp] at heq
   have hkI : (k : Int) < n := by omega
   have hkJ : (k : Int) < (n : Int) + 12 := by omega
   have hge : decide ((n : Int) ≤ k) = false := by rw [decide_eq_false_iff_not]; omega
   have hlt : decide ((k : Int) < n) = true := by rw [decide_eq_true_iff]; omega
   have hltN : decide (k < n) = true := by rw [decide_eq_true_iff]; omega
   have hgeN : decide (n ≤ k) = false := by rw [decide_eq_false_iff_not]; omega
   clear hkn
   go_wp2
   go_quiet (fail)
   go_wp2
   go_roundw
   case rel => exact ⟨k + 1, by omega, by go_num, bl_trans HB.out (drewN_below _ _)⟩
   case measure => simp [intOf]; omega
  ·by_cases hk12 : k < n + 12
   ·obtain ⟨hc3, hc4⟩ := ownR_cellN (ownR_below HO.out HB.out) HNN.out k (by omega)
    rw [gr_marks (by have := HN.out; omega) (by have := HN.out; omega), ← HN.out] at hc3 hc4
    simp only at hc3 hc4
    have hkI : (n : Int) ≤ k := by omega
    have hkJ : (k : Int) < (n : Int) + 12 := by omega
    have hge : decide ((n : Int) ≤ k) = true := by rw [decide_eq_true_iff]; omega
    have hlt : decide ((k : Int) < n) = false := by rw [decide_eq_false_iff_not]; omega
    have hltN : decide (k < n) = false := by rw [decide_eq_false_iff_not]; omega
    have hgeN : decide (n ≤ k) = true := by rw [decide_eq_true_iff]; omega
    have hd0 : (0 : Int) ≤ (k : Int) - n := by omega
    have hd1 : (k : Int) - n ≤ 100 := by omega
    clear hkn
    have hwr : IntKind.i64.wrap ((k : Int) - n) = (k : Int) - n := by rw [IntKind.wrap_i64]; omega
    obtain ⟨x, hx⟩ : ∃ x, x = 8000024 + ((k : Int) - n) := ⟨_, rfl⟩
    rw [← hx] at hc3
    have HMARK : Hid (∀ (z : Int) (W : World), z = (k : Int) - n → Calls Tryz.prog 75 #[.int .i64 1, .int .i64 z] W fun e w' => e = .returned (.agg #[.int .i64 x, .int .i64 0]) ∧ Below W.heap.size W w') := by
     rintro z W rfl
     rw [hx]
     exact markRange_any _ W hd0 hd1
    have hgd := range_guard
    have heq := fun W => equal_range 9998 x 0 x 0 W
    rw [show (x == x && (0 : Int) == 0) = true by simp] at heq
    clear hd0 hd1 hx
    go_wp2
    refine wp_region_held_drew (S := (fun W => W.cell? ⟨g, k * 2, none⟩ = some (.int .i64 x) ∧ W.cell? ⟨g, k * 2 + 1, none⟩ = some (.int .i64 0) ∧ Hid (Below w.heap.size w W))) (by kernel_rfl) ⟨hc3, hc4, bl_trans HB.out (bl_drew _)⟩ (fun hHeld => ?_)
    refine wpAnyH_take (i := 0) (oi := ⟨some 23, Op.move (.tmp 6), 3, "lent.go:322", #[], none⟩) (v := ?_) rfl (by kernel_rfl) (by kernel_rfl) (by kernel_rfl) (fun _ _ _ h => h) (Or.inl ⟨by rfl, ?_⟩) (by assumption) ?_
    rotate_left
    focus (intro w hSw; (try dsimp only at hSw); go_simp; try with_reducible rfl)
    try simp only [Act.put, sb]
    refine wpAnyH_take (i := 1) (oi := ⟨some 24, Op.move (.tmp 1), 23, "lent.go:322", #[], none⟩) (v := ?_) rfl (by kernel_rfl) (by kernel_rfl) (by kernel_rfl) (fun _ _ _ h => h) (Or.inl ⟨by rfl, ?_⟩) (by assumption) ?_
    rotate_left
    focus (intro w hSw; (try dsimp only at hSw); go_simp; try with_reducible rfl)
    try simp only [Act.put, sb]
    refine wpAnyH_take (i := 2) (oi := ⟨some 25, Op.call { callee := Callee.builtin Builtin.len, args := #[.tmp 24], argTypes := #[23] }, 3, "lent.go:322", #[⟨1, .data⟩], none⟩) (v := ?_) rfl (by kernel_rfl) (by kernel_rfl) (by kernel_rfl) (fun _ _ _ h => h) (Or.inl ⟨by rfl, ?_⟩) (by assumption) ?_
    rotate_left
    focus (intro w hSw; (try dsimp only at hSw); go_simp; try with_reducible rfl)
    try simp only [Act.put, sb]
    refine wpAnyH_take (i := 3) (oi := ⟨some 26, Op.binOp BinOp.lss 3 (.tmp 23) (.tmp 25) 3, 4, "lent.go:322", #[⟨0, .data⟩, ⟨2, .data⟩], none⟩) (v := ?_) rfl (by kernel_rfl) (by kernel_rfl) (by kernel_rfl) (fun _ _ _ h => h) (Or.inl ⟨by rfl, ?_⟩) (by assumption) ?_
    rotate_left
    focus (intro w hSw; (try dsimp only at hSw); go_simp; try with_reducible rfl)
    try simp only [Act.put, sb]
    refine wpAnyH_take (i := 4) (oi := ⟨some 27, Op.move (.tmp 26), 4, "lent.go:322", #[⟨3, .data⟩], none⟩) (v := ?_) rfl (by kernel_rfl) (by kernel_rfl) (by kernel_rfl) (fun _ _ _ h => h) (Or.inl ⟨by rfl, ?_⟩) (by assumption) ?_
    rotate_left
    focus (intro w hSw; (try dsimp only at hSw); go_simp; try with_reducible rfl)
    try simp only [Act.put, sb]
    refine wpAnyH_take (i := 5) (oi := ⟨some 28, Op.move (.tmp 5), 23, "lent.go:322", #[⟨4, .guard⟩], some (4, true)⟩) (v := undef) rfl (by kernel_rfl) (by kernel_rfl) (by kernel_rfl) (fun _ _ _ h => h) (Or.inr ⟨by rfl, by rfl⟩) (by assumption) ?_
    try simp only [Act.put, sb]
    refine wpAnyH_take (i := 6) (oi := ⟨some 29, Op.move (.tmp 6), 3, "lent.go:322", #[⟨4, .guard⟩], some (4, true)⟩) (v := undef) rfl (by kernel_rfl) (by kernel_rfl) (by kernel_rfl) (fun _ _ _ h => h) (Or.inr ⟨by rfl, by rfl⟩) (by assumption) ?_
    try simp only [Act.put, sb]
    refine wpAnyH_take (i := 7) (oi := ⟨some 30, Op.indexAddr 23 (.tmp 28) (.tmp 29), 0, "lent.go:322", #[⟨5, .data⟩, ⟨6, .data⟩, ⟨4, .guard⟩], some (4, true)⟩) (v := undef) rfl (by kernel_rfl) (by kernel_rfl) (by kernel_rfl) (fun _ _ _ h => h) (Or.inr ⟨by rfl, by rfl⟩) (by assumption) ?_
    try simp only [Act.put, sb]
    refine wpAnyH_take (i := 8) (oi := ⟨some 31, Op.load 63 (.tmp 30), 63, "lent.go:322", #[⟨7, .data⟩, ⟨4, .guard⟩], some (4, true)⟩) (v := undef) rfl (by kernel_rfl) (by kernel_rfl) (by kernel_rfl) (fun _ _ _ h => h) (Or.inr ⟨by rfl, by rfl⟩) (by assumption) ?_
    try simp only [Act.put, sb]
    refine wpAnyH_take (i := 9) (oi := ⟨some 32, Op.move (.tmp 1), 23, "lent.go:322", #[⟨4, .guard⟩], some (4, true)⟩) (v := undef) rfl (by kernel_rfl) (by kernel_rfl) (by kernel_rfl) (fun _ _ _ h => h) (Or.inr ⟨by rfl, by rfl⟩) (by assumption) ?_
    try simp only [Act.put, sb]
    refine wpAnyH_take (i := 10) (oi := ⟨some 33, Op.move (.tmp 6), 3, "lent.go:322", #[⟨4, .guard⟩], some (4, true)⟩) (v := undef) rfl (by kernel_rfl) (by kernel_rfl) (by kernel_rfl) (fun _ _ _ h => h) (Or.inr ⟨by rfl, by rfl⟩) (by assumption) ?_
    try simp only [Act.put, sb]
    refine wpAnyH_take (i := 11) (oi := ⟨some 34, Op.indexAddr 23 (.tmp 32) (.tmp 33), 0, "lent.go:322", #[⟨9, .data⟩, ⟨10, .data⟩, ⟨4, .guard⟩], some (4, true)⟩) (v := undef) rfl (by kernel_rfl) (by kernel_rfl) (by kernel_rfl) (fun _ _ _ h => h) (Or.inr ⟨by rfl, by rfl⟩) (by assumption) ?_
    try simp only [Act.put, sb]
    refine wpAnyH_take (i := 12) (oi := ⟨some 35, Op.load 63 (.tmp 34), 63, "lent.go:322", #[⟨11, .data⟩, ⟨4, .guard⟩], some (4, true)⟩) (v := undef) rfl (by kernel_rfl) (by kernel_rfl) (by kernel_rfl) (fun _ _ _ h => h) (Or.inr ⟨by rfl, by rfl⟩) (by assumption) ?_
    try simp only [Act.put, sb]
    refine wpAnyH_take (i := 13) (oi := ⟨some 36, Op.binOp BinOp.eql 63 (.tmp 31) (.tmp 35) 63, 4, "lent.go:322", #[⟨8, .data⟩, ⟨12, .data⟩, ⟨4, .guard⟩], some (4, true)⟩) (v := undef) rfl (by kernel_rfl) (by kernel_rfl) (by kernel_rfl) (fun _ _ _ h => h) (Or.inr ⟨by rfl, by rfl⟩) (by assumption) ?_
    try simp only [Act.put, sb]
    refine wpAnyH_take (i := 14) (oi := ⟨some 37, Op.unOp UnOp.not 4 (.tmp 36), 4, "lent.go:322", #[⟨13, .data⟩, ⟨4, .guard⟩], some (4, true)⟩) (v := undef) rfl (by kernel_rfl) (by kernel_rfl) (by kernel_rfl) (fun _ _ _ h => h) (Or.inr ⟨by rfl, by rfl⟩) (by assumption) ?_
    try simp only [Act.put, sb]
    refine wpAnyH_take (i := 15) (oi := ⟨some 38, Op.pick (.tmp 27) (.tmp 37) (.const (Value.bool false)), 4, "lent.go:322", #[⟨4, .data⟩, ⟨14, .data⟩], none⟩) (v := ?_) rfl (by kernel_rfl) (by kernel_rfl) (by kernel_rfl) (fun _ _ _ h => h) (Or.inl ⟨by rfl, ?_⟩) (by assumption) ?_
    rotate_left
    focus (intro w hSw; (try dsimp only at hSw); go_simp; try with_reducible rfl)
    try simp only [Act.put, sb]
    refine wpAnyH_take (i := 16) (oi := ⟨some 39, Op.move (.tmp 38), 4, "lent.go:322", #[⟨15, .data⟩, ⟨4, .chain⟩], none⟩) (v := ?_) rfl (by kernel_rfl) (by kernel_rfl) (by kernel_rfl) (fun _ _ _ h => h) (Or.inl ⟨by rfl, ?_⟩) (by assumption) ?_
    rotate_left
    focus (intro w hSw; (try dsimp only at hSw); go_simp; try with_reducible rfl)
    try simp only [Act.put, sb]
    refine wpAnyH_take (i := 17) (oi := ⟨some 40, Op.move (.tmp 6), 3, "lent.go:322", #[⟨16, .guard⟩], some (16, false)⟩) (v := ?_) rfl (by kernel_rfl) (by kernel_rfl) (by kernel_rfl) (fun _ _ _ h => h) (Or.inl ⟨by rfl, ?_⟩) (by assumption) ?_
    rotate_left
    focus (intro w hSw; (try dsimp only at hSw); go_simp; try with_reducible rfl)
    try simp only [Act.put, sb]
    refine wpAnyH_take (i := 18) (oi := ⟨some 41, Op.move (.tmp 1), 23, "lent.go:322", #[⟨16, .guard⟩], some (16, false)⟩) (v := ?_) rfl (by kernel_rfl) (by kernel_rfl) (by kernel_rfl) (fun _ _ _ h => h) (Or.inl ⟨by rfl, ?_⟩) (by assumption) ?_
    rotate_left
    focus (intro w hSw; (try dsimp only at hSw); go_simp; try with_reducible rfl)
    try simp only [Act.put, sb]
    refine wpAnyH_take (i := 19) (oi := ⟨some 42, Op.call { callee := Callee.builtin Builtin.len, args := #[.tmp 41], argTypes := #[23] }, 3, "lent.go:322", #[⟨18, .data⟩, ⟨16, .guard⟩], some (16, false)⟩) (v := ?_) rfl (by kernel_rfl) (by kernel_rfl) (by kernel_rfl) (fun _ _ _ h => h) (Or.inl ⟨by rfl, ?_⟩) (by assumption) ?_
    rotate_left
    focus (intro w hSw; (try dsimp only at hSw); go_simp; try with_reducible rfl)
    try simp only [Act.put, sb]
    refine wpAnyH_take (i := 20) (oi := ⟨some 43, Op.binOp BinOp.geq 3 (.tmp 40) (.tmp 42) 3, 4, "lent.go:322", #[⟨17, .data⟩, ⟨19, .data⟩, ⟨16, .guard⟩], some (16, false)⟩) (v := ?_) rfl (by kernel_rfl) (by kernel_rfl) (by kernel_rfl) (fun _ _ _ h => h) (Or.inl ⟨by rfl, ?_⟩) (by assumption) ?_
    rotate_left
    focus (intro w hSw; (try dsimp only at hSw); go_simp; try with_reducible rfl)
    try simp only [Act.put, sb]
    refine wpAnyH_take (i := 21) (oi := ⟨some 44, Op.move (.tmp 43), 4, "lent.go:322", #[⟨20, .data⟩, ⟨16, .chain⟩, ⟨16, .guard⟩], some (16, false)⟩) (v := ?_) rfl (by kernel_rfl) (by kernel_rfl) (by kernel_rfl) (fun _ _ _ h => h) (Or.inl ⟨by rfl, ?_⟩) (by assumption) ?_
    rotate_left
    focus (intro w hSw; (try dsimp only at hSw); go_simp; try with_reducible rfl)
    try simp only [Act.put, sb]
    refine wpAnyH_take (i := 22) (oi := ⟨some 45, Op.move (.tmp 5), 23, "lent.go:322", #[⟨21, .guard⟩], some (21, true)⟩) (v := ?_) rfl (by kernel_rfl) (by kernel_rfl) (by kernel_rfl) (fun _ _ _ h => h) (Or.inl ⟨by rfl, ?_⟩) (by assumption) ?_
    rotate_left
    focus (intro w hSw; (try dsimp only at hSw); go_simp; try with_reducible rfl)
    try simp only [Act.put, sb]
    refine wpAnyH_take (i := 23) (oi := ⟨some 46, Op.move (.tmp 6), 3, "lent.go:322", #[⟨21, .guard⟩], some (21, true)⟩) (v := ?_) rfl (by kernel_rfl) (by kernel_rfl) (by kernel_rfl) (fun _ _ _ h => h) (Or.inl ⟨by rfl, ?_⟩) (by assumption) ?_
    rotate_left
    focus (intro w hSw; (try dsimp only at hSw); go_simp; try with_reducible rfl)
    try simp only [Act.put, sb]
    refine wpAnyH_take (i := 24) (oi := ⟨some 47, Op.indexAddr 23 (.tmp 45) (.tmp 46), 0, "lent.go:322", #[⟨22, .data⟩, ⟨23, .data⟩, ⟨21, .guard⟩], some (21, true)⟩) (v := ?_) rfl (by kernel_rfl) (by kernel_rfl) (by kernel_rfl) (fun _ _ _ h => h) (Or.inl ⟨by rfl, ?_⟩) (by assumption) ?_
    rotate_left
    focus (intro w hSw; (try dsimp only at hSw); go_simp; try with_reducible rfl)
    try simp only [Act.put, sb]
    refine wpAnyH_take (i := 25) (oi := ⟨some 48, Op.load 63 (.tmp 47), 63, "lent.go:322", #[⟨24, .data⟩, ⟨21, .guard⟩], some (21, true)⟩) (v := ?_) rfl (by kernel_rfl) (by kernel_rfl) (by kernel_rfl) (fun _ _ _ h => h) (Or.inl ⟨by rfl, ?_⟩) (by assumption) ?_
    rotate_left
    focus (intro w hSw; (try dsimp only at hSw); go_simp; try with_reducible rfl)
    try simp only [Act.put, sb]
    refine wpAnyH_take (i := 26) (oi := ⟨some 49, Op.move (.tmp 6), 3, "lent.go:322", #[⟨21, .guard⟩], some (21, true)⟩) (v := ?_) rfl (by kernel_rfl) (by kernel_rfl) (by kernel_rfl) (fun _ _ _ h => h) (Or.inl ⟨by rfl, ?_⟩) (by assumption) ?_
    rotate_left
    focus (intro w hSw; (try dsimp only at hSw); go_simp; try with_reducible rfl)
    try simp only [Act.put, sb]
    refine wpAnyH_take (i := 27) (oi := ⟨some 50, Op.move (.tmp 1), 23, "lent.go:322", #[⟨21, .guard⟩], some (21, true)⟩) (v := ?_) rfl (by kernel_rfl) (by kernel_rfl) (by kernel_rfl) (fun _ _ _ h => h) (Or.inl ⟨by rfl, ?_⟩) (by assumption) ?_
    rotate_left
    focus (intro w hSw; (try dsimp only at hSw); go_simp; try with_reducible rfl)
    try simp only [Act.put, sb]
    refine wpAnyH_take (i := 28) (oi := ⟨some 51, Op.call { callee := Callee.builtin Builtin.len, args := #[.tmp 50], argTypes := #[23] }, 3, "lent.go:322", #[⟨27, .data⟩, ⟨21, .guard⟩], some (21, true)⟩) (v := ?_) rfl (by kernel_rfl) (by kernel_rfl) (by kernel_rfl) (fun _ _ _ h => h) (Or.inl ⟨by rfl, ?_⟩) (by assumption) ?_
    rotate_left
    focus (intro w hSw; (try dsimp only at hSw); go_simp; try with_reducible rfl)
    try simp only [Act.put, sb]
    refine wpAnyH_take (i := 29) (oi := ⟨some 52, Op.binOp BinOp.sub 3 (.tmp 49) (.tmp 51) 3, 3, "lent.go:322", #[⟨26, .data⟩, ⟨28, .data⟩, ⟨21, .guard⟩], some (21, true)⟩) (v := ?_) rfl (by kernel_rfl) (by kernel_rfl) (by kernel_rfl) (fun _ _ _ h => h) (Or.inl ⟨by rfl, ?_⟩) (by assumption) ?_
    rotate_left
    focus (intro w hSw; (try dsimp only at hSw); go_simp; try with_reducible rfl)
    try simp only [Act.put, sb]
    refine wpAnyH_ready (rs := [30]) (by kernel_rfl) (by simp) ?_
    refine AllReadyH.cons (o := ⟨some 53, Op.call ⟨.value (.func 75), #[.const (.int .i64 1), .tmp 52], #[3, 3]⟩, 63, "lent.go:322", #[⟨29, .data⟩, ⟨21, .chain⟩, ⟨21, .guard⟩], some (21, true)⟩) rfl (fun K hK => ?_) AllReadyH.nil
    go_simp
    go_at_call 75
    refine (HMARK.out _ _ (by first | rfl | exact hwr)).mono ?_
    rintro e w6 ⟨rfl, hb6⟩
    have hq1 : World.cell? w6 ⟨g, k * 2, none⟩ = some (.int .i64 x) := keep_cell hb6 hc3
    have hq2 : World.cell? w6 ⟨g, k * 2 + 1, none⟩ = some (.int .i64 0) := keep_cell hb6 hc4
    have hq3 : Hid (Below w.heap.size w w6) := keep_below hb6 (bl_trans HB.out (bl_drew _))
    clear hb6
    try go_wp2_with fail
    refine hK.out _ _ ⟨hq1, hq2, hq3⟩ (fun hHeld2 => ?_)
    clear hK K
    try simp only [Act.put, sb]
    refine wpAnyH_take (i := 31) (oi := ⟨some 54, Op.binOp BinOp.eql 63 (.tmp 48) (.tmp 53) 63, 4, "lent.go:322", #[⟨25, .data⟩, ⟨30, .data⟩, ⟨21, .guard⟩], some (21, true)⟩) (v := ?_) rfl (by kernel_rfl) (by kernel_rfl) (by kernel_rfl) (fun _ _ _ h => h) (Or.inl ⟨by rfl, ?_⟩) (by assumption) ?_
    rotate_left
    focus (intro w hSw; (try dsimp only at hSw); go_simp; try with_reducible rfl)
    try simp only [Act.put, sb]
    refine wpAnyH_take (i := 32) (oi := ⟨some 55, Op.unOp UnOp.not 4 (.tmp 54), 4, "lent.go:322", #[⟨31, .data⟩, ⟨21, .guard⟩], some (21, true)⟩) (v := ?_) rfl (by kernel_rfl) (by kernel_rfl) (by kernel_rfl) (fun _ _ _ h => h) (Or.inl ⟨by rfl, ?_⟩) (by assumption) ?_
    rotate_left
    focus (intro w hSw; (try dsimp only at hSw); go_simp; try with_reducible rfl)
    try simp only [Act.put, sb]
    refine wpAnyH_take (i := 33) (oi := ⟨some 56, Op.pick (.tmp 44) (.tmp 55) (.const (Value.bool false)), 4, "lent.go:322", #[⟨21, .data⟩, ⟨32, .data⟩, ⟨16, .guard⟩], some (16, false)⟩) (v := ?_) rfl (by kernel_rfl) (by kernel_rfl) (by kernel_rfl) (fun _ _ _ h => h) (Or.inl ⟨by rfl, ?_⟩) (by assumption) ?_
    rotate_left
    focus (intro w hSw; (try dsimp only at hSw); go_simp; try with_reducible rfl)
    try simp only [Act.put, sb]
    refine wpAnyH_take (i := 34) (oi := ⟨some 57, Op.pick (.tmp 39) (.const (Value.bool true)) (.tmp 56), 4, "lent.go:322", #[⟨16, .data⟩, ⟨33, .data⟩], none⟩) (v := ?_) rfl (by kernel_rfl) (by kernel_rfl) (by kernel_rfl) (fun _ _ _ h => h) (Or.inl ⟨by rfl, ?_⟩) (by assumption) ?_
    rotate_left
    focus (intro w hSw; (try dsimp only at hSw); go_simp; try with_reducible rfl)
    try simp only [Act.put, sb]
    refine wpAnyH_done (by kernel_rfl) ?_ _
    go_wp2
    go_roundw
    case rel => exact ⟨k + 1, by omega, by go_num, by assumption⟩
    case measure => simp [intOf]; omega
   ·have hkJ : (n : Int) + 12 ≤ k := by omega
    go_wp2
    go_ret
    exact ⟨rfl, HB.out⟩
end Go.Proofs.YtkefndfgkmdphaaGreat
