/- The walks of the document's Has, add. -/
import Derived.Test.YtgcgclmfjlecaaaGreatRm
import Derived.Test.YtgcgclmfjlecaaaGreatRt

namespace Go.Proofs.YtgcgclmfjlecaaaGreat
open Go.RowKit Tnr

set_option maxHeartbeats 800000 in
set_option maxRecDepth 100000 in
theorem rhas_any (p : Option Addr) (cp m : Nat) (l : List R) (c : Int) (w : World) (hm : m = l.length) (hp : SlR w p l) (hl : l.length ≤ 4611686018427387904) :
    Calls Tryz.prog 34 #[.slice p m cp, .int .i64 c] w fun e w' => e = .returned (.bool (hasB l c)) ∧ w = w' := by
  have HP := Lib.hid hp
  have hnI : (m : Int) ≤ 4611686018427387904 := by omega
  have HN := Lib.hid hm
  clear hp hm hl
  go_enter Tryz.func34, Tryz.ntmps34
  go_wp2
  go_loop [5] (fun iv => ∃ (k : Nat), k ≤ m ∧ iv = .int .i64 (k : Nat) ∧ Hid (∀ j, j < k → ¬ ((gr l j).1 ≤ c ∧ c ≤ (gr l j).2 ∧ 0 ≤ c ∧ c ≤ 1114111))) (fun iv => m - (intOf iv).toNat)
  case atStart => exact ⟨0, Nat.zero_le _, rfl, fun j hj => by omega⟩
  case round =>
    obtain ⟨k, hk, rfl, HE⟩ := hrel
    by_cases hkn : k < m
    · obtain ⟨b, o, rfl, hc1, hc2⟩ := slr_at HP.out (show k < l.length by have := HN.out; omega)
      have hkI : (k : Int) < m := by omega
      obtain ⟨lo, hlo⟩ : ∃ x, x = (gr l k).1 := ⟨_, rfl⟩
      obtain ⟨hi, hhi⟩ : ∃ x, x = (gr l k).2 := ⟨_, rfl⟩
      rw [← hlo] at hc1
      rw [← hhi] at hc2
      have HLO := Lib.hid hlo
      have HHI := Lib.hid hhi
      clear hlo hhi
      by_cases h1 : lo ≤ c
      · by_cases h2 : c ≤ hi
        · by_cases h3 : 0 ≤ c
          · by_cases h4 : c ≤ 1114111
            · go_wp2
              go_ret
              refine ⟨ret_bool ?_, rfl⟩
              unfold hasB
              rw [decide_eq_true]
              exact ⟨h3, h4, gr l k, gr_mem (by have := HN.out; omega), by rw [← HLO.out]; exact h1, by rw [← HHI.out]; exact h2⟩
            · have h4' : 1114111 < c := by omega
              go_wp2
              go_round
              case rel =>
                refine ⟨k + 1, by omega, by go_num, ?_⟩
                intro j hj
                by_cases e : j = k
                · subst e; rw [← HLO.out, ← HHI.out]; omega
                · exact HE.out j (by omega)
              case measure => simp [intOf]; omega
          · have h3' : c < 0 := by omega
            go_wp2
            go_round
            case rel =>
              refine ⟨k + 1, by omega, by go_num, ?_⟩
              intro j hj
              by_cases e : j = k
              · subst e; rw [← HLO.out, ← HHI.out]; omega
              · exact HE.out j (by omega)
            case measure => simp [intOf]; omega
        · have h2' : hi < c := by omega
          go_wp2
          go_round
          case rel =>
            refine ⟨k + 1, by omega, by go_num, ?_⟩
            intro j hj
            by_cases e : j = k
            · subst e; rw [← HLO.out, ← HHI.out]; omega
            · exact HE.out j (by omega)
          case measure => simp [intOf]; omega
      · have h1' : c < lo := by omega
        go_wp2
        go_round
        case rel =>
          refine ⟨k + 1, by omega, by go_num, ?_⟩
          intro j hj
          by_cases e : j = k
          · subst e; rw [← HLO.out, ← HHI.out]; omega
          · exact HE.out j (by omega)
        case measure => simp [intOf]; omega
    · have hkI : (m : Int) ≤ k := by omega
      go_wp2
      go_ret
      refine ⟨ret_bool ?_, rfl⟩
      unfold hasB
      rw [decide_eq_false]
      rintro ⟨h3, h4, r, hr, h5, h6⟩
      obtain ⟨j, hj, rfl⟩ := mem_gr hr
      exact HE.out j (by have := HN.out; omega) ⟨h5, h6, h3, h4⟩

theorem addR_length (L : List R) (lo hi : Int) : (addR L lo hi).length ≤ L.length + 1 := by
  rcases snoc_or L with rfl | ⟨i, x, rfl⟩
  · rw [addR_nil]; simp
  · rw [addR_snoc]; split <;> simp
theorem enc_set (I : List R) (x : R) (hi : Int) : ((I ++ [x]).flatMap encR).set (I.length * 2 + 1) (.int .i64 hi) = (I ++ [(x.1, hi)]).flatMap encR := by
  rw [List.flatMap_append, List.flatMap_append]
  have hl := encs_length I
  rw [← hl, List.set_append_right _ _ (by omega), Nat.add_sub_cancel_left]
  rfl
def AddPost (B : Nat) (w : World) (L : List R) (e : Ending) (w' : World) : Prop := ∃ q d, e = .returned (.slice q L.length d) ∧ OwnR w' B (.slice q L.length d) L ∧ Below B w w'
theorem addPost_mk {B : Nat} {w w' : World} {L : List R} {q : Option Addr} {n d : Nat} (hn : n = L.length) (ho : OwnR w' B (.slice q n d) L) (hb : Below B w w') : AddPost B w L (.returned (.slice q n d)) w' := by
  subst hn
  exact ⟨q, d, rfl, ho, hb⟩

set_option maxHeartbeats 800000 in
set_option maxRecDepth 100000 in
theorem radd_nil (p : Option Addr) (c B : Nat) (lo hi : Int) (w : World) (ho : OwnR w B (.slice p 0 c) []) (hB : B ≤ w.heap.size) :
    Calls Tryz.prog 106 #[.slice p 0 c, .int .i64 lo, .int .i64 hi] w (AddPost B w (addR [] lo hi)) := by
  obtain ⟨i0, hinf, hz0, hz1, hz2⟩ := info_parts info_range
  have hrow := ho
  unfold OwnR at hrow
  have HRO := Lib.hid hrow
  have HB := Lib.hid hB
  clear hrow ho hB
  go_enter Tryz.func106, Tryz.ntmps106
  go_wp2_with (at_builtin; refine wpList_append_own _ rfl _ _ 28 rfl B 41 i0 (.agg #[.int .i64 0, .int .i64 0]) 2 16 Tryz.underlying28 hinf hz0 hz1 hz2 rfl (by decide) (.slice p 0 c) 0 _ rfl (HRO.out.alloc _) ⟨w.heap.size, 0, none⟩ 1 1 [.int .i64 lo, .int .i64 hi] rfl rfl (cells_two_new _ _ _ _) (by simp [Value.oneCell']) (by simp only [maxLen]; omega) (by omega) (by have := HB.out; simp; omega) ?_)
  intro v5 w5 hown5 hgrow5 _
  obtain ⟨g', cap', rfl⟩ := ownsRow_succ hown5
  have hO5 : OwnR w5 B (.slice (some ⟨g', 0, none⟩) (0 + 1) cap') [(lo, hi)] := ownR_appended (l := []) (r := (lo, hi)) rfl hown5
  have hb5 : Below B w w5 := ((Below.refl B w).alloc HB.out _).grown hgrow5 (by have := HB.out; simp; omega) (fun k hk => (HRO.out.lt k hk).1)
  have HO5 := Lib.hid hO5
  have HB5 := Lib.hid hb5
  clear hown5 hgrow5 hO5 hb5
  go_wp2
  go_ret
  rw [addR_nil]
  exact addPost_mk rfl HO5.out HB5.out

set_option maxHeartbeats 800000 in
set_option maxRecDepth 100000 in
theorem radd_snoc (p : Option Addr) (c B n : Nat) (I : List R) (x : R) (lo hi : Int) (w : World) (hn : n = I.length) (ho : OwnR w B (.slice p (n + 1) c) (I ++ [x])) (hB : B ≤ w.heap.size) (hl : I.length ≤ 100000000) (hx : 0 ≤ x.2 ∧ x.2 ≤ 1114111) :
    Calls Tryz.prog 106 #[.slice p ((n + 1 : Nat)) c, .int .i64 lo, .int .i64 hi] w (AddPost B w (addR (I ++ [x]) lo hi)) := by
  obtain ⟨i0, hinf, hz0, hz1, hz2⟩ := info_parts info_range
  have hrow := ho
  unfold OwnR at hrow
  rw [show (I ++ [x]).length = n + 1 by rw [hn]; simp] at hrow
  obtain ⟨g, cap, e⟩ := ownsRow_succ hrow
  simp only [Value.slice.injEq, true_and] at e
  obtain ⟨rfl, rfl⟩ := e
  have hcell : w.cell? ⟨g, n * 2 + 1, none⟩ = some (.int .i64 x.2) := by
    rw [hrow.cellAt (n * 2 + 1) (by omega)]
    have h := (encs_at (I ++ [x]) n (by rw [hn]; simp)).2
    rw [h]
    have e : gr (I ++ [x]) n = x := by rw [gr_get (by rw [hn]; simp)]; simp [hn]
    rw [e]
  have hfz := hrow.frozenAt (n * 2 + 1)
  have hst := hrow.stored (n * 2 + 1) (.int .i64 hi)
  rw [hn, enc_set, ← hn] at hst
  obtain ⟨X, hX⟩ : ∃ X, X = (I ++ [x]).flatMap encR := ⟨_, rfl⟩
  rw [← hX] at hrow
  have HXX := Lib.hid hX
  clear hX
  have HRO := Lib.hid hrow
  have HB := Lib.hid hB
  have HST := Lib.hid hst
  have HN := Lib.hid hn
  have HL := Lib.hid hl
  have hnI : (n : Int) ≤ 100000000 := by omega
  obtain ⟨x1, x2⟩ := x
  have hx0 := hx.1
  have hx1 := hx.2
  simp only at hx0 hx1 hcell
  have hgB := (hrow.lt g rfl).1
  have HGB := Lib.hid hgB
  clear hrow ho hB hst hn hl hx hgB
  by_cases hlo : x2 + 1 = lo
  · have hb : (x2 + 1 == lo) = true := by simpa using hlo
    have HLO := Lib.hid hlo
    clear hlo
    go_enter Tryz.func106, Tryz.ntmps106
    go_wp2
    go_ret
    rw [addR_snoc, if_pos HLO.out]
    refine addPost_mk (by rw [HN.out]; simp) ?_ ((Below.refl B w).setCell (p := ⟨g, n * 2 + 1, none⟩) HGB.out _)
    have h := HST.out.1
    unfold OwnR
    rw [show (I ++ [(x1, hi)]).length = n + 1 by rw [HN.out]; simp]
    exact h
  · have hb : (x2 + 1 == lo) = false := by simpa using hlo
    have HLO := Lib.hid hlo
    clear hlo
    go_enter Tryz.func106, Tryz.ntmps106
    go_wp2_with (at_builtin; refine wpList_append_own _ rfl _ _ 28 rfl B 41 i0 (.agg #[.int .i64 0, .int .i64 0]) 2 16 Tryz.underlying28 hinf hz0 hz1 hz2 rfl (by decide) (.slice (some ⟨g, 0, none⟩) (n + 1) c) (n + 1) _ rfl (HRO.out.alloc _) ⟨w.heap.size, 0, none⟩ 1 1 [.int .i64 lo, .int .i64 hi] rfl rfl (cells_two_new _ _ _ _) (by simp [Value.oneCell']) (by have := HL.out; have := HN.out; simp only [maxLen]; omega) (by have := HL.out; have := HN.out; omega) (by have := HB.out; simp; omega) ?_)
    intro v5 w5 hown5 hgrow5 _
    obtain ⟨g', cap', rfl⟩ := ownsRow_succ hown5
    rw [HXX.out] at hown5
    have e1 : (I ++ [(x1, x2)]).length = n + 1 := by rw [HN.out]; simp
    have hO5 : OwnR w5 B (.slice (some ⟨g', 0, none⟩) (n + 1 + 1) cap') (I ++ [(x1, x2)] ++ [(lo, hi)]) := ownR_appended (r := (lo, hi)) e1 hown5
    have hb5 : Below B w w5 := ((Below.refl B w).alloc HB.out _).grown hgrow5 (by have := HB.out; simp; omega) (fun k hk => (HRO.out.lt k hk).1)
    have HO5 := Lib.hid hO5
    have HB5 := Lib.hid hb5
    have HE1 := Lib.hid e1
    clear hown5 hgrow5 hO5 hb5 e1
    go_wp2
    go_ret
    rw [addR_snoc, if_neg HLO.out]
    exact addPost_mk (by rw [List.length_append, HE1.out]; rfl) HO5.out HB5.out
end Go.Proofs.YtgcgclmfjlecaaaGreat
