/- The walks of Of; of the law's great, same, awake (the chapter's examples). -/
/- The walk of awake: the chapter's examples. -/
/- The walks of the document's Has, add. -/
import Derived.Test.YtglgfpapackcdaaGreatRl
import Derived.Test.YtglgfpapackcdaaGreatRt

namespace Go.Proofs.YtglgfpapackcdaaGreat
open Go.RowKit Tnr

def gi (l : List Int) (i : Nat) : Int := l.getD i 0
def SlI (w : World) (p : Option Addr) (l : List Int) : Prop :=
  l = [] ∨ ∃ b off, p = some ⟨b, off, none⟩ ∧ ∀ i, i < l.length → w.cell? ⟨b, off + i, none⟩ = some (.int .i64 (gi l i))
theorem SlI.below {w w' : World} {p : Option Addr} {l : List Int} (h : SlI w p l) (hb : Below w.heap.size w w') : SlI w' p l := by
  rcases h with h | ⟨b, off, h1, h2⟩
  · exact .inl h
  · exact .inr ⟨b, off, h1, fun i hi => by rw [hb.cell (World.block_lt_of_cell? w _ (h2 i hi))]; exact h2 i hi⟩
theorem sli_at {w : World} {p : Option Addr} {l : List Int} (h : SlI w p l) {k : Nat} (hk : k < l.length) : ∃ b off, p = some ⟨b, off, none⟩ ∧ w.cell? ⟨b, off + k, none⟩ = some (.int .i64 (gi l k)) := by
  rcases h with h | ⟨b, off, h1, h2⟩
  · rw [h] at hk; simp at hk
  · exact ⟨b, off, h1, h2 k hk⟩
theorem take_gi {l : List Int} {k : Nat} (h : k < l.length) : l.take (k + 1) = l.take k ++ [gi l k] := by
  unfold gi
  rw [List.take_add_one, List.getD_eq_getElem?_getD, List.getElem?_eq_getElem h]; rfl

set_option maxHeartbeats 1600000 in
set_option maxRecDepth 100000 in
theorem of_any (p : Option Addr) (c m : Nat) (ps : List Int) (r : List R) (w : World) (hr : r = cn (pts ps)) (hm : m = ps.length) (hp : SlI w p ps) (hl : ps.length ≤ 20000000) :
    Calls Tryz.prog 49 #[.slice p m c] w (Tells w r) := by
  obtain ⟨i0, hinf, hz0, hz1, hz2⟩ := info_parts info_range
  have HP := Lib.hid hp
  have HN := Lib.hid hm
  have HR := Lib.hid hr
  have hmI : (m : Int) ≤ 20000000 := by omega
  have HL := Lib.hid (show m ≤ 20000000 by omega)
  obtain ⟨B, hB⟩ : ∃ B, B = w.heap.size := ⟨_, rfl⟩
  have HB := Lib.hid hB
  clear hp hm hl hr hB
  go_enter Tryz.func49, Tryz.ntmps49
  go_wp2
  go_loopw [3, 8] (fun lv iv wr => ∃ (k : Nat) (L : List R) (q : Option Addr) (cq : Nat), k ≤ m ∧ iv = .int .i64 (k : Nat) ∧ lv = .slice q L.length cq ∧ Hid (L = pts (ps.take k)) ∧ Hid (L.length = k) ∧ Hid (OwnR wr B (.slice q L.length cq) L) ∧ Hid (Below B w wr)) (fun _ iv _ => m - (intOf iv).toNat)
  case atStart => exact ⟨0, [], none, 0, Nat.zero_le _, rfl, rfl, rfl, rfl, ownR_nil _ _, Below.refl _ _⟩
  case round =>
    obtain ⟨k, L, q, cq, hk, rfl, rfl, HE, HK, HO, HBL⟩ := hrel
    rename World => wr
    by_cases hkm : k < m
    · have hkp : k < ps.length := by have := HN.out; omega
      obtain ⟨b, o, rfl, hc⟩ := sli_at (HP.out.below (by rw [← HB.out]; exact HBL.out)) hkp
      have hkI : (k : Int) < m := by omega
      obtain ⟨x, hx⟩ : ∃ x, x = gi ps k := ⟨_, rfl⟩
      rw [← hx] at hc
      have HE2 : Hid (L ++ [(x, x)] = pts (ps.take (k + 1))) := by
        show L ++ [(x, x)] = _
        rw [take_gi hkp, HE.out, hx]; simp [pts]
      have hrow := HO.out
      unfold OwnR at hrow
      have HRO := Lib.hid hrow
      have HWS := Lib.hid (show B ≤ wr.heap.size by rw [HB.out]; exact (show Below w.heap.size w wr by rw [← HB.out]; exact HBL.out).size)
      have HKM := Lib.hid hkm
      clear hx hrow hkp
      go_wp2_with (at_builtin; refine wpList_append_own _ rfl _ _ 25 rfl B 24 i0 (.agg #[.int .i64 0, .int .i64 0]) 2 16 Tryz.underlying25 hinf hz0 hz1 hz2 rfl (by decide) (.slice q L.length cq) L.length _ rfl (HRO.out.alloc _) ⟨wr.heap.size, 0, none⟩ 1 1 [.int .i64 x, .int .i64 x] rfl rfl (cells_two_new _ _ _ _) (by simp [Value.oneCell']) ?c3 ?c4 ?c5 ?_)
      case c3 => have := HK.out; have := HL.out; simp only [maxLen]; omega
      case c4 => have := HK.out; have := HL.out; omega
      case c5 => have := HWS.out; simp; omega
      intro v5 w5 hown5 hgrow5 _
      have hO5 : OwnR w5 B v5 (L ++ [(x, x)]) := ownR_appended (r := (x, x)) rfl hown5
      have hb5 : Below B w w5 := (HBL.out.alloc HWS.out _).grown hgrow5 (by have := HWS.out; simp; omega) (fun k hk => (HRO.out.lt k hk).1)
      obtain ⟨p', c5, hs', _⟩ := ownR_form hO5
      subst hs'
      have HO5 := Lib.hid hO5
      have HB5 := Lib.hid hb5
      have HK5 : Hid ((L ++ [(x, x)]).length = k + 1) := by
        show (L ++ [(x, x)]).length = k + 1
        rw [List.length_append, HK.out]; rfl
      clear hown5 hgrow5 hO5 hb5
      generalize L ++ [(x, x)] = L5 at *
      go_wp2
      go_roundw
      case rel => exact ⟨k + 1, L5, p', c5, by have := HKM.out; omega, by go_num, rfl, HE2.out, HK5.out, HO5.out, HB5.out⟩
      case measure => have := HKM.out; simp [intOf]; omega
    · have hkI : (m : Int) ≤ k := by omega
      have hE : L = pts ps := by rw [HE.out, List.take_of_length_le (by have := HN.out; omega)]
      obtain ⟨q', cq', e5, _, _, _, hsl, _⟩ := ownR_form HO.out
      simp only [Value.slice.injEq, true_and] at e5
      obtain ⟨rfl, rfl⟩ := e5
      have ef : flat [(q, cq, L)] = L := flat_one q cq L
      have HJ := Lib.hid (join_any (some ⟨wr.heap.size, 0, none⟩) 1 1 [(q, cq, L)] r (wr.alloc (.cells #[.slice q L.length cq] 25)) (by rw [ef, hE, HR.out]) rfl (sls_new (fun x hx => by simp only [List.mem_singleton] at hx; subst hx; exact hsl) rfl) (by rw [ef]; have := HK.out; have := HL.out; omega) (by simp))
      obtain ⟨ll, hll⟩ : ∃ ll, ll = L.length := ⟨_, rfl⟩
      rw [← hll] at HJ ⊢
      have HWS := Lib.hid (show Below w.heap.size w wr by rw [← HB.out]; exact HBL.out)
      clear hE ef hsl hll
      go_wp2_with fail
      refine HJ.out.mono ?_
      rintro e w7 ⟨p7, c7, rfl, ho7, hb7⟩
      have HO7 := Lib.hid ho7
      have HB7 := Lib.hid hb7
      clear ho7 hb7
      go_wp2
      go_ret
      exact ⟨p7, c7, rfl, ownR_down HO7.out (by have := HWS.out.size; simp; omega), bl_trans HWS.out (bl_trans (bl_alloc _ _) HB7.out)⟩

end Go.Proofs.YtglgfpapackcdaaGreat


namespace Go.Proofs.YtglgfpapackcdaaGreat
open Go.RowKit Tnr

theorem sli_new (w : World) (l : List Int) (cs : Array Value) (T : TypeId) (h : cs = (l.map (Value.int .i64)).toArray) : SlI (w.alloc (.cells cs T)) (some ⟨w.heap.size, 0, none⟩) l := by
  refine .inr ⟨w.heap.size, 0, rfl, fun i hi => ?_⟩
  rw [Nat.zero_add, World.cell?_alloc_at _ _ _ _ rfl, h]
  unfold gi
  rw [List.getD_eq_getElem?_getD, List.getElem?_eq_getElem hi]
  simp [hi]
theorem tells_sl {w w' : World} {l : List R} {p : Option Addr} {c : Nat} (h : OwnR w' w.heap.size (.slice p l.length c) l) : SlR w' p l := by
  obtain ⟨p', c', e, _, _, _, hs, _⟩ := ownR_form h
  simp only [Value.slice.injEq, true_and] at e
  rw [e.1]; exact hs
end Go.Proofs.YtglgfpapackcdaaGreat


namespace Go.Proofs.YtglgfpapackcdaaGreat
open Go.RowKit Tnr

set_option maxHeartbeats 800000 in
set_option maxRecDepth 100000 in
theorem rhas_any (p : Option Addr) (cp m : Nat) (l : List R) (c : Int) (w : World) (hm : m = l.length) (hp : SlR w p l) (hl : l.length ≤ 4611686018427387904) :
    Calls Tryz.prog 51 #[.slice p m cp, .int .i64 c] w fun e w' => e = .returned (.bool (hasB l c)) ∧ w = w' := by
  have HP := Lib.hid hp
  have hnI : (m : Int) ≤ 4611686018427387904 := by omega
  have HN := Lib.hid hm
  clear hp hm hl
  go_enter Tryz.func51, Tryz.ntmps51
  go_wp2
  go_loop [5] (fun iv => ∃ (k : Nat), k ≤ m ∧ iv = .int .i64 (k : Nat) ∧ Hid (∀ j, j < k → ¬ ((gr l j).1 ≤ c ∧ c ≤ (gr l j).2 ∧ 0 ≤ c ∧ c ≤ 1114111))) (fun iv => m - (intOf iv).toNat)
  case atStart => exact ⟨0, Nat.zero_le _, rfl, fun j hj => by omega⟩
  case round =>
    obtain ⟨k, hk, rfl, HE⟩ := hrel
    by_cases hkn : k < m
    · obtain ⟨b, o, rfl, hc1, hc2⟩ := slr_at HP.out (show k < l.length by have := HN.out; omega)
      have hkI : (k : Int) < m := by omega
      obtain ⟨lo, hlo⟩ : ∃ x, x = (gr l k).1 := ⟨_, rfl⟩
      obtain ⟨hi, hhi⟩ : ∃ x, x = (gr l k).2 := ⟨_, rfl⟩
      rw [← hlo] at hc1
      rw [← hhi] at hc2
      have HLO := Lib.hid hlo
      have HHI := Lib.hid hhi
      clear hlo hhi
      by_cases h1 : lo ≤ c
      · by_cases h2 : c ≤ hi
        · by_cases h3 : 0 ≤ c
          · by_cases h4 : c ≤ 1114111
            · go_wp2
              go_ret
              refine ⟨ret_bool ?_, rfl⟩
              unfold hasB
              rw [decide_eq_true]
              exact ⟨h3, h4, gr l k, gr_mem (by have := HN.out; omega), by rw [← HLO.out]; exact h1, by rw [← HHI.out]; exact h2⟩
            · have h4' : 1114111 < c := by omega
              go_wp2
              go_round
              case rel =>
                refine ⟨k + 1, by omega, by go_num, ?_⟩
                intro j hj
                by_cases e : j = k
                · subst e; rw [← HLO.out, ← HHI.out]; omega
                · exact HE.out j (by omega)
              case measure => simp [intOf]; omega
          · have h3' : c < 0 := by omega
            go_wp2
            go_round
            case rel =>
              refine ⟨k + 1, by omega, by go_num, ?_⟩
              intro j hj
              by_cases e : j = k
              · subst e; rw [← HLO.out, ← HHI.out]; omega
              · exact HE.out j (by omega)
            case measure => simp [intOf]; omega
        · have h2' : hi < c := by omega
          go_wp2
          go_round
          case rel =>
            refine ⟨k + 1, by omega, by go_num, ?_⟩
            intro j hj
            by_cases e : j = k
            · subst e; rw [← HLO.out, ← HHI.out]; omega
            · exact HE.out j (by omega)
          case measure => simp [intOf]; omega
      · have h1' : c < lo := by omega
        go_wp2
        go_round
        case rel =>
          refine ⟨k + 1, by omega, by go_num, ?_⟩
          intro j hj
          by_cases e : j = k
          · subst e; rw [← HLO.out, ← HHI.out]; omega
          · exact HE.out j (by omega)
        case measure => simp [intOf]; omega
    · have hkI : (m : Int) ≤ k := by omega
      go_wp2
      go_ret
      refine ⟨ret_bool ?_, rfl⟩
      unfold hasB
      rw [decide_eq_false]
      rintro ⟨h3, h4, r, hr, h5, h6⟩
      obtain ⟨j, hj, rfl⟩ := mem_gr hr
      exact HE.out j (by have := HN.out; omega) ⟨h5, h6, h3, h4⟩

theorem addR_length (L : List R) (lo hi : Int) : (addR L lo hi).length ≤ L.length + 1 := by
  rcases snoc_or L with rfl | ⟨i, x, rfl⟩
  · rw [addR_nil]; simp
  · rw [addR_snoc]; split <;> simp
theorem enc_set (I : List R) (x : R) (hi : Int) : ((I ++ [x]).flatMap encR).set (I.length * 2 + 1) (.int .i64 hi) = (I ++ [(x.1, hi)]).flatMap encR := by
  rw [List.flatMap_append, List.flatMap_append]
  have hl := encs_length I
  rw [← hl, List.set_append_right _ _ (by omega), Nat.add_sub_cancel_left]
  rfl
def AddPost (B : Nat) (w : World) (L : List R) (e : Ending) (w' : World) : Prop := ∃ q d, e = .returned (.slice q L.length d) ∧ OwnR w' B (.slice q L.length d) L ∧ Below B w w'
theorem addPost_mk {B : Nat} {w w' : World} {L : List R} {q : Option Addr} {n d : Nat} (hn : n = L.length) (ho : OwnR w' B (.slice q n d) L) (hb : Below B w w') : AddPost B w L (.returned (.slice q n d)) w' := by
  subst hn
  exact ⟨q, d, rfl, ho, hb⟩

set_option maxHeartbeats 800000 in
set_option maxRecDepth 100000 in
theorem radd_nil (p : Option Addr) (c B : Nat) (lo hi : Int) (w : World) (ho : OwnR w B (.slice p 0 c) []) (hB : B ≤ w.heap.size) :
    Calls Tryz.prog 127 #[.slice p 0 c, .int .i64 lo, .int .i64 hi] w (AddPost B w (addR [] lo hi)) := by
  obtain ⟨i0, hinf, hz0, hz1, hz2⟩ := info_parts info_range
  have hrow := ho
  unfold OwnR at hrow
  have HRO := Lib.hid hrow
  have HB := Lib.hid hB
  clear hrow ho hB
  go_enter Tryz.func127, Tryz.ntmps127
  go_wp2_with (at_builtin; refine wpList_append_own _ rfl _ _ 25 rfl B 24 i0 (.agg #[.int .i64 0, .int .i64 0]) 2 16 Tryz.underlying25 hinf hz0 hz1 hz2 rfl (by decide) (.slice p 0 c) 0 _ rfl (HRO.out.alloc _) ⟨w.heap.size, 0, none⟩ 1 1 [.int .i64 lo, .int .i64 hi] rfl rfl (cells_two_new _ _ _ _) (by simp [Value.oneCell']) (by simp only [maxLen]; omega) (by omega) (by have := HB.out; simp; omega) ?_)
  intro v5 w5 hown5 hgrow5 _
  obtain ⟨g', cap', rfl⟩ := ownsRow_succ hown5
  have hO5 : OwnR w5 B (.slice (some ⟨g', 0, none⟩) (0 + 1) cap') [(lo, hi)] := ownR_appended (l := []) (r := (lo, hi)) rfl hown5
  have hb5 : Below B w w5 := ((Below.refl B w).alloc HB.out _).grown hgrow5 (by have := HB.out; simp; omega) (fun k hk => (HRO.out.lt k hk).1)
  have HO5 := Lib.hid hO5
  have HB5 := Lib.hid hb5
  clear hown5 hgrow5 hO5 hb5
  go_wp2
  go_ret
  rw [addR_nil]
  exact addPost_mk rfl HO5.out HB5.out

set_option maxHeartbeats 800000 in
set_option maxRecDepth 100000 in
theorem radd_snoc (p : Option Addr) (c B n : Nat) (I : List R) (x : R) (lo hi : Int) (w : World) (hn : n = I.length) (ho : OwnR w B (.slice p (n + 1) c) (I ++ [x])) (hB : B ≤ w.heap.size) (hl : I.length ≤ 100000000) (hx : 0 ≤ x.2 ∧ x.2 ≤ 1114111) :
    Calls Tryz.prog 127 #[.slice p ((n + 1 : Nat)) c, .int .i64 lo, .int .i64 hi] w (AddPost B w (addR (I ++ [x]) lo hi)) := by
  obtain ⟨i0, hinf, hz0, hz1, hz2⟩ := info_parts info_range
  have hrow := ho
  unfold OwnR at hrow
  rw [show (I ++ [x]).length = n + 1 by rw [hn]; simp] at hrow
  obtain ⟨g, cap, e⟩ := ownsRow_succ hrow
  simp only [Value.slice.injEq, true_and] at e
  obtain ⟨rfl, rfl⟩ := e
  have hcell : w.cell? ⟨g, n * 2 + 1, none⟩ = some (.int .i64 x.2) := by
    rw [hrow.cellAt (n * 2 + 1) (by omega)]
    have h := (encs_at (I ++ [x]) n (by rw [hn]; simp)).2
    rw [h]
    have e : gr (I ++ [x]) n = x := by rw [gr_get (by rw [hn]; simp)]; simp [hn]
    rw [e]
  have hfz := hrow.frozenAt (n * 2 + 1)
  have hst := hrow.stored (n * 2 + 1) (.int .i64 hi)
  rw [hn, enc_set, ← hn] at hst
  obtain ⟨X, hX⟩ : ∃ X, X = (I ++ [x]).flatMap encR := ⟨_, rfl⟩
  rw [← hX] at hrow
  have HXX := Lib.hid hX
  clear hX
  have HRO := Lib.hid hrow
  have HB := Lib.hid hB
  have HST := Lib.hid hst
  have HN := Lib.hid hn
  have HL := Lib.hid hl
  have hnI : (n : Int) ≤ 100000000 := by omega
  obtain ⟨x1, x2⟩ := x
  have hx0 := hx.1
  have hx1 := hx.2
  simp only at hx0 hx1 hcell
  have hgB := (hrow.lt g rfl).1
  have HGB := Lib.hid hgB
  clear hrow ho hB hst hn hl hx hgB
  by_cases hlo : x2 + 1 = lo
  · have hb : (x2 + 1 == lo) = true := by simpa using hlo
    have HLO := Lib.hid hlo
    clear hlo
    go_enter Tryz.func127, Tryz.ntmps127
    go_wp2
    go_ret
    rw [addR_snoc, if_pos HLO.out]
    refine addPost_mk (by rw [HN.out]; simp) ?_ ((Below.refl B w).setCell (p := ⟨g, n * 2 + 1, none⟩) HGB.out _)
    have h := HST.out.1
    unfold OwnR
    rw [show (I ++ [(x1, hi)]).length = n + 1 by rw [HN.out]; simp]
    exact h
  · have hb : (x2 + 1 == lo) = false := by simpa using hlo
    have HLO := Lib.hid hlo
    clear hlo
    go_enter Tryz.func127, Tryz.ntmps127
    go_wp2_with (at_builtin; refine wpList_append_own _ rfl _ _ 25 rfl B 24 i0 (.agg #[.int .i64 0, .int .i64 0]) 2 16 Tryz.underlying25 hinf hz0 hz1 hz2 rfl (by decide) (.slice (some ⟨g, 0, none⟩) (n + 1) c) (n + 1) _ rfl (HRO.out.alloc _) ⟨w.heap.size, 0, none⟩ 1 1 [.int .i64 lo, .int .i64 hi] rfl rfl (cells_two_new _ _ _ _) (by simp [Value.oneCell']) (by have := HL.out; have := HN.out; simp only [maxLen]; omega) (by have := HL.out; have := HN.out; omega) (by have := HB.out; simp; omega) ?_)
    intro v5 w5 hown5 hgrow5 _
    obtain ⟨g', cap', rfl⟩ := ownsRow_succ hown5
    rw [HXX.out] at hown5
    have e1 : (I ++ [(x1, x2)]).length = n + 1 := by rw [HN.out]; simp
    have hO5 : OwnR w5 B (.slice (some ⟨g', 0, none⟩) (n + 1 + 1) cap') (I ++ [(x1, x2)] ++ [(lo, hi)]) := ownR_appended (r := (lo, hi)) e1 hown5
    have hb5 : Below B w w5 := ((Below.refl B w).alloc HB.out _).grown hgrow5 (by have := HB.out; simp; omega) (fun k hk => (HRO.out.lt k hk).1)
    have HO5 := Lib.hid hO5
    have HB5 := Lib.hid hb5
    have HE1 := Lib.hid e1
    clear hown5 hgrow5 hO5 hb5 e1
    go_wp2
    go_ret
    rw [addR_snoc, if_neg HLO.out]
    exact addPost_mk (by rw [List.length_append, HE1.out]; rfl) HO5.out HB5.out
end Go.Proofs.YtglgfpapackcdaaGreat

