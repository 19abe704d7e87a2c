/- The walks of the document's Join and Of. -/
/- The walk of LentRangeRows: rows of ranges handed in, each with marks behind its end. -/
import Derived.Test.YtglgfpapackcdaaGreatRza
import Derived.Deep.RegionLaw

namespace Go.Proofs.YtglgfpapackcdaaGreat
open Go.RowKit Tnr

theorem rows_flatten (xs : List SV) : (rowsOf xs).flatten = flat xs := by
  unfold rowsOf flat
  rw [List.flatMap_def]
theorem rows_length (xs : List SV) : (rowsOf xs).length = xs.length := by simp [rowsOf]

set_option maxRecDepth 100000 in
theorem rjoin_any (p : Option Addr) (c n : Nat) (xs : List SV) (l : List R) (w : World) (hl : l = cn (flat xs)) (hn : n = xs.length) (hx : SlS w p xs) (hf : (flat xs).length ≤ 10000000) (hnm : n ≤ 100000000) :
    Calls Tryz.prog 50 #[.slice p n c] w (WherePost l w) := by
  have HW := Lib.hid (where_any p c n xs 1 n w l hn hx hf hnm (by omega) hnm (by rw [hl]; exact cn_right _) (fun d _ _ => by
    rw [hl, cn_has, many_pos, rows_flatten]
    constructor
    · exact fun h => ⟨h, by have := many_le (rowsOf xs) d; rw [rows_length] at this; omega⟩
    · exact fun h => h.1))
  have hnI : (n : Int) ≤ 100000000 := by omega
  clear hl hn hx hf hnm
  go_enter Tryz.func50, Tryz.ntmps50
  go_wp2_with (go_at_call 82; refine HW.out.mono ?_; rintro e w5 ⟨q5, d5, rfl, ho5, hb5⟩; have HO5 := Lib.hid ho5; have HB5 := Lib.hid hb5; clear ho5 hb5)
  go_ret
  exact ⟨q5, d5, rfl, HO5.out, HB5.out⟩

theorem where_back {w W : World} {l : List R} {e : Ending} {w' : World} (hb : Below w.heap.size w W) (h : WherePost l W e w') : WherePost l w e w' := by
  obtain ⟨q, d, h1, h2, h3⟩ := h
  exact ⟨q, d, h1, ownR_mono h2 hb.size, bl_trans hb h3⟩
theorem rjoin_one (p : Option Addr) (c m : Nat) (l r : List R) (W : World) (hr : r = cn l) (hm : m = l.length) (hp : SlR W p l) (hl : l.length ≤ 10000000) :
    Calls Tryz.prog 50 #[.slice (some ⟨W.heap.size, 0, none⟩) 1 1] (W.alloc (.cells #[.slice p m c] 25)) (WherePost r W) := by
  subst hm
  refine (rjoin_any (some ⟨W.heap.size, 0, none⟩) 1 1 [(p, c, l)] r _ (by rw [flat_one]; exact hr) rfl (sls_new (fun x hx => by simp only [List.mem_singleton] at hx; subst hx; exact hp) rfl) (by rw [flat_one]; exact hl) (by simp)).mono ?_
  exact fun _ _ h => where_back (bl_alloc _ _) h

set_option maxHeartbeats 3200000 in
set_option maxRecDepth 100000 in
theorem rof_any (p : Option Addr) (c m : Nat) (ps : List Int) (r : List R) (w : World) (hr : r = cn (pts ps)) (hm : m = ps.length) (hp : SlI w p ps) (hl : ps.length ≤ 3000000) :
    Calls Tryz.prog 52 #[.slice p m c] w (WherePost r w) := by
  obtain ⟨i0, hinf, hz0, hz1, hz2⟩ := info_parts info_range
  have HP := Lib.hid hp
  have HN := Lib.hid hm
  have HR := Lib.hid hr
  have hmI : (m : Int) ≤ 3000000 := by omega
  clear hp hm hl hr
  go_enter Tryz.func52, Tryz.ntmps52
  go_wp2
  go_loopw [3, 4] (fun lv iv wr => ∃ (k : Nat) (L : List R) (q : Option Addr) (cq : Nat), k ≤ m ∧ iv = .int .i64 (k : Nat) ∧ lv = .slice q k cq ∧ Hid (L = pts (ps.take k)) ∧ Hid (k = L.length) ∧ Hid (OwnR wr w.heap.size (.slice q k cq) L) ∧ Hid (Below w.heap.size w wr)) (fun _ iv _ => m - (intOf iv).toNat)
  case atStart => exact ⟨0, [], none, 0, Nat.zero_le _, rfl, rfl, rfl, rfl, ownR_nil _ _, Below.refl _ _⟩
  case round =>
    obtain ⟨k, L, q, cq, hk, rfl, rfl, HE, HK, HO, HB⟩ := hrel
    rename World => wr
    by_cases hkm : k < m
    · have hkp : k < ps.length := by have := HN.out; omega
      obtain ⟨b, o, rfl, hc⟩ := sli_at (HP.out.below HB.out) hkp
      have hkI : (k : Int) < m := by omega
      obtain ⟨x, hx⟩ : ∃ x, x = gi ps k := ⟨_, rfl⟩
      rw [← hx] at hc
      have HE2 : Hid (L ++ [(x, x)] = pts (ps.take (k + 1))) := by
        show L ++ [(x, x)] = _
        rw [take_gi hkp, HE.out, hx]; simp [pts]
      have hrow := ownR_rowN HO.out HK.out
      have HRO := Lib.hid hrow
      have HWS := Lib.hid HB.out.size
      have HL := Lib.hid (show k ≤ 3000000 by omega)
      clear hx hrow hkp
      go_wp2
      go_region_law ((refine step_append_lies _ (by rfl) _ _ _ (by rfl) w.heap.size 24 i0 (.agg #[.int .i64 0, .int .i64 0]) 2 16 Tryz.underlying25 hinf hz0 hz1 hz2 rfl (by omega) (.slice q k cq) k _ (by rfl) ((HRO.out.alloc _).drew) ⟨wr.heap.size, 0, none⟩ 1 1 [.int .i64 x, .int .i64 x] (by rfl) (by rfl) (World.news_of_block (cs := #[.int .i64 x, .int .i64 x]) (t := 24) (fr := (0, 0)) (heap_alloc_new wr _)) (by simp [Value.oneCell']) (by omega) (by have := HL.out; simp only [maxLen]; omega) (by have := HL.out; omega) (by have := HWS.out; simp; omega) (wr.heap.size + 1) (by simp) ?_; intro gg cap w1 hown1 hgrow hat hlt))
      all_goals
        have hO5 : OwnR w1 w.heap.size (.slice (some ⟨gg, 0, none⟩) (k + 1) cap) (L ++ [(x, x)]) := ownR_appended (r := (x, x)) HK.out.symm hown1
        have hb5 : Below w.heap.size w w1 := (HB.out.alloc HB.out.size _).drew.grown hgrow (by have := HWS.out; simp; omega) (fun k hk => (HRO.out.lt k hk).1)
        have HO5 := Lib.hid hO5
        have HB5 := Lib.hid hb5
        have HK5 : Hid (k + 1 = (L ++ [(x, x)]).length) := by show _ = _; rw [List.length_append, ← HK.out]; rfl
        clear hown1 hgrow hat hlt hO5 hb5
        go_wp2
        go_roundw
      case rel => exact ⟨k + 1, _, _, cap, by omega, by go_num, rfl, HE2.out, HK5.out, HO5.out, HB5.out⟩
      case measure => simp [intOf]; omega
      case rel => exact ⟨k + 1, _, _, cap, by omega, by go_num, rfl, HE2.out, HK5.out, HO5.out, HB5.out⟩
      case measure => simp [intOf]; omega
    · have hkI : (m : Int) ≤ k := by omega
      have hL : L = pts ps := by rw [HE.out, List.take_of_length_le (by have := HN.out; omega)]
      have hlen : L.length ≤ 10000000 := by have := HK.out; omega
      obtain ⟨q', c', e', _, _, _, hsl, _⟩ := ownR_form HO.out
      simp only [Value.slice.injEq] at e'
      obtain ⟨rfl, hk2, rfl⟩ := e'
      clear hk2
      have HJ := Lib.hid (rjoin_one q cq k L r wr (by rw [hL]; exact HR.out) HK.out hsl hlen)
      clear hL hlen hsl
      go_wp2_with (go_at_call 50; refine HJ.out.mono ?_; rintro e w5 ⟨q5, d5, rfl, ho5, hb5⟩; have HO5 := Lib.hid ho5; have HB5 := Lib.hid hb5; clear ho5 hb5)
      go_ret
      exact where_back HB.out ⟨q5, d5, rfl, HO5.out, HB5.out⟩
end Go.Proofs.YtglgfpapackcdaaGreat


namespace Go.Proofs.YtglgfpapackcdaaGreat
open Go.RowKit Tnr

theorem info_rows : (Tryz.prog.info? 25).map (fun i => (i.zero, i.size, i.bytes)) = some (some (.slice none 0 0), 1, 24) := by kernel_rfl
def LentOf (w : World) (B : Nat) (x y : SV) : Prop :=
  y.2.2 = x.2.2 ∧ ∃ g, y.1 = some ⟨g, 0, none⟩ ∧ x.2.2.length + 12 ≤ y.2.1 ∧ y.2.1 ≤ 9223372036854775807 ∧ OwnR w B (.slice (some ⟨g, 0, none⟩) (x.2.2.length + 12) y.2.1) (x.2.2 ++ marksR 12)
theorem LentOf.below {w w' : World} {B : Nat} {x y : SV} (h : LentOf w B x y) (hb : Below w.heap.size w w') : LentOf w' B x y := by
  obtain ⟨h1, g, h2, h3, h4, h5⟩ := h
  exact ⟨h1, g, h2, h3, h4, ownR_below h5 hb⟩
theorem ownR_beside {w w' : World} {B no d : Nat} {q : Option Addr} {v : Value} {l : List R} {cs : List Value} (h : OwnR w B v l) (ho : w.ownsRow B 25 1 (.slice q no d) no cs) (hg : w.grownBy w' (Value.slice q no d).ownBlock) : OwnR w' B v l := by
  refine World.ownsRow.kept h hg ?_
  rcases ho.2 with ⟨e2, _⟩ | ⟨g2, cap, cur, e2, _, hh, _⟩
  · rw [e2]
    rcases hv : v.ownBlock with _ | g
    · exact .inl rfl
    · exact .inr (by simp [Value.ownBlock])
  · rw [e2]
    exact .inr (ownR_ne h hh (by decide))
theorem LentOf.beside {w w' : World} {B no d : Nat} {q : Option Addr} {x y : SV} {cs : List Value} (h : LentOf w B x y) (ho : w.ownsRow B 25 1 (.slice q no d) no cs) (hg : w.grownBy w' (Value.slice q no d).ownBlock) : LentOf w' B x y := by
  obtain ⟨h1, g, h2, h3, h4, h5⟩ := h
  exact ⟨h1, g, h2, h3, h4, ownR_beside h5 ho hg⟩
theorem rows_below {w w' : World} {B no d : Nat} {q : Option Addr} {cs : List Value} (h : w.ownsRow B 25 1 (.slice q no d) no cs) (hb : Below w.heap.size w w') : w'.ownsRow B 25 1 (.slice q no d) no cs := by
  obtain ⟨h1, h2⟩ := h
  refine ⟨h1, ?_⟩
  rcases h2 with h2 | ⟨g, cap, cur, e, hg, hh, r⟩
  · exact .inl h2
  · exact .inr ⟨g, cap, cur, e, hg, by rw [hb.block g (lt_of_block hh)]; exact hh, r⟩
theorem gs_snoc_lt {ys : List SV} {y : SV} {i : Nat} (h : i < ys.length) : gs (ys ++ [y]) i = gs ys i := by
  rw [gs_get (by rw [List.length_append]; omega), gs_get h, List.getElem_append_left h]
theorem gs_snoc_eq {ys : List SV} {y : SV} : gs (ys ++ [y]) ys.length = y := by
  rw [gs_get (by rw [List.length_append]; simp)]; simp

def LentRowsPost (n : Nat) (xs : List SV) (w : World) (e : Ending) (w' : World) : Prop :=
  ∃ q d ys, e = .returned (.slice q n d) ∧ n = ys.length ∧ w'.ownsRow w.heap.size 25 1 (.slice q n d) n (ys.map svV) ∧ (∀ i, i < n → LentOf w' w.heap.size (gs xs i) (gs ys i)) ∧ Below w.heap.size w w'

set_option maxHeartbeats 3200000 in
set_option maxRecDepth 100000 in
theorem lentRows_any (p : Option Addr) (c n : Nat) (xs : List SV) (w : World) (hn : n = xs.length) (hx : SlS w p xs) (hl : (flat xs).length ≤ 3000000) (hnm : n ≤ 3000000) (hnil : ∀ i, i < n → (gs xs i).1 = none → (gs xs i).2.1 = 0) :
    Calls Tryz.prog 13 #[.slice p n c] w (LentRowsPost n xs w) := by
  obtain ⟨i0, hinf, hz0, hz1, hz2⟩ := info_parts info_rows
  have HX := Lib.hid hx
  have HL := Lib.hid hl
  have HNIL := Lib.hid hnil
  have hnI : (n : Int) ≤ 3000000 := by omega
  have HN := Lib.hid hn
  clear hx hl hn hnm hnil
  go_enter Tryz.func13, Tryz.ntmps13
  go_wp2
  go_loopw [3, 4] (fun ov iv wr => ∃ (k : Nat) (q : Option Addr) (d : Nat) (ys : List SV), k ≤ n ∧ ov = .slice q k d ∧ iv = .int .i64 (k : Nat) ∧ Hid (k = ys.length) ∧ Hid (wr.ownsRow w.heap.size 25 1 (.slice q k d) k (ys.map svV)) ∧ Hid (∀ i, i < k → LentOf wr w.heap.size (gs xs i) (gs ys i)) ∧ Hid (Below w.heap.size w wr)) (fun _ iv _ => n - (intOf iv).toNat)
  case atStart => exact ⟨0, none, 0, [], Nat.zero_le _, rfl, rfl, rfl, World.ownsRow_nil w _ _ _, fun i hi => by omega, Below.refl _ _⟩
  case round =>
    obtain ⟨k, q, d, ys, hk, rfl, rfl, HK, HO, HLT, HB⟩ := hrel
    rename World => wr
    by_cases hkn : k < n
    · have hkx : k < xs.length := by have := HN.out; omega
      obtain ⟨bp, op, rfl, hcell⟩ := sls_at (HX.out.below HB.out) hkx
      have hkI : (k : Int) < n := by omega
      obtain ⟨pa, ca, la, hga⟩ : ∃ pa ca la, gs xs k = (pa, ca, la) := ⟨_, _, _, rfl⟩
      have HA : Hid (SlR wr pa la) := by
        have h := HX.out.1 (gs xs k) (by rw [gs_get hkx]; exact List.getElem_mem hkx)
        rw [hga] at h
        exact h.below HB.out
      have hLA : la.length ≤ 3000000 := by
        have h1 := flat_one_le hkx
        rw [hga] at h1
        have h2 := HL.out
        simp only at h1
        omega
      have hni := HNIL.out k hkn
      rw [hga] at hni hcell
      simp only at hcell hni
      obtain ⟨m, hm⟩ : ∃ m, m = la.length := ⟨_, rfl⟩
      rw [← hm] at hcell
      have HLEN := Lib.hid (lentR_any pa ca m la wr hm HA.out hLA hni)
      have HGA := Lib.hid hga
      have HM := Lib.hid hm
      have HKN := Lib.hid hkn
      have HWS := Lib.hid HB.out.size
      clear hga hm hkx hLA hni hkn
      go_wp2_with (first
        | (go_at_call 44; refine HLEN.out.mono ?_; rintro e w6 ⟨g6, c6, rfl, h61, h62, ho6, hb6⟩; have HC6 := Lib.hid (And.intro h61 h62); have HO6 := Lib.hid (ownR_mono ho6 HWS.out); have HR6 := Lib.hid (rows_below HO.out hb6); have HLT6 := Lib.hid (fun i hi => (HLT.out i hi).below hb6); have HB6 := Lib.hid (bl_trans HB.out hb6); clear h61 h62 ho6 hb6)
        | (at_builtin; refine wpList_append_own _ rfl _ _ 26 rfl w.heap.size 25 i0 (.slice none 0 0) 1 24 Tryz.underlying26 hinf hz0 hz1 hz2 rfl (by decide) (.slice q k d) k _ rfl (HR6.out.alloc _) ⟨w6.heap.size, 0, none⟩ 1 1 [.slice (some ⟨g6, 0, none⟩) m c6] rfl rfl (cells_one_new _ _ _) (by simp [Value.oneCell']) ?c3 ?c4 ?c5 ?_))
      case c3 => simp only [maxLen]; omega
      case c4 => omega
      case c5 => have := HB6.out.size; simp; omega
      intro v5 w5 hown5 hgrow5 _
      obtain ⟨g5, cap5, rfl⟩ := ownsRow_succ hown5
      have hsz : w.heap.size ≤ w6.heap.size := HB6.out.size
      have hb5 : Below w.heap.size w w5 := (HB6.out.alloc HB6.out.size _).grown hgrow5 (by simp; omega) (fun k hk => (HR6.out.lt k hk).1)
      have hO5 : w5.ownsRow w.heap.size 25 1 (.slice (some ⟨g5, 0, none⟩) (k + 1) cap5) (k + 1) ((ys ++ [((some ⟨g6, 0, none⟩, c6, la) : SV)]).map svV) := by
        rw [List.map_append]
        have e : ([((some ⟨g6, 0, none⟩, c6, la) : SV)] : List SV).map svV = [.slice (some ⟨g6, 0, none⟩) m c6] := by rw [HM.out]; rfl
        rw [e]
        exact hown5
      have hLT5 : ∀ i, i < k + 1 → LentOf w5 w.heap.size (gs xs i) (gs (ys ++ [((some ⟨g6, 0, none⟩, c6, la) : SV)]) i) := by
        intro i hi
        have hkl := HK.out
        refine LentOf.beside (w := w6.alloc (.cells #[.slice (some ⟨g6, 0, none⟩) m c6] 25)) ?_ (HR6.out.alloc _) hgrow5
        refine LentOf.below ?_ (bl_alloc _ _)
        by_cases hik : i < k
        · rw [gs_snoc_lt (by omega)]
          exact HLT6.out i hik
        · have : i = ys.length := by omega
          subst this
          rw [gs_snoc_eq, ← HK.out, HGA.out]
          refine ⟨rfl, g6, rfl, ?_, HC6.out.2, ?_⟩
          · show la.length + 12 ≤ c6
            rw [← HM.out]; exact HC6.out.1
          · show OwnR w6 w.heap.size (.slice (some ⟨g6, 0, none⟩) (la.length + 12) c6) (la ++ marksR 12)
            rw [← HM.out]; exact HO6.out
      have HO5 := Lib.hid hO5
      have HLT5 := Lib.hid hLT5
      have HB5 := Lib.hid hb5
      have HK5 : Hid (k + 1 = (ys ++ [((some ⟨g6, 0, none⟩, c6, la) : SV)]).length) := by show _ = _; rw [List.length_append, ← HK.out]; rfl
      clear hown5 hgrow5 hO5 hb5 hLT5 hsz
      go_wp2
      go_roundw
      case rel => exact ⟨k + 1, _, cap5, _, by have := HKN.out; omega, rfl, by go_num, HK5.out, HO5.out, HLT5.out, HB5.out⟩
      case measure => have := HKN.out; simp [intOf]; omega
    · have hkI : (n : Int) ≤ k := by omega
      obtain rfl : k = n := by omega
      go_wp2
      go_ret
      exact ⟨q, d, ys, rfl, HK.out, HO.out, HLT.out, HB.out⟩
theorem lentRows_sls {w : World} {B n d : Nat} {q : Option Addr} {xs ys : List SV} (hn : n = ys.length) (hx : n = xs.length) (ho : w.ownsRow B 25 1 (.slice q n d) n (ys.map svV)) (hl : ∀ i, i < n → LentOf w B (gs xs i) (gs ys i)) : SlS w q ys ∧ flat ys = flat xs := by
  have hy : ∀ i, i < n → (gs ys i).2.2 = (gs xs i).2.2 := fun i hi => (hl i hi).1
  refine ⟨⟨fun y hy' => ?_, ?_⟩, ?_⟩
  · obtain ⟨i, hi, rfl⟩ := List.mem_iff_getElem.1 hy'
    obtain ⟨h1, g, h2, _, _, h5⟩ := hl i (by omega)
    rw [gs_get hi] at h1 h2
    rw [h2, h1]
    exact lentR_sl h5
  · rcases ho.2 with ⟨e, h0⟩ | ⟨g, cap, cur, e, _, hh, _⟩
    · left
      exact List.eq_nil_of_length_eq_zero (by omega)
    · right
      simp only [Value.slice.injEq] at e
      obtain ⟨rfl, _, rfl⟩ := e
      refine ⟨g, 0, rfl, fun i hi => ?_⟩
      have := ho.cellAt i (by omega)
      rw [Nat.zero_add, this, gs_get hi]
      simp [svV, hi]
  · have e : ys.map (fun y => y.2.2) = xs.map (fun x => x.2.2) := by
      apply List.ext_getElem
      · simp; omega
      · intro i h1 h2
        rw [List.length_map] at h1 h2
        have := hy i (by omega)
        rw [gs_get h1, gs_get h2] at this
        simpa using this
    unfold flat
    rw [List.flatMap_def, List.flatMap_def, e]
end Go.Proofs.YtglgfpapackcdaaGreat

