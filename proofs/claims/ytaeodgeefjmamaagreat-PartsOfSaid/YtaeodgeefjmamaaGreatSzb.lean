/- The walks of the document's Join and Of. -/
import Derived.Test.YtaeodgeefjmamaaGreatSza
import Derived.Deep.RegionLaw
namespace Go.Proofs.YtaeodgeefjmamaaGreat
open Go.RowKit Tnr

theorem rows_flatten (xs : List SV) : (rowsOf xs).flatten = flat xs := by
  unfold rowsOf flat
  rw [List.flatMap_def]
theorem rows_length (xs : List SV) : (rowsOf xs).length = xs.length := by simp [rowsOf]

set_option maxRecDepth 100000 in
theorem rjoin_any (p : Option Addr) (c n : Nat) (xs : List SV) (l : List R) (w : World) (hl : l = cn (flat xs)) (hn : n = xs.length) (hx : SlS w p xs) (hf : (flat xs).length ≤ 10000) (hnm : n ≤ 100000) :
    Calls Tryz.prog 22 #[.slice p n c] w (WherePost l w) := by
  have HW := Lib.hid (where_any p c n xs 1 n w l hn hx hf hnm (by omega) hnm (by rw [hl]; exact cn_right _) (fun d _ _ => by
    rw [hl, cn_has, many_pos, rows_flatten]
    constructor
    · exact fun h => ⟨h, by have := many_le (rowsOf xs) d; rw [rows_length] at this; omega⟩
    · exact fun h => h.1))
  have hnI : (n : Int) ≤ 100000 := by omega
  clear hl hn hx hf hnm
  go_enter Tryz.func22, Tryz.ntmps22
  go_wp2_with (go_at_call 39; refine HW.out.mono ?_; rintro e w5 ⟨q5, d5, rfl, ho5, hb5⟩; have HO5 := Lib.hid ho5; have HB5 := Lib.hid hb5; clear ho5 hb5)
  go_ret
  exact ⟨q5, d5, rfl, HO5.out, HB5.out⟩

theorem where_back {w W : World} {l : List R} {e : Ending} {w' : World} (hb : Below w.heap.size w W) (h : WherePost l W e w') : WherePost l w e w' := by
  obtain ⟨q, d, h1, h2, h3⟩ := h
  exact ⟨q, d, h1, ownR_mono h2 hb.size, bl_trans hb h3⟩
theorem rjoin_one (p : Option Addr) (c m : Nat) (l r : List R) (W : World) (hr : r = cn l) (hm : m = l.length) (hp : SlR W p l) (hl : l.length ≤ 10000) :
    Calls Tryz.prog 22 #[.slice (some ⟨W.heap.size, 0, none⟩) 1 1] (W.alloc (.cells #[.slice p m c] 36)) (WherePost r W) := by
  subst hm
  refine (rjoin_any (some ⟨W.heap.size, 0, none⟩) 1 1 [(p, c, l)] r _ (by rw [flat_one]; exact hr) rfl (sls_new (fun x hx => by simp only [List.mem_singleton] at hx; subst hx; exact hp) rfl) (by rw [flat_one]; exact hl) (by simp)).mono ?_
  exact fun _ _ h => where_back (bl_alloc _ _) h

set_option maxHeartbeats 3200000 in
set_option maxRecDepth 100000 in
theorem rof_any (p : Option Addr) (c m : Nat) (ps : List Int) (r : List R) (w : World) (hr : r = cn (pts ps)) (hm : m = ps.length) (hp : SlI w p ps) (hl : ps.length ≤ 3000) :
    Calls Tryz.prog 37 #[.slice p m c] w (WherePost r w) := by
  obtain ⟨i0, hinf, hz0, hz1, hz2⟩ := info_parts info_range
  have HP := Lib.hid hp
  have HN := Lib.hid hm
  have HR := Lib.hid hr
  have hmI : (m : Int) ≤ 3000 := by omega
  clear hp hm hl hr
  go_enter Tryz.func37, Tryz.ntmps37
  go_wp2
  go_loopw [3, 4] (fun lv iv wr => ∃ (k : Nat) (L : List R) (q : Option Addr) (cq : Nat), k ≤ m ∧ iv = .int .i64 (k : Nat) ∧ lv = .slice q k cq ∧ Hid (L = pts (ps.take k)) ∧ Hid (k = L.length) ∧ Hid (OwnR wr w.heap.size (.slice q k cq) L) ∧ Hid (Below w.heap.size w wr)) (fun _ iv _ => m - (intOf iv).toNat)
  case atStart => exact ⟨0, [], none, 0, Nat.zero_le _, rfl, rfl, rfl, rfl, ownR_nil _ _, Below.refl _ _⟩
  case round =>
    obtain ⟨k, L, q, cq, hk, rfl, rfl, HE, HK, HO, HB⟩ := hrel
    rename World => wr
    by_cases hkm : k < m
    · have hkp : k < ps.length := by have := HN.out; omega
      obtain ⟨b, o, rfl, hc⟩ := sli_at (HP.out.below HB.out) hkp
      have hkI : (k : Int) < m := by omega
      obtain ⟨x, hx⟩ : ∃ x, x = gi ps k := ⟨_, rfl⟩
      rw [← hx] at hc
      have HE2 : Hid (L ++ [(x, x)] = pts (ps.take (k + 1))) := by
        show L ++ [(x, x)] = _
        rw [take_gi hkp, HE.out, hx]; simp [pts]
      have hrow := ownR_rowN HO.out HK.out
      have HRO := Lib.hid hrow
      have HWS := Lib.hid HB.out.size
      have HL := Lib.hid (show k ≤ 3000 by omega)
      clear hx hrow hkp
      go_wp2
      go_region_law ((refine step_append_lies _ (by rfl) _ _ _ (by rfl) w.heap.size 35 i0 (.agg #[.int .i64 0, .int .i64 0]) 2 16 Tryz.underlying36 hinf hz0 hz1 hz2 rfl (by omega) (.slice q k cq) k _ (by rfl) ((HRO.out.alloc _).drew) ⟨wr.heap.size, 0, none⟩ 1 1 [.int .i64 x, .int .i64 x] (by rfl) (by rfl) (World.news_of_block (cs := #[.int .i64 x, .int .i64 x]) (t := 35) (fr := (0, 0)) (heap_alloc_new wr _)) (by simp [Value.oneCell']) (by omega) (by have := HL.out; simp only [maxLen]; omega) (by have := HL.out; omega) (by have := HWS.out; simp; omega) (wr.heap.size + 1) (by simp) ?_; intro gg cap w1 hown1 hgrow hat hlt))
      all_goals
        have hO5 : OwnR w1 w.heap.size (.slice (some ⟨gg, 0, none⟩) (k + 1) cap) (L ++ [(x, x)]) := ownR_appended (r := (x, x)) HK.out.symm hown1
        have hb5 : Below w.heap.size w w1 := (HB.out.alloc HB.out.size _).drew.grown hgrow (by have := HWS.out; simp; omega) (fun k hk => (HRO.out.lt k hk).1)
        have HO5 := Lib.hid hO5
        have HB5 := Lib.hid hb5
        have HK5 : Hid (k + 1 = (L ++ [(x, x)]).length) := by show _ = _; rw [List.length_append, ← HK.out]; rfl
        clear hown1 hgrow hat hlt hO5 hb5
        go_wp2
        go_roundw
      case rel => exact ⟨k + 1, _, _, cap, by omega, by go_num, rfl, HE2.out, HK5.out, HO5.out, HB5.out⟩
      case measure => simp [intOf]; omega
      case rel => exact ⟨k + 1, _, _, cap, by omega, by go_num, rfl, HE2.out, HK5.out, HO5.out, HB5.out⟩
      case measure => simp [intOf]; omega
    · have hkI : (m : Int) ≤ k := by omega
      have hL : L = pts ps := by rw [HE.out, List.take_of_length_le (by have := HN.out; omega)]
      have hlen : L.length ≤ 10000 := by have := HK.out; omega
      obtain ⟨q', c', e', _, _, _, hsl, _⟩ := ownR_form HO.out
      simp only [Value.slice.injEq] at e'
      obtain ⟨rfl, hk2, rfl⟩ := e'
      clear hk2
      have HJ := Lib.hid (rjoin_one q cq k L r wr (by rw [hL]; exact HR.out) HK.out hsl hlen)
      clear hL hlen hsl
      go_wp2_with (go_at_call 22; refine HJ.out.mono ?_; rintro e w5 ⟨q5, d5, rfl, ho5, hb5⟩; have HO5 := Lib.hid ho5; have HB5 := Lib.hid hb5; clear ho5 hb5)
      go_ret
      exact where_back HB.out ⟨q5, d5, rfl, HO5.out, HB5.out⟩
end Go.Proofs.YtaeodgeefjmamaaGreat
