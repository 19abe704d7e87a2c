/- The walks of Of; of the law's great, same, awake (the chapter's examples). -/
import Derived.Test.YtgcgclmfjlecaaaGreatRl

namespace Go.Proofs.YtgcgclmfjlecaaaGreat
open Go.RowKit Tnr

def gi (l : List Int) (i : Nat) : Int := l.getD i 0
/-- a slice of ints: its cells. -/
def SlI (w : World) (p : Option Addr) (l : List Int) : Prop :=
  l = [] ∨ ∃ b off, p = some ⟨b, off, none⟩ ∧ ∀ i, i < l.length → w.cell? ⟨b, off + i, none⟩ = some (.int .i64 (gi l i))
theorem SlI.below {w w' : World} {p : Option Addr} {l : List Int} (h : SlI w p l) (hb : Below w.heap.size w w') : SlI w' p l := by
  rcases h with h | ⟨b, off, h1, h2⟩
  · exact .inl h
  · exact .inr ⟨b, off, h1, fun i hi => by rw [hb.cell (World.block_lt_of_cell? w _ (h2 i hi))]; exact h2 i hi⟩
theorem sli_at {w : World} {p : Option Addr} {l : List Int} (h : SlI w p l) {k : Nat} (hk : k < l.length) : ∃ b off, p = some ⟨b, off, none⟩ ∧ w.cell? ⟨b, off + k, none⟩ = some (.int .i64 (gi l k)) := by
  rcases h with h | ⟨b, off, h1, h2⟩
  · rw [h] at hk; simp at hk
  · exact ⟨b, off, h1, h2 k hk⟩
theorem take_gi {l : List Int} {k : Nat} (h : k < l.length) : l.take (k + 1) = l.take k ++ [gi l k] := by
  unfold gi
  rw [List.take_add_one, List.getD_eq_getElem?_getD, List.getElem?_eq_getElem h]; rfl

set_option maxHeartbeats 1600000 in
set_option maxRecDepth 100000 in
theorem of_any (p : Option Addr) (c m : Nat) (ps : List Int) (r : List R) (w : World) (hr : r = cn (pts ps)) (hm : m = ps.length) (hp : SlI w p ps) (hl : ps.length ≤ 20000000) :
    Calls Tryz.prog 29 #[.slice p m c] w (Tells w r) := by
  obtain ⟨i0, hinf, hz0, hz1, hz2⟩ := info_parts info_range
  have HP := Lib.hid hp
  have HN := Lib.hid hm
  have HR := Lib.hid hr
  have hmI : (m : Int) ≤ 20000000 := by omega
  have HL := Lib.hid (show m ≤ 20000000 by omega)
  obtain ⟨B, hB⟩ : ∃ B, B = w.heap.size := ⟨_, rfl⟩
  have HB := Lib.hid hB
  clear hp hm hl hr hB
  go_enter Tryz.func29, Tryz.ntmps29
  go_wp2
  go_loopw [3, 8] (fun lv iv wr => ∃ (k : Nat) (L : List R) (q : Option Addr) (cq : Nat), k ≤ m ∧ iv = .int .i64 (k : Nat) ∧ lv = .slice q L.length cq ∧ Hid (L = pts (ps.take k)) ∧ Hid (L.length = k) ∧ Hid (OwnR wr B (.slice q L.length cq) L) ∧ Hid (Below B w wr)) (fun _ iv _ => m - (intOf iv).toNat)
  case atStart => exact ⟨0, [], none, 0, Nat.zero_le _, rfl, rfl, rfl, rfl, ownR_nil _ _, Below.refl _ _⟩
  case round =>
    obtain ⟨k, L, q, cq, hk, rfl, rfl, HE, HK, HO, HBL⟩ := hrel
    rename World => wr
    by_cases hkm : k < m
    · have hkp : k < ps.length := by have := HN.out; omega
      obtain ⟨b, o, rfl, hc⟩ := sli_at (HP.out.below (by rw [← HB.out]; exact HBL.out)) hkp
      have hkI : (k : Int) < m := by omega
      obtain ⟨x, hx⟩ : ∃ x, x = gi ps k := ⟨_, rfl⟩
      rw [← hx] at hc
      have HE2 : Hid (L ++ [(x, x)] = pts (ps.take (k + 1))) := by
        show L ++ [(x, x)] = _
        rw [take_gi hkp, HE.out, hx]; simp [pts]
      have hrow := HO.out
      unfold OwnR at hrow
      have HRO := Lib.hid hrow
      have HWS := Lib.hid (show B ≤ wr.heap.size by rw [HB.out]; exact (show Below w.heap.size w wr by rw [← HB.out]; exact HBL.out).size)
      have HKM := Lib.hid hkm
      clear hx hrow hkp
      go_wp2_with (at_builtin; refine wpList_append_own _ rfl _ _ 28 rfl B 41 i0 (.agg #[.int .i64 0, .int .i64 0]) 2 16 Tryz.underlying28 hinf hz0 hz1 hz2 rfl (by decide) (.slice q L.length cq) L.length _ rfl (HRO.out.alloc _) ⟨wr.heap.size, 0, none⟩ 1 1 [.int .i64 x, .int .i64 x] rfl rfl (cells_two_new _ _ _ _) (by simp [Value.oneCell']) ?c3 ?c4 ?c5 ?_)
      case c3 => have := HK.out; have := HL.out; simp only [maxLen]; omega
      case c4 => have := HK.out; have := HL.out; omega
      case c5 => have := HWS.out; simp; omega
      intro v5 w5 hown5 hgrow5 _
      have hO5 : OwnR w5 B v5 (L ++ [(x, x)]) := ownR_appended (r := (x, x)) rfl hown5
      have hb5 : Below B w w5 := (HBL.out.alloc HWS.out _).grown hgrow5 (by have := HWS.out; simp; omega) (fun k hk => (HRO.out.lt k hk).1)
      obtain ⟨p', c5, hs', _⟩ := ownR_form hO5
      subst hs'
      have HO5 := Lib.hid hO5
      have HB5 := Lib.hid hb5
      have HK5 : Hid ((L ++ [(x, x)]).length = k + 1) := by
        show (L ++ [(x, x)]).length = k + 1
        rw [List.length_append, HK.out]; rfl
      clear hown5 hgrow5 hO5 hb5
      generalize L ++ [(x, x)] = L5 at *
      go_wp2
      go_roundw
      case rel => exact ⟨k + 1, L5, p', c5, by have := HKM.out; omega, by go_num, rfl, HE2.out, HK5.out, HO5.out, HB5.out⟩
      case measure => have := HKM.out; simp [intOf]; omega
    · have hkI : (m : Int) ≤ k := by omega
      have hE : L = pts ps := by rw [HE.out, List.take_of_length_le (by have := HN.out; omega)]
      obtain ⟨q', cq', e5, _, _, _, hsl, _⟩ := ownR_form HO.out
      simp only [Value.slice.injEq, true_and] at e5
      obtain ⟨rfl, rfl⟩ := e5
      have ef : flat [(q, cq, L)] = L := flat_one q cq L
      have HJ := Lib.hid (join_any (some ⟨wr.heap.size, 0, none⟩) 1 1 [(q, cq, L)] r (wr.alloc (.cells #[.slice q L.length cq] 28)) (by rw [ef, hE, HR.out]) rfl (sls_new (fun x hx => by simp only [List.mem_singleton] at hx; subst hx; exact hsl) rfl) (by rw [ef]; have := HK.out; have := HL.out; omega) (by simp))
      obtain ⟨ll, hll⟩ : ∃ ll, ll = L.length := ⟨_, rfl⟩
      rw [← hll] at HJ ⊢
      have HWS := Lib.hid (show Below w.heap.size w wr by rw [← HB.out]; exact HBL.out)
      clear hE ef hsl hll
      go_wp2_with fail
      refine HJ.out.mono ?_
      rintro e w7 ⟨p7, c7, rfl, ho7, hb7⟩
      have HO7 := Lib.hid ho7
      have HB7 := Lib.hid hb7
      clear ho7 hb7
      go_wp2
      go_ret
      exact ⟨p7, c7, rfl, ownR_down HO7.out (by have := HWS.out.size; simp; omega), bl_trans HWS.out (bl_trans (bl_alloc _ _) HB7.out)⟩

end Go.Proofs.YtgcgclmfjlecaaaGreat
