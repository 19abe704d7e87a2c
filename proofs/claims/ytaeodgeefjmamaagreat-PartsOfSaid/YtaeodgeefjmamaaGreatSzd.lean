/- The walk of KeptRangeRows. -/
import Derived.Test.YtaeodgeefjmamaaGreatSzc
namespace Go.Proofs.YtaeodgeefjmamaaGreat
open Go.RowKit Tnr

set_option maxHeartbeats 6400000 in
set_option maxRecDepth 100000 in
theorem keptRows_any (p q : Option Addr) (c d n B : Nat) (xs ys : List SV) (w : World) (hn : n = xs.length) (hny : n = ys.length) (hx : SlS w p xs) (hl : (flat xs).length ≤ 3000) (hnm : n ≤ 3000) (ho : w.ownsRow B 36 1 (.slice q n d) n (ys.map svV)) (hlt : ∀ i, i < n → LentOf w B (gs xs i) (gs ys i)) :
    Calls Tryz.prog 11 #[.slice q n d, .slice p n c] w fun e w' => e = .returned (.bool true) ∧ Below w.heap.size w w' := by
  have HY := Lib.hid (lentRows_sls hny hn ho hlt).1
  have HX := Lib.hid hx
  have HL := Lib.hid hl
  have HLT := Lib.hid hlt
  have hnI : (n : Int) ≤ 3000 := by omega
  have HN := Lib.hid hn
  have HNY := Lib.hid hny
  clear hx hl hn hnm hny ho hlt
  go_enter Tryz.func11, Tryz.ntmps11
  go_wp2
  go_loopw [5] (fun iv wr => ∃ (k : Nat), k ≤ n ∧ iv = .int .i64 (k : Nat) ∧ Hid (Below w.heap.size w wr)) (fun iv _ => n - (intOf iv).toNat)
  case atStart => exact ⟨0, Nat.zero_le _, rfl, Below.refl _ _⟩
  case round =>
    obtain ⟨k, hk, rfl, HB⟩ := hrel
    rename World => wr
    by_cases hkn : k < n
    · have hkx : k < xs.length := by have := HN.out; omega
      obtain ⟨bp, op, rfl, hcell⟩ := sls_at (HX.out.below HB.out) hkx
      obtain ⟨bq, oq, rfl, hcelq⟩ := sls_at (HY.out.below HB.out) (show k < ys.length by have := HNY.out; omega)
      have hkI : (k : Int) < n := by omega
      obtain ⟨pa, ca, la, hga⟩ : ∃ pa ca la, gs xs k = (pa, ca, la) := ⟨_, _, _, rfl⟩
      obtain ⟨pb, cb, lb, hgb⟩ : ∃ pa ca la, gs ys k = (pa, ca, la) := ⟨_, _, _, rfl⟩
      have HA : Hid (SlR wr pa la) := by
        have h := HX.out.1 (gs xs k) (by rw [gs_get hkx]; exact List.getElem_mem hkx)
        rw [hga] at h
        exact h.below HB.out
      have hLA : la.length ≤ 3000 := by
        have h1 := flat_one_le hkx
        rw [hga] at h1
        have h2 := HL.out
        simp only at h1
        omega
      have hlk := (HLT.out k hkn).below HB.out
      rw [hga, hgb] at hlk
      obtain ⟨hl1, g, hl2, hl3, hl4, hl5⟩ := hlk
      simp only at hl1 hl2 hl3 hl4 hl5
      subst hl1 hl2
      rw [hga] at hcell
      rw [hgb] at hcelq
      simp only at hcell hcelq
      obtain ⟨m, hm⟩ : ∃ m, m = lb.length := ⟨_, rfl⟩
      rw [← hm] at hcell hcelq hl3 hl5
      have HKEPT : Hid (∀ W : World, Below wr.heap.size wr W → Calls Tryz.prog 23 #[.slice (some ⟨g, 0, none⟩) m cb, .slice pa m ca] W fun e w' => e = .returned (.bool true) ∧ Below W.heap.size W w') :=
        fun W hb => keptR_any pa ca m lb B g cb W hm (HA.out.below hb) hLA (ownR_below hl5 hb) hl3 hl4
      have HKN := Lib.hid hkn
      clear hga hgb hm hkx hLA hkn hl3 hl4 hl5
      go_wp2
      go_region_held3 (fun W => W.cell? ⟨bp, op + k, none⟩ = some (.slice pa m ca) ∧ W.cell? ⟨bq, oq + k, none⟩ = some (.slice (some ⟨g, 0, none⟩) m cb) ∧ Hid (Below wr.heap.size wr W)) (first | exact ⟨hcell, hcelq, bl_drew _⟩ | exact ⟨by assumption, by assumption, by assumption⟩) (first | (go_at_call 23; (with_reducible refine (HKEPT.out _ (bl_drew _)).mono ?_); rintro e w6 ⟨rfl, hb6⟩; have hq1 : World.cell? w6 ⟨bp, op + k, none⟩ = some (.slice pa m ca) := keep_cellK hb6 (by assumption); have hq2 : World.cell? w6 ⟨bq, oq + k, none⟩ = some (.slice (some ⟨g, 0, none⟩) m cb) := keep_cellK hb6 (by assumption); have hq3 : Hid (Below wr.heap.size wr w6) := bl_trans (bl_drew _) hb6; clear hb6))
      go_wp2
      go_roundw
      case rel => exact ⟨k + 1, by have := HKN.out; omega, by go_num, bl_trans HB.out hq3.out⟩
      case measure => have := HKN.out; simp [intOf]; omega
    · have hkI : (n : Int) ≤ k := by omega
      go_wp2
      go_ret
      exact ⟨rfl, HB.out⟩
end Go.Proofs.YtaeodgeefjmamaaGreat
