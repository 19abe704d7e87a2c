/- The walk of SameRangeRows at rows that hold the same. -/
import Derived.Test.YtgcgclmfjlecaaaGreatGa

namespace Go.Proofs.YtgcgclmfjlecaaaGreat
open Go.RowKit Tnr

theorem samek (p q : Option Addr) (c d m : Nat) (l : List R) (w : World) (hm : m = l.length) (hp : SlR w p l) (hq : SlR w q l) (hl : l.length ≤ 100000000) :
    Calls Tryz.prog 21 #[.slice p m c, .slice q m d] w fun e w' => e = .returned (.bool true) ∧ Below w.heap.size w w' := by
  subst hm
  have h := same_any p q c d l l w hp hq (by omega) (by omega)
  rw [decide_eq_true rfl] at h
  exact h.mono fun e w' ⟨h1, n, h2⟩ => ⟨h1, by rw [← h2]; exact drewN_below _ _⟩

set_option maxHeartbeats 3200000 in
set_option maxRecDepth 100000 in
theorem sameRows_any (p q : Option Addr) (c d n : Nat) (xs ys : List SV) (w : World) (hn : n = xs.length) (hy : n = ys.length) (hx : SlS w p xs) (hyy : SlS w q ys) (he : ∀ i, i < n → (gs xs i).2.2 = (gs ys i).2.2) (hl : ∀ i, i < n → (gs xs i).2.2.length ≤ 100000000) (hnm : n ≤ 100000000) :
    Calls Tryz.prog 14 #[.slice p n c, .slice q n d] w fun e w' => e = .returned (.bool true) ∧ Below w.heap.size w w' := by
  have HX := Lib.hid hx
  have HYY := Lib.hid hyy
  have HN := Lib.hid hn
  have HY := Lib.hid hy
  have HE := Lib.hid he
  have HL := Lib.hid hl
  have hnI : (n : Int) ≤ 100000000 := by omega
  clear hx hyy hn hy he hl hnm
  go_enter Tryz.func14, Tryz.ntmps14
  go_wp2
  go_loopw [5] (fun iv wr => ∃ (k : Nat), k ≤ n ∧ iv = .int .i64 (k : Nat) ∧ Hid (Below w.heap.size w wr)) (fun iv _ => n - (intOf iv).toNat)
  case atStart => exact ⟨0, Nat.zero_le _, rfl, Below.refl _ _⟩
  case round =>
    obtain ⟨k, hk, rfl, HB⟩ := hrel
    rename World => wr
    by_cases hkn : k < n
    · have hkI : (k : Int) < n := by omega
      have hkx : k < xs.length := by have := HN.out; omega
      have hky : k < ys.length := by have := HY.out; omega
      obtain ⟨bp, op, rfl, hcp⟩ := sls_at (HX.out.below HB.out) hkx
      obtain ⟨bq, oq, rfl, hcq⟩ := sls_at (HYY.out.below HB.out) hky
      have hA := HX.out.1 (gs xs k) (by rw [gs_get hkx]; exact List.getElem_mem hkx)
      have hB := HYY.out.1 (gs ys k) (by rw [gs_get hky]; exact List.getElem_mem hky)
      have hee := HE.out k hkn
      have hll := HL.out k hkn
      obtain ⟨⟨pa, ca, la⟩, hga⟩ : ∃ x, x = gs xs k := ⟨_, rfl⟩
      obtain ⟨⟨pb, cb, lb⟩, hgb⟩ : ∃ x, x = gs ys k := ⟨_, rfl⟩
      rw [← hga] at hcp hA hee hll
      rw [← hgb] at hcq hB hee
      simp only at hcp hcq hA hB hee hll
      subst hee
      obtain ⟨m, hm⟩ : ∃ m, m = la.length := ⟨_, rfl⟩
      rw [← hm] at hcp hcq
      have HSAME : Hid (∀ W : World, Below wr.heap.size wr W → Calls Tryz.prog 21 #[.slice pa m ca, .slice pb m cb] W fun e w' => e = .returned (.bool true) ∧ Below W.heap.size W w') :=
        fun W hb => samek pa pb ca cb m la W hm ((hA.below HB.out).below hb) ((hB.below HB.out).below hb) hll
      have HK := Lib.hid hkn
      clear hga hgb hm hA hB hll hkn hkx hky
      go_wp2
      go_region_held3 (fun W => W.cell? ⟨bp, op + k, none⟩ = some (.slice pa m ca) ∧ W.cell? ⟨bq, oq + k, none⟩ = some (.slice pb m cb) ∧ Hid (Below wr.heap.size wr W)) (first | exact ⟨hcp, hcq, bl_drew _⟩ | exact ⟨by assumption, by assumption, by assumption⟩) (first | (go_at_call 21; (with_reducible refine (HSAME.out _ (bl_drew _)).mono ?_); rintro e w6 ⟨rfl, hb6⟩; have hq1 : World.cell? w6 ⟨bp, op + k, none⟩ = some (.slice pa m ca) := keep_cell hb6 hcp; have hq2 : World.cell? w6 ⟨bq, oq + k, none⟩ = some (.slice pb m cb) := keep_cell hb6 hcq; have hq3 : Hid (Below wr.heap.size wr w6) := bl_trans (bl_drew _) hb6; clear hb6))
      go_wp2
      go_roundw
      case rel => exact ⟨k + 1, by have := HK.out; omega, by go_num, bl_trans HB.out hq3.out⟩
      case measure => have := HK.out; simp [intOf]; omega
    · have hkI : (n : Int) ≤ k := by omega
      go_wp2
      go_ret
      exact ⟨rfl, HB.out⟩
end Go.Proofs.YtgcgclmfjlecaaaGreat
