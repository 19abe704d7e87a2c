/- The walk of NatTexts: at every text it tells true, and nothing older changes. -/
import Derived.Test.YtcahnkocfbcchaaGreatDoorNd

namespace Go.Proofs.YtcahnkocfbcchaaGreatDoor
open Go.RowKit Tnd

theorem rest_lt (s : ByteArray) (h : IsNum s) : rest s 0 < 2 ^ (4 * s.size) := by
  have h1 := rd_lt s.data.toList (num_all h)
  have hsz : s.data.toList.length = s.size := by simp
  unfold rest
  rw [List.drop_zero]
  refine Nat.lt_of_lt_of_le h1 ?_
  rw [hsz, Nat.pow_mul]
  exact Nat.pow_le_pow_left (by decide) _

set_option maxHeartbeats 1600000 in
set_option maxRecDepth 100000 in
theorem texts_true (s : ByteArray) (w : World) (htab : Lib.TabIs Tryz.prog w "internal/strconv.uint64pow10" .u64 Lib.pow10Tab) :
    Calls Tryz.prog 27 #[.string s] w fun e w' => e = .returned (.bool true) ∧ Below w.heap.size w w' := by
  by_cases hbig : 500 < s.size
  · have HAW := Lib.hid (awake_any w htab)
    have hI : (500 : Int) < (s.size : Int) := by omega
    clear htab hbig
    go_enter Tryz.func27, Tryz.ntmps27
    go_wp2_with fail
    refine HAW.out.mono ?_
    rintro e w1 ⟨rfl, hb⟩
    have HB := Lib.hid hb
    clear hb HAW
    go_wp2
    go_ret
    exact ⟨rfl, HB.out⟩
  · have HTAB := Lib.hid htab
    have hI : ¬ (500 : Int) < (s.size : Int) := by omega
    have HS := Lib.hid (show s.size ≤ 500 by omega)
    clear htab hbig
    by_cases hn : IsNum s
    · have HN := Lib.hid hn
      clear hn
      go_enter Tryz.func27, Tryz.ntmps27
      go_wp2_with fail
      refine (parse_ok s w (by have := HS.out; omega) HN.out).mono ?_
      rintro e w1 ⟨va, rfl, hfa, hb1⟩
      obtain ⟨pa, ca, la, rfl, _, hra, hva, _, _⟩ := hfa.nat
      have hla := len_right 4294967296 (4 * s.size) la (by omega) hra (by rw [hva]; exact rest_lt s HN.out)
      have hS := HS.out
      have HFA := Lib.hid hfa
      have HLA := Lib.hid hla
      have HB1 := Lib.hid (bl_trans hb1 (bl_alloc w1 (.cells #[.slice pa la.length ca] 24)))
      have HRP := Lib.hid (rparse_any s (w1.alloc (.cells #[.slice pa la.length ca] 24)) (by have := HS.out; omega))
      clear hfa hb1 hra hva hla hS
      go_wp2_with fail
      refine HRP.out.mono ?_
      rintro e w2 ⟨hb2, ⟨_, vb, rfl, hfb⟩ | ⟨h, _⟩⟩
      case inr => exact absurd HN.out h
      obtain ⟨pb, cb, lb, rfl, _, hrb, hvb, _, _⟩ := hfb.nat
      have hlb := len_right 4294967296 (4 * s.size) lb (by omega) hrb (by rw [hvb]; exact rest_lt s HN.out)
      have hS := HS.out
      have hca : (w2.alloc (.cells #[.slice pb lb.length cb] 24)).cell? ⟨w1.heap.size, 0, none⟩ = some (.slice pa la.length ca) := cell_new (bl_trans hb2 (bl_alloc w2 _))
      have hcb : (w2.alloc (.cells #[.slice pb lb.length cb] 24)).cell? ⟨w2.heap.size, 0, none⟩ = some (.slice pb lb.length cb) := by rw [World.cell?_alloc_at _ _ _ _ rfl]; rfl
      have hfa2 := (HFA.out.below (bl_alloc w1 (.cells #[.slice pa la.length ca] 24))).below (bl_trans hb2 (bl_alloc w2 (.cells #[.slice pb lb.length cb] 24)))
      have HSAME := Lib.hid (hfa2.same (hfb.below (bl_alloc w2 (.cells #[.slice pb lb.length cb] 24))) (by have := HLA.out; omega) (by omega))
      have HB2 := Lib.hid (bl_trans HB1.out (bl_trans hb2 (bl_alloc w2 (.cells #[.slice pb lb.length cb] 24))))
      clear hb2 hfb hrb hvb hlb hfa2 HRP HFA hS
      go_wp2_with fail
      refine HSAME.out.mono ?_
      rintro e w3 ⟨rfl, hb3⟩
      have hbl := bl_trans HB2.out hb3
      have HAW := Lib.hid (awake_any w3 (tabIs_below HTAB.out hbl))
      have HB3 := Lib.hid hbl
      clear hb3 hbl HSAME hca hcb
      go_wp2_with fail
      refine HAW.out.mono ?_
      rintro e w4 ⟨rfl, hb4⟩
      have HB4 := Lib.hid (bl_trans HB3.out hb4)
      clear hb4 HAW
      go_wp2
      go_ret
      exact ⟨rfl, HB4.out⟩
    · have HN := Lib.hid hn
      clear hn
      go_enter Tryz.func27, Tryz.ntmps27
      go_wp2_with fail
      refine (parse_no s w (by have := HS.out; omega) HN.out).mono ?_
      rintro e w1 ⟨rfl, hb1⟩
      have HB1 := Lib.hid (bl_trans hb1 (bl_alloc w1 (.cells #[.slice none 0 0] 24)))
      have HRP := Lib.hid (rparse_any s (w1.alloc (.cells #[.slice none 0 0] 24)) (by have := HS.out; omega))
      clear hb1
      go_wp2_with fail
      refine HRP.out.mono ?_
      rintro e w2 ⟨hb2, ⟨h, _⟩ | ⟨_, rfl⟩⟩
      · exact absurd h HN.out
      have hca : (w2.alloc (.cells #[.slice none 0 0] 24)).cell? ⟨w1.heap.size, 0, none⟩ = some (.slice none 0 0) := cell_new (bl_trans hb2 (bl_alloc w2 _))
      have hcb : (w2.alloc (.cells #[.slice none 0 0] 24)).cell? ⟨w2.heap.size, 0, none⟩ = some (.slice none 0 0) := by rw [World.cell?_alloc_at _ _ _ _ rfl]; rfl
      have HSAME := Lib.hid (same_any none none 0 0 [] [] (w2.alloc (.cells #[.slice none 0 0] 24)) (.inl rfl) (.inl rfl) (by simp) (by simp))
      have HB2 := Lib.hid (bl_trans HB1.out (bl_trans hb2 (bl_alloc w2 (.cells #[.slice none 0 0] 24))))
      clear hb2 HRP
      go_wp2_with fail
      refine HSAME.out.mono ?_
      rintro e w3 ⟨rfl, hb3⟩
      have hbl := bl_trans HB2.out hb3
      have HAW := Lib.hid (awake_any w3 (tabIs_below HTAB.out hbl))
      have HB3 := Lib.hid hbl
      clear hb3 hbl HSAME hca hcb
      go_wp2_with fail
      refine HAW.out.mono ?_
      rintro e w4 ⟨rfl, hb4⟩
      have HB4 := Lib.hid (bl_trans HB3.out hb4)
      clear hb4 HAW
      go_wp2
      go_ret
      exact ⟨rfl, HB4.out⟩
end Go.Proofs.YtcahnkocfbcchaaGreatDoor
