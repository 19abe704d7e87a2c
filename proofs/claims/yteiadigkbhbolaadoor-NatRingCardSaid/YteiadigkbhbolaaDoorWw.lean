/- A number's decimal digits are a number's text, and are read back as the number. -/
import Derived.Test.YteiadigkbhbolaaDoorWv
namespace Go.Proofs.YteiadigkbhbolaaDoor
open Go.RowKit Tnd

theorem dec_text {s : ByteArray} {n : Nat} (h : s.data.toList = Lib.decDigits n) : IsNum s ∧ rest s 0 = n := by
  have hsz : s.data.toList.length = s.size := by simp
  have hne := dec_ne_nil n
  have hpos : 0 < s.size := by
    rw [← hsz, h]
    exact List.length_pos_iff.2 hne
  have hbt : ∀ i (hi : i < s.size), ∃ c, c ∈ Lib.decDigits n ∧ bt s i = c.toNat ∧ (Lib.decDigits n)[i]? = some c := by
    intro i hi
    have hi' : i < s.data.toList.length := by omega
    refine ⟨s.data.toList[i], by rw [← h]; exact List.getElem_mem hi', ?_, by rw [← h]; exact List.getElem?_eq_getElem hi'⟩
    unfold bt
    simp [List.getD, List.getElem?_eq_getElem hi']
  refine ⟨⟨hpos, ?_, fun i hi => ?_⟩, ?_⟩
  · rintro ⟨h0, h1⟩
    obtain ⟨c, _, hc, hc0⟩ := hbt 0 hpos
    rw [hc] at h0
    have hc48 : c = 48 := UInt8.toNat_inj.1 (by rw [h0]; rfl)
    subst hc48
    by_cases hn : 1 ≤ n
    · refine dec_head n hn ?_
      rw [List.head?_eq_getElem?]; exact hc0
    · obtain rfl : n = 0 := by omega
      rw [dec_small (by omega)] at h
      rw [h] at hsz
      simp at hsz
      omega
  · obtain ⟨c, hm, hc, _⟩ := hbt i hi
    rw [hc]
    exact dec_all n c hm
  · unfold rest
    rw [List.drop_zero, h, rd_dec]
end Go.Proofs.YteiadigkbhbolaaDoor
