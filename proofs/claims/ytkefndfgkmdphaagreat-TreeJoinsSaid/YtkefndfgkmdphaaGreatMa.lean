import Derived.Test.YtkefndfgkmdphaaGreatFi
import Derived.Test.YtkefndfgkmdphaaGreatLz
import Derived.Lib.MapLaws
import Derived.Shelf.GgClosure.StringsIndexFunc

namespace Go.Proofs.YtkefndfgkmdphaaGreat
set_option maxHeartbeats 1600000
set_option maxRecDepth 100000
open Go.RowKit Tnr Tnt

def dgT (c : Nat) : Bool := decide (48 ≤ c) && decide (c ≤ 57)
def sgT (c : Nat) : Bool := (decide (97 ≤ c) && decide (c ≤ 122)) || (decide (65 ≤ c) && decide (c ≤ 90)) || dgT c || decide (c = 95) || decide (c = 36)
theorem dec_low (s : ByteArray) (i : Nat) (h : (s.get! i).toNat < 128) : Utf8.decode s i = ((s.get! i).toNat, 1) := by
 rw [Lib.decode_at]
 unfold Lib.decodeN
 rw [if_pos h]
theorem dec_high (s : ByteArray) (i : Nat) (h : ¬ (s.get! i).toNat < 128) : 128 ≤ (Utf8.decode s i).1 := by
 rw [Lib.decode_at]
 rcases Lib.decodeN_shape (s.size - i) (s.get! i).toNat (s.get! (i + 1)).toNat (s.get! (i + 2)).toNat (s.get! (i + 3)).toNat with ⟨h1, _⟩ | ⟨_, _, _, h2, e⟩ | ⟨_, _, _, _, h2, _, e⟩ | ⟨_, _, _, _, _, h2, _, e⟩ | e
 ·exact absurd h1 h
 ·rw [e]; exact h2
 ·rw [e]; simp only; omega
 ·rw [e]; simp only; omega
 ·rw [e]; decide
theorem sgT_low {n : Nat} (h : sgT n = true) : n < 128 := by
 rcases Nat.lt_or_ge n 128 with h2 | h2
 ·exact h2
 ·exfalso
  unfold sgT dgT at h
  simp at h
  omega
def noSgT (r : Nat) : Bool := !sgT r
theorem idx_from (s : ByteArray) : ∀ f pos, s.size ≤ pos + f → (0 ≤ Lib.idxFuncFrom noSgT true s f pos ↔ ∃ i, pos ≤ i ∧ i < s.size ∧ sgT (s.get! i).toNat = false) := by
 intro f
 induction f with
 | zero =>
  intro pos h
  rw [Lib.idxFuncFrom_end _ _ _ _ _ (by omega)]
  constructor
  ·intro h2; omega
  ·rintro ⟨i, h1, h2, _⟩; omega
 | succ f ih =>
  intro pos h
  unfold Lib.idxFuncFrom
  by_cases hp : pos < s.size
  ·rw [if_pos hp]
   cases hs : sgT (s.get! pos).toNat with
   | true =>
    have hl := dec_low s pos (sgT_low hs)
    rw [hl]
    simp only
    rw [if_neg (by unfold noSgT; rw [hs]; decide), ih (pos + 1) (by omega)]
    constructor
    ·rintro ⟨i, h1, h2, h3⟩; exact ⟨i, by omega, h2, h3⟩
    ·rintro ⟨i, h1, h2, h3⟩
     refine ⟨i, ?_, h2, h3⟩
     rcases Nat.lt_or_ge pos i with q | q
     ·omega
     ·obtain rfl : i = pos := by omega
      rw [hs] at h3; cases h3
   | false =>
    have hn : noSgT (Utf8.decode s pos).1 = true := by
     unfold noSgT
     by_cases hl : (s.get! pos).toNat < 128
     ·rw [dec_low s pos hl, hs]; rfl
     ·have hh := dec_high s pos hl
      cases hq : sgT (Utf8.decode s pos).1 with
      | true => have := sgT_low hq; omega
      | false => rfl
    rw [if_pos hn]
    exact ⟨fun _ => ⟨pos, Nat.le_refl _, hp, hs⟩, fun _ => by omega⟩
  ·rw [if_neg hp]
   constructor
   ·intro h2; omega
   ·rintro ⟨i, h1, h2, _⟩; omega
theorem idx_sgT (s : ByteArray) : decide (0 ≤ Lib.idxFunc noSgT true s) = !(s.data.toList.all fun b => sgT b.toNat) := by
 have h := idx_from s s.size 0 (by omega)
 unfold Lib.idxFunc
 have hb : ∀ i, (h : i < s.size) → s.get! i = s.data.toList[i]'(by simpa using h) := by
  intro i hi
  simp [ByteArray.get!, Array.getElem!_eq_getD, Array.getD]
  rw [dif_pos (show i < s.size from hi)]
 cases ha : s.data.toList.all fun b => sgT b.toNat with
 | true =>
  rw [List.all_eq_true] at ha
  refine decide_eq_false fun h0 => ?_
  obtain ⟨i, _, h2, h3⟩ := h.1 h0
  have := ha _ (List.getElem_mem (show i < s.data.toList.length by simpa using h2))
  rw [← hb i h2] at this
  rw [h3] at this; cases this
 | false =>
  rw [List.all_eq_false] at ha
  obtain ⟨x, hx, hn⟩ := ha
  obtain ⟨i, hi, rfl⟩ := List.getElem_of_mem hx
  have hi2 : i < s.size := by simpa using hi
  refine decide_eq_true (h.2 ⟨i, Nat.zero_le _, hi2, ?_⟩)
  rw [hb i hi2]; simpa using hn

theorem digit_any (c : Nat) (w : World) : Calls Tryz.prog 207 #[.int .i32 (c : Nat)] w fun e w' => e = .returned (.bool (dgT c)) ∧ w' = w := by
 by_cases h1 : 48 ≤ c
 ·by_cases h2 : c ≤ 57
  ·have HV : Hid (dgT c = true) := by show _ = _; unfold dgT; rw [decide_eq_true h1, decide_eq_true h2]; rfl
   have d1 : decide ((48 : Int) ≤ (c : Int)) = true := decide_eq_true (by omega)
   have d2 : decide ((c : Int) ≤ 57) = true := decide_eq_true (by omega)
   have d3 : decide (48 ≤ c) = true := decide_eq_true (by omega)
   have d4 : decide (c ≤ 57) = true := decide_eq_true (by omega)
   clear h1 h2
   go_enter Tryz.func207, Tryz.ntmps207
   go_wp2
   go_ret
   exact ⟨by rw [HV.out]; rfl, rfl⟩
  ·have HV : Hid (dgT c = false) := by show _ = _; unfold dgT; rw [decide_eq_true h1, decide_eq_false h2]; rfl
   have d1 : decide ((48 : Int) ≤ (c : Int)) = true := decide_eq_true (by omega)
   have d2 : decide ((c : Int) ≤ 57) = false := decide_eq_false (by omega)
   have d3 : decide (48 ≤ c) = true := decide_eq_true (by omega)
   have d4 : decide (c ≤ 57) = false := decide_eq_false (by omega)
   clear h1 h2
   go_enter Tryz.func207, Tryz.ntmps207
   go_wp2
   go_ret
   exact ⟨by rw [HV.out]; rfl, rfl⟩
 ·have HV : Hid (dgT c = false) := by show _ = _; unfold dgT; rw [decide_eq_false h1]; rfl
  have d1 : decide ((48 : Int) ≤ (c : Int)) = false := decide_eq_false (by omega)
  have d3 : decide (48 ≤ c) = false := decide_eq_false (by omega)
  clear h1
  go_enter Tryz.func207, Tryz.ntmps207
  go_wp2
  go_ret
  exact ⟨by rw [HV.out]; rfl, rfl⟩
theorem sign_any (c : Nat) (w : World) : Calls Tryz.prog 210 #[.int .i32 (c : Nat)] w fun e w' => e = .returned (.bool (sgT c)) ∧ w' = w := by
 have hc : (c < 36) ∨ (c = 36) ∨ (37 ≤ c ∧ c ≤ 47) ∨ (48 ≤ c ∧ c ≤ 57) ∨ (58 ≤ c ∧ c ≤ 64) ∨ (65 ≤ c ∧ c ≤ 90) ∨ (91 ≤ c ∧ c ≤ 94) ∨ (c = 95) ∨ (c = 96) ∨ (97 ≤ c ∧ c ≤ 122) ∨ (122 < c) := by omega
 have HD := lh (digit_any c w)
 rcases hc with h | h | h | h | h | h | h | h | h | h | h
 ·have HV : Hid (sgT c = false) := by
   show _ = _
   unfold sgT dgT
   have na : decide (97 ≤ c) = false := decide_eq_false (by omega)
   have nb : decide (c ≤ 122) = true := decide_eq_true (by omega)
   have nc : decide (65 ≤ c) = false := decide_eq_false (by omega)
   have nd : decide (c ≤ 90) = true := decide_eq_true (by omega)
   have ne : decide (48 ≤ c) = false := decide_eq_false (by omega)
   have nf : decide (c ≤ 57) = true := decide_eq_true (by omega)
   have ng : decide (c = 95) = false := decide_eq_false (by omega)
   have nh : decide (c = 36) = false := decide_eq_false (by omega)
   rw [na, nb, nc, nd, ne, nf, ng, nh]; rfl
  have hdg : dgT c = false := by
   unfold dgT
   have ne : decide (48 ≤ c) = false := decide_eq_false (by omega)
   have nf : decide (c ≤ 57) = true := decide_eq_true (by omega)
   rw [ne, nf]; rfl
  rw [hdg] at HD
  clear hdg
  have da : decide ((97 : Int) ≤ (c : Int)) = false := decide_eq_false (by omega)
  have ea : decide (97 ≤ c) = false := decide_eq_false (by omega)
  have db : decide ((c : Int) ≤ 122) = true := decide_eq_true (by omega)
  have eb : decide (c ≤ 122) = true := decide_eq_true (by omega)
  have dc : decide ((65 : Int) ≤ (c : Int)) = false := decide_eq_false (by omega)
  have ec : decide (65 ≤ c) = false := decide_eq_false (by omega)
  have dd : decide ((c : Int) ≤ 90) = true := decide_eq_true (by omega)
  have ed : decide (c ≤ 90) = true := decide_eq_true (by omega)
  have dg : ((c : Int) == 95) = false := beq_eq_false_iff_ne.2 (by omega)
  have dh : ((c : Int) == 36) = false := beq_eq_false_iff_ne.2 (by omega)
  clear h
  go_enter Tryz.func210, Tryz.ntmps210
  go_wp2_with (go_at_call 207; refine (HD.out).mono ?_; rintro e w2 ⟨rfl, rfl⟩)
  go_ret
  exact ⟨by first | (rw [HV.out]; rfl) | rfl | (show Ending.returned (Value.bool false) = _; rw [HV.out]), rfl⟩
 ·have HV : Hid (sgT c = true) := by
   show _ = _
   unfold sgT dgT
   have na : decide (97 ≤ c) = false := decide_eq_false (by omega)
   have nb : decide (c ≤ 122) = true := decide_eq_true (by omega)
   have nc : decide (65 ≤ c) = false := decide_eq_false (by omega)
   have nd : decide (c ≤ 90) = true := decide_eq_true (by omega)
   have ne : decide (48 ≤ c) = false := decide_eq_false (by omega)
   have nf : decide (c ≤ 57) = true := decide_eq_true (by omega)
   have ng : decide (c = 95) = false := decide_eq_false (by omega)
   have nh : decide (c = 36) = true := decide_eq_true (by omega)
   rw [na, nb, nc, nd, ne, nf, ng, nh]; rfl
  have hdg : dgT c = false := by
   unfold dgT
   have ne : decide (48 ≤ c) = false := decide_eq_false (by omega)
   have nf : decide (c ≤ 57) = true := decide_eq_true (by omega)
   rw [ne, nf]; rfl
  rw [hdg] at HD
  clear hdg
  have da : decide ((97 : Int) ≤ (c : Int)) = false := decide_eq_false (by omega)
  have ea : decide (97 ≤ c) = false := decide_eq_false (by omega)
  have db : decide ((c : Int) ≤ 122) = true := decide_eq_true (by omega)
  have eb : decide (c ≤ 122) = true := decide_eq_true (by omega)
  have dc : decide ((65 : Int) ≤ (c : Int)) = false := decide_eq_false (by omega)
  have ec : decide (65 ≤ c) = false := decide_eq_false (by omega)
  have dd : decide ((c : Int) ≤ 90) = true := decide_eq_true (by omega)
  have ed : decide (c ≤ 90) = true := decide_eq_true (by omega)
  have dg : ((c : Int) == 95) = false := beq_eq_false_iff_ne.2 (by omega)
  have dh : ((c : Int) == 36) = true := by rw [h]; rfl
  clear h
  go_enter Tryz.func210, Tryz.ntmps210
  go_wp2_with (go_at_call 207; refine (HD.out).mono ?_; rintro e w2 ⟨rfl, rfl⟩)
  go_ret
  exact ⟨by first | (rw [HV.out]; rfl) | rfl | (show Ending.returned (Value.bool true) = _; rw [HV.out]), rfl⟩
 ·have HV : Hid (sgT c = false) := by
   show _ = _
   unfold sgT dgT
   have na : decide (97 ≤ c) = false := decide_eq_false (by omega)
   have nb : decide (c ≤ 122) = true := decide_eq_true (by omega)
   have nc : decide (65 ≤ c) = false := decide_eq_false (by omega)
   have nd : decide (c ≤ 90) = true := decide_eq_true (by omega)
   have ne : decide (48 ≤ c) = false := decide_eq_false (by omega)
   have nf : decide (c ≤ 57) = true := decide_eq_true (by omega)
   have ng : decide (c = 95) = false := decide_eq_false (by omega)
   have nh : decide (c = 36) = false := decide_eq_false (by omega)
   rw [na, nb, nc, nd, ne, nf, ng, nh]; rfl
  have hdg : dgT c = false := by
   unfold dgT
   have ne : decide (48 ≤ c) = false := decide_eq_false (by omega)
   have nf : decide (c ≤ 57) = true := decide_eq_true (by omega)
   rw [ne, nf]; rfl
  rw [hdg] at HD
  clear hdg
  have da : decide ((97 : Int) ≤ (c : Int)) = false := decide_eq_false (by omega)
  have ea : decide (97 ≤ c) = false := decide_eq_false (by omega)
  have db : decide ((c : Int) ≤ 122) = true := decide_eq_true (by omega)
  have eb : decide (c ≤ 122) = true := decide_eq_true (by omega)
  have dc : decide ((65 : Int) ≤ (c : Int)) = false := decide_eq_false (by omega)
  have ec : decide (65 ≤ c) = false := decide_eq_false (by omega)
  have dd : decide ((c : Int) ≤ 90) = true := decide_eq_true (by omega)
  have ed : decide (c ≤ 90) = true := decide_eq_true (by omega)
  have dg : ((c : Int) == 95) = false := beq_eq_false_iff_ne.2 (by omega)
  have dh : ((c : Int) == 36) = false := beq_eq_false_iff_ne.2 (by omega)
  clear h
  go_enter Tryz.func210, Tryz.ntmps210
  go_wp2_with (go_at_call 207; refine (HD.out).mono ?_; rintro e w2 ⟨rfl, rfl⟩)
  go_ret
  exact ⟨by first | (rw [HV.out]; rfl) | rfl | (show Ending.returned (Value.bool false) = _; rw [HV.out]), rfl⟩
 ·have HV : Hid (sgT c = true) := by
   show _ = _
   unfold sgT dgT
   have na : decide (97 ≤ c) = false := decide_eq_false (by omega)
   have nb : decide (c ≤ 122) = true := decide_eq_true (by omega)
   have nc : decide (65 ≤ c) = false := decide_eq_false (by omega)
   have nd : decide (c ≤ 90) = true := decide_eq_true (by omega)
   have ne : decide (48 ≤ c) = true := decide_eq_true (by omega)
   have nf : decide (c ≤ 57) = true := decide_eq_true (by omega)
   have ng : decide (c = 95) = false := decide_eq_false (by omega)
   have nh : decide (c = 36) = false := decide_eq_false (by omega)
   rw [na, nb, nc, nd, ne, nf, ng, nh]; rfl
  have hdg : dgT c = true := by
   unfold dgT
   have ne : decide (48 ≤ c) = true := decide_eq_true (by omega)
   have nf : decide (c ≤ 57) = true := decide_eq_true (by omega)
   rw [ne, nf]; rfl
  rw [hdg] at HD
  clear hdg
  have da : decide ((97 : Int) ≤ (c : Int)) = false := decide_eq_false (by omega)
  have ea : decide (97 ≤ c) = false := decide_eq_false (by omega)
  have db : decide ((c : Int) ≤ 122) = true := decide_eq_true (by omega)
  have eb : decide (c ≤ 122) = true := decide_eq_true (by omega)
  have dc : decide ((65 : Int) ≤ (c : Int)) = false := decide_eq_false (by omega)
  have ec : decide (65 ≤ c) = false := decide_eq_false (by omega)
  have dd : decide ((c : Int) ≤ 90) = true := decide_eq_true (by omega)
  have ed : decide (c ≤ 90) = true := decide_eq_true (by omega)
  have dg : ((c : Int) == 95) = false := beq_eq_false_iff_ne.2 (by omega)
  have dh : ((c : Int) == 36) = false := beq_eq_false_iff_ne.2 (by omega)
  clear h
  go_enter Tryz.func210, Tryz.ntmps210
  go_wp2_with (go_at_call 207; refine (HD.out).mono ?_; rintro e w2 ⟨rfl, rfl⟩)
  go_ret
  exact ⟨by first | (rw [HV.out]; rfl) | rfl | (show Ending.returned (Value.bool true) = _; rw [HV.out]), rfl⟩
 ·have HV : Hid (sgT c = false) := by
   show _ = _
   unfold sgT dgT
   have na : decide (97 ≤ c) = false := decide_eq_false (by omega)
   have nb : decide (c ≤ 122) = true := decide_eq_true (by omega)
   have nc : decide (65 ≤ c) = false := decide_eq_false (by omega)
   have nd : decide (c ≤ 90) = true := decide_eq_true (by omega)
   have ne : decide (48 ≤ c) = true := decide_eq_true (by omega)
   have nf : decide (c ≤ 57) = false := decide_eq_false (by omega)
   have ng : decide (c = 95) = false := decide_eq_false (by omega)
   have nh : decide (c = 36) = false := decide_eq_false (by omega)
   rw [na, nb, nc, nd, ne, nf, ng, nh]; rfl
  have hdg : dgT c = false := by
   unfold dgT
   have ne : decide (48 ≤ c) = true := decide_eq_true (by omega)
   have nf : decide (c ≤ 57) = false := decide_eq_false (by omega)
   rw [ne, nf]; rfl
  rw [hdg] at HD
  clear hdg
  have da : decide ((97 : Int) ≤ (c : Int)) = false := decide_eq_false (by omega)
  have ea : decide (97 ≤ c) = false := decide_eq_false (by omega)
  have db : decide ((c : Int) ≤ 122) = true := decide_eq_true (by omega)
  have eb : decide (c ≤ 122) = true := decide_eq_true (by omega)
  have dc : decide ((65 : Int) ≤ (c : Int)) = false := decide_eq_false (by omega)
  have ec : decide (65 ≤ c) = false := decide_eq_false (by omega)
  have dd : decide ((c : Int) ≤ 90) = true := decide_eq_true (by omega)
  have ed : decide (c ≤ 90) = true := decide_eq_true (by omega)
  have dg : ((c : Int) == 95) = false := beq_eq_false_iff_ne.2 (by omega)
  have dh : ((c : Int) == 36) = false := beq_eq_false_iff_ne.2 (by omega)
  clear h
  go_enter Tryz.func210, Tryz.ntmps210
  go_wp2_with (go_at_call 207; refine (HD.out).mono ?_; rintro e w2 ⟨rfl, rfl⟩)
  go_ret
  exact ⟨by first | (rw [HV.out]; rfl) | rfl | (show Ending.returned (Value.bool false) = _; rw [HV.out]), rfl⟩
 ·have HV : Hid (sgT c = true) := by
   show _ = _
   unfold sgT dgT
   have na : decide (97 ≤ c) = false := decide_eq_false (by omega)
   have nb : decide (c ≤ 122) = true := decide_eq_true (by omega)
   have nc : decide (65 ≤ c) = true := decide_eq_true (by omega)
   have nd : decide (c ≤ 90) = true := decide_eq_true (by omega)
   have ne : decide (48 ≤ c) = true := decide_eq_true (by omega)
   have nf : decide (c ≤ 57) = false := decide_eq_false (by omega)
   have ng : decide (c = 95) = false := decide_eq_false (by omega)
   have nh : decide (c = 36) = false := decide_eq_false (by omega)
   rw [na, nb, nc, nd, ne, nf, ng, nh]; rfl
  have hdg : dgT c = false := by
   unfold dgT
   have ne : decide (48 ≤ c) = true := decide_eq_true (by omega)
   have nf : decide (c ≤ 57) = false := decide_eq_false (by omega)
   rw [ne, nf]; rfl
  rw [hdg] at HD
  clear hdg
  have da : decide ((97 : Int) ≤ (c : Int)) = false := decide_eq_false (by omega)
  have ea : decide (97 ≤ c) = false := decide_eq_false (by omega)
  have db : decide ((c : Int) ≤ 122) = true := decide_eq_true (by omega)
  have eb : decide (c ≤ 122) = true := decide_eq_true (by omega)
  have dc : decide ((65 : Int) ≤ (c : Int)) = true := decide_eq_true (by omega)
  have ec : decide (65 ≤ c) = true := decide_eq_true (by omega)
  have dd : decide ((c : Int) ≤ 90) = true := decide_eq_true (by omega)
  have ed : decide (c ≤ 90) = true := decide_eq_true (by omega)
  have dg : ((c : Int) == 95) = false := beq_eq_false_iff_ne.2 (by omega)
  have dh : ((c : Int) == 36) = false := beq_eq_false_iff_ne.2 (by omega)
  clear h
  go_enter Tryz.func210, Tryz.ntmps210
  go_wp2_with (go_at_call 207; refine (HD.out).mono ?_; rintro e w2 ⟨rfl, rfl⟩)
  go_ret
  exact ⟨by first | (rw [HV.out]; rfl) | rfl | (show Ending.returned (Value.bool true) = _; rw [HV.out]), rfl⟩
 ·have HV : Hid (sgT c = false) := by
   show _ = _
   unfold sgT dgT
   have na : decide (97 ≤ c) = false := decide_eq_false (by omega)
   have nb : decide (c ≤ 122) = true := decide_eq_true (by omega)
   have nc : decide (65 ≤ c) = true := decide_eq_true (by omega)
   have nd : decide (c ≤ 90) = false := decide_eq_false (by omega)
   have ne : decide (48 ≤ c) = true := decide_eq_true (by omega)
   have nf : decide (c ≤ 57) = false := decide_eq_false (by omega)
   have ng : decide (c = 95) = false := decide_eq_false (by omega)
   have nh : decide (c = 36) = false := decide_eq_false (by omega)
   rw [na, nb, nc, nd, ne, nf, ng, nh]; rfl
  have hdg : dgT c = false := by
   unfold dgT
   have ne : decide (48 ≤ c) = true := decide_eq_true (by omega)
   have nf : decide (c ≤ 57) = false := decide_eq_false (by omega)
   rw [ne, nf]; rfl
  rw [hdg] at HD
  clear hdg
  have da : decide ((97 : Int) ≤ (c : Int)) = false := decide_eq_false (by omega)
  have ea : decide (97 ≤ c) = false := decide_eq_false (by omega)
  have db : decide ((c : Int) ≤ 122) = true := decide_eq_true (by omega)
  have eb : decide (c ≤ 122) = true := decide_eq_true (by omega)
  have dc : decide ((65 : Int) ≤ (c : Int)) = true := decide_eq_true (by omega)
  have ec : decide (65 ≤ c) = true := decide_eq_true (by omega)
  have dd : decide ((c : Int) ≤ 90) = false := decide_eq_false (by omega)
  have ed : decide (c ≤ 90) = false := decide_eq_false (by omega)
  have dg : ((c : Int) == 95) = false := beq_eq_false_iff_ne.2 (by omega)
  have dh : ((c : Int) == 36) = false := beq_eq_false_iff_ne.2 (by omega)
  clear h
  go_enter Tryz.func210, Tryz.ntmps210
  go_wp2_with (go_at_call 207; refine (HD.out).mono ?_; rintro e w2 ⟨rfl, rfl⟩)
  go_ret
  exact ⟨by first | (rw [HV.out]; rfl) | rfl | (show Ending.returned (Value.bool false) = _; rw [HV.out]), rfl⟩
 ·have HV : Hid (sgT c = true) := by
   show _ = _
   unfold sgT dgT
   have na : decide (97 ≤ c) = false := decide_eq_false (by omega)
   have nb : decide (c ≤ 122) = true := decide_eq_true (by omega)
   have nc : decide (65 ≤ c) = true := decide_eq_true (by omega)
   have nd : decide (c ≤ 90) = false := decide_eq_false (by omega)
   have ne : decide (48 ≤ c) = true := decide_eq_true (by omega)
   have nf : decide (c ≤ 57) = false := decide_eq_false (by omega)
   have ng : decide (c = 95) = true := decide_eq_true (by omega)
   have nh : decide (c = 36) = false := decide_eq_false (by omega)
   rw [na, nb, nc, nd, ne, nf, ng, nh]; rfl
  have hdg : dgT c = false := by
   unfold dgT
   have ne : decide (48 ≤ c) = true := decide_eq_true (by omega)
   have nf : decide (c ≤ 57) = false := decide_eq_false (by omega)
   rw [ne, nf]; rfl
  rw [hdg] at HD
  clear hdg
  have da : decide ((97 : Int) ≤ (c : Int)) = false := decide_eq_false (by omega)
  have ea : decide (97 ≤ c) = false := decide_eq_false (by omega)
  have db : decide ((c : Int) ≤ 122) = true := decide_eq_true (by omega)
  have eb : decide (c ≤ 122) = true := decide_eq_true (by omega)
  have dc : decide ((65 : Int) ≤ (c : Int)) = true := decide_eq_true (by omega)
  have ec : decide (65 ≤ c) = true := decide_eq_true (by omega)
  have dd : decide ((c : Int) ≤ 90) = false := decide_eq_false (by omega)
  have ed : decide (c ≤ 90) = false := decide_eq_false (by omega)
  have dg : ((c : Int) == 95) = true := by rw [h]; rfl
  have dh : ((c : Int) == 36) = false := beq_eq_false_iff_ne.2 (by omega)
  clear h
  go_enter Tryz.func210, Tryz.ntmps210
  go_wp2_with (go_at_call 207; refine (HD.out).mono ?_; rintro e w2 ⟨rfl, rfl⟩)
  go_ret
  exact ⟨by first | (rw [HV.out]; rfl) | rfl | (show Ending.returned (Value.bool true) = _; rw [HV.out]), rfl⟩
 ·have HV : Hid (sgT c = false) := by
   show _ = _
   unfold sgT dgT
   have na : decide (97 ≤ c) = false := decide_eq_false (by omega)
   have nb : decide (c ≤ 122) = true := decide_eq_true (by omega)
   have nc : decide (65 ≤ c) = true := decide_eq_true (by omega)
   have nd : decide (c ≤ 90) = false := decide_eq_false (by omega)
   have ne : decide (48 ≤ c) = true := decide_eq_true (by omega)
   have nf : decide (c ≤ 57) = false := decide_eq_false (by omega)
   have ng : decide (c = 95) = false := decide_eq_false (by omega)
   have nh : decide (c = 36) = false := decide_eq_false (by omega)
   rw [na, nb, nc, nd, ne, nf, ng, nh]; rfl
  have hdg : dgT c = false := by
   unfold dgT
   have ne : decide (48 ≤ c) = true := decide_eq_true (by omega)
   have nf : decide (c ≤ 57) = false := decide_eq_false (by omega)
   rw [ne, nf]; rfl
  rw [hdg] at HD
  clear hdg
  have da : decide ((97 : Int) ≤ (c : Int)) = false := decide_eq_false (by omega)
  have ea : decide (97 ≤ c) = false := decide_eq_false (by omega)
  have db : decide ((c : Int) ≤ 122) = true := decide_eq_true (by omega)
  have eb : decide (c ≤ 122) = true := decide_eq_true (by omega)
  have dc : decide ((65 : Int) ≤ (c : Int)) = true := decide_eq_true (by omega)
  have ec : decide (65 ≤ c) = true := decide_eq_true (by omega)
  have dd : decide ((c : Int) ≤ 90) = false := decide_eq_false (by omega)
  have ed : decide (c ≤ 90) = false := decide_eq_false (by omega)
  have dg : ((c : Int) == 95) = false := beq_eq_false_iff_ne.2 (by omega)
  have dh : ((c : Int) == 36) = false := beq_eq_false_iff_ne.2 (by omega)
  clear h
  go_enter Tryz.func210, Tryz.ntmps210
  go_wp2_with (go_at_call 207; refine (HD.out).mono ?_; rintro e w2 ⟨rfl, rfl⟩)
  go_ret
  exact ⟨by first | (rw [HV.out]; rfl) | rfl | (show Ending.returned (Value.bool false) = _; rw [HV.out]), rfl⟩
 ·have HV : Hid (sgT c = true) := by
   show _ = _
   unfold sgT dgT
   have na : decide (97 ≤ c) = true := decide_eq_true (by omega)
   have nb : decide (c ≤ 122) = true := decide_eq_true (by omega)
   have nc : decide (65 ≤ c) = true := decide_eq_true (by omega)
   have nd : decide (c ≤ 90) = false := decide_eq_false (by omega)
   have ne : decide (48 ≤ c) = true := decide_eq_true (by omega)
   have nf : decide (c ≤ 57) = false := decide_eq_false (by omega)
   have ng : decide (c = 95) = false := decide_eq_false (by omega)
   have nh : decide (c = 36) = false := decide_eq_false (by omega)
   rw [na, nb, nc, nd, ne, nf, ng, nh]; rfl
  have hdg : dgT c = false := by
   unfold dgT
   have ne : decide (48 ≤ c) = true := decide_eq_true (by omega)
   have nf : decide (c ≤ 57) = false := decide_eq_false (by omega)
   rw [ne, nf]; rfl
  rw [hdg] at HD
  clear hdg
  have da : decide ((97 : Int) ≤ (c : Int)) = true := decide_eq_true (by omega)
  have ea : decide (97 ≤ c) = true := decide_eq_true (by omega)
  have db : decide ((c : Int) ≤ 122) = true := decide_eq_true (by omega)
  have eb : decide (c ≤ 122) = true := decide_eq_true (by omega)
  have dc : decide ((65 : Int) ≤ (c : Int)) = true := decide_eq_true (by omega)
  have ec : decide (65 ≤ c) = true := decide_eq_true (by omega)
  have dd : decide ((c : Int) ≤ 90) = false := decide_eq_false (by omega)
  have ed : decide (c ≤ 90) = false := decide_eq_false (by omega)
  have dg : ((c : Int) == 95) = false := beq_eq_false_iff_ne.2 (by omega)
  have dh : ((c : Int) == 36) = false := beq_eq_false_iff_ne.2 (by omega)
  clear h
  go_enter Tryz.func210, Tryz.ntmps210
  go_wp2_with (go_at_call 207; refine (HD.out).mono ?_; rintro e w2 ⟨rfl, rfl⟩)
  go_ret
  exact ⟨by first | (rw [HV.out]; rfl) | rfl | (show Ending.returned (Value.bool true) = _; rw [HV.out]), rfl⟩
 ·have HV : Hid (sgT c = false) := by
   show _ = _
   unfold sgT dgT
   have na : decide (97 ≤ c) = true := decide_eq_true (by omega)
   have nb : decide (c ≤ 122) = false := decide_eq_false (by omega)
   have nc : decide (65 ≤ c) = true := decide_eq_true (by omega)
   have nd : decide (c ≤ 90) = false := decide_eq_false (by omega)
   have ne : decide (48 ≤ c) = true := decide_eq_true (by omega)
   have nf : decide (c ≤ 57) = false := decide_eq_false (by omega)
   have ng : decide (c = 95) = false := decide_eq_false (by omega)
   have nh : decide (c = 36) = false := decide_eq_false (by omega)
   rw [na, nb, nc, nd, ne, nf, ng, nh]; rfl
  have hdg : dgT c = false := by
   unfold dgT
   have ne : decide (48 ≤ c) = true := decide_eq_true (by omega)
   have nf : decide (c ≤ 57) = false := decide_eq_false (by omega)
   rw [ne, nf]; rfl
  rw [hdg] at HD
  clear hdg
  have da : decide ((97 : Int) ≤ (c : Int)) = true := decide_eq_true (by omega)
  have ea : decide (97 ≤ c) = true := decide_eq_true (by omega)
  have db : decide ((c : Int) ≤ 122) = false := decide_eq_false (by omega)
  have eb : decide (c ≤ 122) = false := decide_eq_false (by omega)
  have dc : decide ((65 : Int) ≤ (c : Int)) = true := decide_eq_true (by omega)
  have ec : decide (65 ≤ c) = true := decide_eq_true (by omega)
  have dd : decide ((c : Int) ≤ 90) = false := decide_eq_false (by omega)
  have ed : decide (c ≤ 90) = false := decide_eq_false (by omega)
  have dg : ((c : Int) == 95) = false := beq_eq_false_iff_ne.2 (by omega)
  have dh : ((c : Int) == 36) = false := beq_eq_false_iff_ne.2 (by omega)
  clear h
  go_enter Tryz.func210, Tryz.ntmps210
  go_wp2_with (go_at_call 207; refine (HD.out).mono ?_; rintro e w2 ⟨rfl, rfl⟩)
  go_ret
  exact ⟨by first | (rw [HV.out]; rfl) | rfl | (show Ending.returned (Value.bool false) = _; rw [HV.out]), rfl⟩
end Go.Proofs.YtkefndfgkmdphaaGreat
