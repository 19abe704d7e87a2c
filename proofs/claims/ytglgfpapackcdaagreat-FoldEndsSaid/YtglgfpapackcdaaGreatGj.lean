/- What may be a name: the walk of named, by strings.ContainsFunc and its closure. -/
import Derived.Test.YtglgfpapackcdaaGreatGi
import Derived.Test.YtglgfpapackcdaaGreatShelf

namespace Go.Proofs.YtglgfpapackcdaaGreat
open Go.RowKit Tnr

set_option maxHeartbeats 1600000 in
set_option maxRecDepth 100000 in
theorem sign_any (c : Nat) (w : World) : Calls Tryz.prog 149 #[.int .i32 (c : Nat)] w fun e w' => e = .returned (.bool (sgB c)) ∧ w' = w := by
  have hc : c < 48 ∨ (48 ≤ c ∧ c ≤ 57) ∨ (58 ≤ c ∧ c ≤ 60) ∨ c = 61 ∨ (62 ≤ c ∧ c ≤ 64) ∨ (65 ≤ c ∧ c ≤ 90) ∨ (91 ≤ c ∧ c ≤ 94) ∨ c = 95 ∨ c = 96 ∨ (97 ≤ c ∧ c ≤ 122) ∨ 122 < c := by omega
  rcases hc with h | h | h | h | h | h | h | h | h | h | h
  · have HV : Hid (sgB c = false) := by
      show _ = _
      unfold sgB
      have na : decide (97 ≤ c) = false := decide_eq_false (by omega)
      have nb : decide (c ≤ 122) = true := decide_eq_true (by omega)
      have nc : decide (65 ≤ c) = false := decide_eq_false (by omega)
      have nd : decide (c ≤ 90) = true := decide_eq_true (by omega)
      have ne : decide (48 ≤ c) = false := decide_eq_false (by omega)
      have nf : decide (c ≤ 57) = true := decide_eq_true (by omega)
      have ng : decide (c = 95) = false := decide_eq_false (by omega)
      have nh : decide (c = 61) = false := decide_eq_false (by omega)
      rw [na, nb, nc, nd, ne, nf, ng, nh]; rfl
    have da : decide ((97 : Int) ≤ (c : Int)) = false := decide_eq_false (by omega)
    have ea : decide (97 ≤ c) = false := decide_eq_false (by omega)
    have db : decide ((c : Int) ≤ 122) = true := decide_eq_true (by omega)
    have eb : decide (c ≤ 122) = true := decide_eq_true (by omega)
    have dc : decide ((65 : Int) ≤ (c : Int)) = false := decide_eq_false (by omega)
    have ec : decide (65 ≤ c) = false := decide_eq_false (by omega)
    have dd : decide ((c : Int) ≤ 90) = true := decide_eq_true (by omega)
    have ed : decide (c ≤ 90) = true := decide_eq_true (by omega)
    have de : decide ((48 : Int) ≤ (c : Int)) = false := decide_eq_false (by omega)
    have ee : decide (48 ≤ c) = false := decide_eq_false (by omega)
    have df : decide ((c : Int) ≤ 57) = true := decide_eq_true (by omega)
    have ef : decide (c ≤ 57) = true := decide_eq_true (by omega)
    have dg : ((c : Int) == 95) = false := beq_eq_false_iff_ne.2 (by omega)
    have dh : ((c : Int) == 61) = false := beq_eq_false_iff_ne.2 (by omega)
    clear h
    go_enter Tryz.func149, Tryz.ntmps149
    go_wp2
    go_ret
    exact ⟨by first | (rw [HV.out]; rfl) | rfl | (show Ending.returned (Value.bool false) = _; rw [HV.out]), rfl⟩
  · have HV : Hid (sgB c = true) := by
      show _ = _
      unfold sgB
      have na : decide (97 ≤ c) = false := decide_eq_false (by omega)
      have nb : decide (c ≤ 122) = true := decide_eq_true (by omega)
      have nc : decide (65 ≤ c) = false := decide_eq_false (by omega)
      have nd : decide (c ≤ 90) = true := decide_eq_true (by omega)
      have ne : decide (48 ≤ c) = true := decide_eq_true (by omega)
      have nf : decide (c ≤ 57) = true := decide_eq_true (by omega)
      have ng : decide (c = 95) = false := decide_eq_false (by omega)
      have nh : decide (c = 61) = false := decide_eq_false (by omega)
      rw [na, nb, nc, nd, ne, nf, ng, nh]; rfl
    have da : decide ((97 : Int) ≤ (c : Int)) = false := decide_eq_false (by omega)
    have ea : decide (97 ≤ c) = false := decide_eq_false (by omega)
    have db : decide ((c : Int) ≤ 122) = true := decide_eq_true (by omega)
    have eb : decide (c ≤ 122) = true := decide_eq_true (by omega)
    have dc : decide ((65 : Int) ≤ (c : Int)) = false := decide_eq_false (by omega)
    have ec : decide (65 ≤ c) = false := decide_eq_false (by omega)
    have dd : decide ((c : Int) ≤ 90) = true := decide_eq_true (by omega)
    have ed : decide (c ≤ 90) = true := decide_eq_true (by omega)
    have de : decide ((48 : Int) ≤ (c : Int)) = true := decide_eq_true (by omega)
    have ee : decide (48 ≤ c) = true := decide_eq_true (by omega)
    have df : decide ((c : Int) ≤ 57) = true := decide_eq_true (by omega)
    have ef : decide (c ≤ 57) = true := decide_eq_true (by omega)
    have dg : ((c : Int) == 95) = false := beq_eq_false_iff_ne.2 (by omega)
    have dh : ((c : Int) == 61) = false := beq_eq_false_iff_ne.2 (by omega)
    clear h
    go_enter Tryz.func149, Tryz.ntmps149
    go_wp2
    go_ret
    exact ⟨by first | (rw [HV.out]; rfl) | rfl | (show Ending.returned (Value.bool true) = _; rw [HV.out]), rfl⟩
  · have HV : Hid (sgB c = false) := by
      show _ = _
      unfold sgB
      have na : decide (97 ≤ c) = false := decide_eq_false (by omega)
      have nb : decide (c ≤ 122) = true := decide_eq_true (by omega)
      have nc : decide (65 ≤ c) = false := decide_eq_false (by omega)
      have nd : decide (c ≤ 90) = true := decide_eq_true (by omega)
      have ne : decide (48 ≤ c) = true := decide_eq_true (by omega)
      have nf : decide (c ≤ 57) = false := decide_eq_false (by omega)
      have ng : decide (c = 95) = false := decide_eq_false (by omega)
      have nh : decide (c = 61) = false := decide_eq_false (by omega)
      rw [na, nb, nc, nd, ne, nf, ng, nh]; rfl
    have da : decide ((97 : Int) ≤ (c : Int)) = false := decide_eq_false (by omega)
    have ea : decide (97 ≤ c) = false := decide_eq_false (by omega)
    have db : decide ((c : Int) ≤ 122) = true := decide_eq_true (by omega)
    have eb : decide (c ≤ 122) = true := decide_eq_true (by omega)
    have dc : decide ((65 : Int) ≤ (c : Int)) = false := decide_eq_false (by omega)
    have ec : decide (65 ≤ c) = false := decide_eq_false (by omega)
    have dd : decide ((c : Int) ≤ 90) = true := decide_eq_true (by omega)
    have ed : decide (c ≤ 90) = true := decide_eq_true (by omega)
    have de : decide ((48 : Int) ≤ (c : Int)) = true := decide_eq_true (by omega)
    have ee : decide (48 ≤ c) = true := decide_eq_true (by omega)
    have df : decide ((c : Int) ≤ 57) = false := decide_eq_false (by omega)
    have ef : decide (c ≤ 57) = false := decide_eq_false (by omega)
    have dg : ((c : Int) == 95) = false := beq_eq_false_iff_ne.2 (by omega)
    have dh : ((c : Int) == 61) = false := beq_eq_false_iff_ne.2 (by omega)
    clear h
    go_enter Tryz.func149, Tryz.ntmps149
    go_wp2
    go_ret
    exact ⟨by first | (rw [HV.out]; rfl) | rfl | (show Ending.returned (Value.bool false) = _; rw [HV.out]), rfl⟩
  · have HV : Hid (sgB c = true) := by
      show _ = _
      unfold sgB
      have na : decide (97 ≤ c) = false := decide_eq_false (by omega)
      have nb : decide (c ≤ 122) = true := decide_eq_true (by omega)
      have nc : decide (65 ≤ c) = false := decide_eq_false (by omega)
      have nd : decide (c ≤ 90) = true := decide_eq_true (by omega)
      have ne : decide (48 ≤ c) = true := decide_eq_true (by omega)
      have nf : decide (c ≤ 57) = false := decide_eq_false (by omega)
      have ng : decide (c = 95) = false := decide_eq_false (by omega)
      have nh : decide (c = 61) = true := decide_eq_true (by omega)
      rw [na, nb, nc, nd, ne, nf, ng, nh]; rfl
    have da : decide ((97 : Int) ≤ (c : Int)) = false := decide_eq_false (by omega)
    have ea : decide (97 ≤ c) = false := decide_eq_false (by omega)
    have db : decide ((c : Int) ≤ 122) = true := decide_eq_true (by omega)
    have eb : decide (c ≤ 122) = true := decide_eq_true (by omega)
    have dc : decide ((65 : Int) ≤ (c : Int)) = false := decide_eq_false (by omega)
    have ec : decide (65 ≤ c) = false := decide_eq_false (by omega)
    have dd : decide ((c : Int) ≤ 90) = true := decide_eq_true (by omega)
    have ed : decide (c ≤ 90) = true := decide_eq_true (by omega)
    have de : decide ((48 : Int) ≤ (c : Int)) = true := decide_eq_true (by omega)
    have ee : decide (48 ≤ c) = true := decide_eq_true (by omega)
    have df : decide ((c : Int) ≤ 57) = false := decide_eq_false (by omega)
    have ef : decide (c ≤ 57) = false := decide_eq_false (by omega)
    have dg : ((c : Int) == 95) = false := beq_eq_false_iff_ne.2 (by omega)
    have dh : ((c : Int) == 61) = true := by rw [h]; rfl
    clear h
    go_enter Tryz.func149, Tryz.ntmps149
    go_wp2
    go_ret
    exact ⟨by first | (rw [HV.out]; rfl) | rfl | (show Ending.returned (Value.bool true) = _; rw [HV.out]), rfl⟩
  · have HV : Hid (sgB c = false) := by
      show _ = _
      unfold sgB
      have na : decide (97 ≤ c) = false := decide_eq_false (by omega)
      have nb : decide (c ≤ 122) = true := decide_eq_true (by omega)
      have nc : decide (65 ≤ c) = false := decide_eq_false (by omega)
      have nd : decide (c ≤ 90) = true := decide_eq_true (by omega)
      have ne : decide (48 ≤ c) = true := decide_eq_true (by omega)
      have nf : decide (c ≤ 57) = false := decide_eq_false (by omega)
      have ng : decide (c = 95) = false := decide_eq_false (by omega)
      have nh : decide (c = 61) = false := decide_eq_false (by omega)
      rw [na, nb, nc, nd, ne, nf, ng, nh]; rfl
    have da : decide ((97 : Int) ≤ (c : Int)) = false := decide_eq_false (by omega)
    have ea : decide (97 ≤ c) = false := decide_eq_false (by omega)
    have db : decide ((c : Int) ≤ 122) = true := decide_eq_true (by omega)
    have eb : decide (c ≤ 122) = true := decide_eq_true (by omega)
    have dc : decide ((65 : Int) ≤ (c : Int)) = false := decide_eq_false (by omega)
    have ec : decide (65 ≤ c) = false := decide_eq_false (by omega)
    have dd : decide ((c : Int) ≤ 90) = true := decide_eq_true (by omega)
    have ed : decide (c ≤ 90) = true := decide_eq_true (by omega)
    have de : decide ((48 : Int) ≤ (c : Int)) = true := decide_eq_true (by omega)
    have ee : decide (48 ≤ c) = true := decide_eq_true (by omega)
    have df : decide ((c : Int) ≤ 57) = false := decide_eq_false (by omega)
    have ef : decide (c ≤ 57) = false := decide_eq_false (by omega)
    have dg : ((c : Int) == 95) = false := beq_eq_false_iff_ne.2 (by omega)
    have dh : ((c : Int) == 61) = false := beq_eq_false_iff_ne.2 (by omega)
    clear h
    go_enter Tryz.func149, Tryz.ntmps149
    go_wp2
    go_ret
    exact ⟨by first | (rw [HV.out]; rfl) | rfl | (show Ending.returned (Value.bool false) = _; rw [HV.out]), rfl⟩
  · have HV : Hid (sgB c = true) := by
      show _ = _
      unfold sgB
      have na : decide (97 ≤ c) = false := decide_eq_false (by omega)
      have nb : decide (c ≤ 122) = true := decide_eq_true (by omega)
      have nc : decide (65 ≤ c) = true := decide_eq_true (by omega)
      have nd : decide (c ≤ 90) = true := decide_eq_true (by omega)
      have ne : decide (48 ≤ c) = true := decide_eq_true (by omega)
      have nf : decide (c ≤ 57) = false := decide_eq_false (by omega)
      have ng : decide (c = 95) = false := decide_eq_false (by omega)
      have nh : decide (c = 61) = false := decide_eq_false (by omega)
      rw [na, nb, nc, nd, ne, nf, ng, nh]; rfl
    have da : decide ((97 : Int) ≤ (c : Int)) = false := decide_eq_false (by omega)
    have ea : decide (97 ≤ c) = false := decide_eq_false (by omega)
    have db : decide ((c : Int) ≤ 122) = true := decide_eq_true (by omega)
    have eb : decide (c ≤ 122) = true := decide_eq_true (by omega)
    have dc : decide ((65 : Int) ≤ (c : Int)) = true := decide_eq_true (by omega)
    have ec : decide (65 ≤ c) = true := decide_eq_true (by omega)
    have dd : decide ((c : Int) ≤ 90) = true := decide_eq_true (by omega)
    have ed : decide (c ≤ 90) = true := decide_eq_true (by omega)
    have de : decide ((48 : Int) ≤ (c : Int)) = true := decide_eq_true (by omega)
    have ee : decide (48 ≤ c) = true := decide_eq_true (by omega)
    have df : decide ((c : Int) ≤ 57) = false := decide_eq_false (by omega)
    have ef : decide (c ≤ 57) = false := decide_eq_false (by omega)
    have dg : ((c : Int) == 95) = false := beq_eq_false_iff_ne.2 (by omega)
    have dh : ((c : Int) == 61) = false := beq_eq_false_iff_ne.2 (by omega)
    clear h
    go_enter Tryz.func149, Tryz.ntmps149
    go_wp2
    go_ret
    exact ⟨by first | (rw [HV.out]; rfl) | rfl | (show Ending.returned (Value.bool true) = _; rw [HV.out]), rfl⟩
  · have HV : Hid (sgB c = false) := by
      show _ = _
      unfold sgB
      have na : decide (97 ≤ c) = false := decide_eq_false (by omega)
      have nb : decide (c ≤ 122) = true := decide_eq_true (by omega)
      have nc : decide (65 ≤ c) = true := decide_eq_true (by omega)
      have nd : decide (c ≤ 90) = false := decide_eq_false (by omega)
      have ne : decide (48 ≤ c) = true := decide_eq_true (by omega)
      have nf : decide (c ≤ 57) = false := decide_eq_false (by omega)
      have ng : decide (c = 95) = false := decide_eq_false (by omega)
      have nh : decide (c = 61) = false := decide_eq_false (by omega)
      rw [na, nb, nc, nd, ne, nf, ng, nh]; rfl
    have da : decide ((97 : Int) ≤ (c : Int)) = false := decide_eq_false (by omega)
    have ea : decide (97 ≤ c) = false := decide_eq_false (by omega)
    have db : decide ((c : Int) ≤ 122) = true := decide_eq_true (by omega)
    have eb : decide (c ≤ 122) = true := decide_eq_true (by omega)
    have dc : decide ((65 : Int) ≤ (c : Int)) = true := decide_eq_true (by omega)
    have ec : decide (65 ≤ c) = true := decide_eq_true (by omega)
    have dd : decide ((c : Int) ≤ 90) = false := decide_eq_false (by omega)
    have ed : decide (c ≤ 90) = false := decide_eq_false (by omega)
    have de : decide ((48 : Int) ≤ (c : Int)) = true := decide_eq_true (by omega)
    have ee : decide (48 ≤ c) = true := decide_eq_true (by omega)
    have df : decide ((c : Int) ≤ 57) = false := decide_eq_false (by omega)
    have ef : decide (c ≤ 57) = false := decide_eq_false (by omega)
    have dg : ((c : Int) == 95) = false := beq_eq_false_iff_ne.2 (by omega)
    have dh : ((c : Int) == 61) = false := beq_eq_false_iff_ne.2 (by omega)
    clear h
    go_enter Tryz.func149, Tryz.ntmps149
    go_wp2
    go_ret
    exact ⟨by first | (rw [HV.out]; rfl) | rfl | (show Ending.returned (Value.bool false) = _; rw [HV.out]), rfl⟩
  · have HV : Hid (sgB c = true) := by
      show _ = _
      unfold sgB
      have na : decide (97 ≤ c) = false := decide_eq_false (by omega)
      have nb : decide (c ≤ 122) = true := decide_eq_true (by omega)
      have nc : decide (65 ≤ c) = true := decide_eq_true (by omega)
      have nd : decide (c ≤ 90) = false := decide_eq_false (by omega)
      have ne : decide (48 ≤ c) = true := decide_eq_true (by omega)
      have nf : decide (c ≤ 57) = false := decide_eq_false (by omega)
      have ng : decide (c = 95) = true := decide_eq_true (by omega)
      have nh : decide (c = 61) = false := decide_eq_false (by omega)
      rw [na, nb, nc, nd, ne, nf, ng, nh]; rfl
    have da : decide ((97 : Int) ≤ (c : Int)) = false := decide_eq_false (by omega)
    have ea : decide (97 ≤ c) = false := decide_eq_false (by omega)
    have db : decide ((c : Int) ≤ 122) = true := decide_eq_true (by omega)
    have eb : decide (c ≤ 122) = true := decide_eq_true (by omega)
    have dc : decide ((65 : Int) ≤ (c : Int)) = true := decide_eq_true (by omega)
    have ec : decide (65 ≤ c) = true := decide_eq_true (by omega)
    have dd : decide ((c : Int) ≤ 90) = false := decide_eq_false (by omega)
    have ed : decide (c ≤ 90) = false := decide_eq_false (by omega)
    have de : decide ((48 : Int) ≤ (c : Int)) = true := decide_eq_true (by omega)
    have ee : decide (48 ≤ c) = true := decide_eq_true (by omega)
    have df : decide ((c : Int) ≤ 57) = false := decide_eq_false (by omega)
    have ef : decide (c ≤ 57) = false := decide_eq_false (by omega)
    have dg : ((c : Int) == 95) = true := by rw [h]; rfl
    have dh : ((c : Int) == 61) = false := beq_eq_false_iff_ne.2 (by omega)
    clear h
    go_enter Tryz.func149, Tryz.ntmps149
    go_wp2
    go_ret
    exact ⟨by first | (rw [HV.out]; rfl) | rfl | (show Ending.returned (Value.bool true) = _; rw [HV.out]), rfl⟩
  · have HV : Hid (sgB c = false) := by
      show _ = _
      unfold sgB
      have na : decide (97 ≤ c) = false := decide_eq_false (by omega)
      have nb : decide (c ≤ 122) = true := decide_eq_true (by omega)
      have nc : decide (65 ≤ c) = true := decide_eq_true (by omega)
      have nd : decide (c ≤ 90) = false := decide_eq_false (by omega)
      have ne : decide (48 ≤ c) = true := decide_eq_true (by omega)
      have nf : decide (c ≤ 57) = false := decide_eq_false (by omega)
      have ng : decide (c = 95) = false := decide_eq_false (by omega)
      have nh : decide (c = 61) = false := decide_eq_false (by omega)
      rw [na, nb, nc, nd, ne, nf, ng, nh]; rfl
    have da : decide ((97 : Int) ≤ (c : Int)) = false := decide_eq_false (by omega)
    have ea : decide (97 ≤ c) = false := decide_eq_false (by omega)
    have db : decide ((c : Int) ≤ 122) = true := decide_eq_true (by omega)
    have eb : decide (c ≤ 122) = true := decide_eq_true (by omega)
    have dc : decide ((65 : Int) ≤ (c : Int)) = true := decide_eq_true (by omega)
    have ec : decide (65 ≤ c) = true := decide_eq_true (by omega)
    have dd : decide ((c : Int) ≤ 90) = false := decide_eq_false (by omega)
    have ed : decide (c ≤ 90) = false := decide_eq_false (by omega)
    have de : decide ((48 : Int) ≤ (c : Int)) = true := decide_eq_true (by omega)
    have ee : decide (48 ≤ c) = true := decide_eq_true (by omega)
    have df : decide ((c : Int) ≤ 57) = false := decide_eq_false (by omega)
    have ef : decide (c ≤ 57) = false := decide_eq_false (by omega)
    have dg : ((c : Int) == 95) = false := beq_eq_false_iff_ne.2 (by omega)
    have dh : ((c : Int) == 61) = false := beq_eq_false_iff_ne.2 (by omega)
    clear h
    go_enter Tryz.func149, Tryz.ntmps149
    go_wp2
    go_ret
    exact ⟨by first | (rw [HV.out]; rfl) | rfl | (show Ending.returned (Value.bool false) = _; rw [HV.out]), rfl⟩
  · have HV : Hid (sgB c = true) := by
      show _ = _
      unfold sgB
      have na : decide (97 ≤ c) = true := decide_eq_true (by omega)
      have nb : decide (c ≤ 122) = true := decide_eq_true (by omega)
      have nc : decide (65 ≤ c) = true := decide_eq_true (by omega)
      have nd : decide (c ≤ 90) = false := decide_eq_false (by omega)
      have ne : decide (48 ≤ c) = true := decide_eq_true (by omega)
      have nf : decide (c ≤ 57) = false := decide_eq_false (by omega)
      have ng : decide (c = 95) = false := decide_eq_false (by omega)
      have nh : decide (c = 61) = false := decide_eq_false (by omega)
      rw [na, nb, nc, nd, ne, nf, ng, nh]; rfl
    have da : decide ((97 : Int) ≤ (c : Int)) = true := decide_eq_true (by omega)
    have ea : decide (97 ≤ c) = true := decide_eq_true (by omega)
    have db : decide ((c : Int) ≤ 122) = true := decide_eq_true (by omega)
    have eb : decide (c ≤ 122) = true := decide_eq_true (by omega)
    have dc : decide ((65 : Int) ≤ (c : Int)) = true := decide_eq_true (by omega)
    have ec : decide (65 ≤ c) = true := decide_eq_true (by omega)
    have dd : decide ((c : Int) ≤ 90) = false := decide_eq_false (by omega)
    have ed : decide (c ≤ 90) = false := decide_eq_false (by omega)
    have de : decide ((48 : Int) ≤ (c : Int)) = true := decide_eq_true (by omega)
    have ee : decide (48 ≤ c) = true := decide_eq_true (by omega)
    have df : decide ((c : Int) ≤ 57) = false := decide_eq_false (by omega)
    have ef : decide (c ≤ 57) = false := decide_eq_false (by omega)
    have dg : ((c : Int) == 95) = false := beq_eq_false_iff_ne.2 (by omega)
    have dh : ((c : Int) == 61) = false := beq_eq_false_iff_ne.2 (by omega)
    clear h
    go_enter Tryz.func149, Tryz.ntmps149
    go_wp2
    go_ret
    exact ⟨by first | (rw [HV.out]; rfl) | rfl | (show Ending.returned (Value.bool true) = _; rw [HV.out]), rfl⟩
  · have HV : Hid (sgB c = false) := by
      show _ = _
      unfold sgB
      have na : decide (97 ≤ c) = true := decide_eq_true (by omega)
      have nb : decide (c ≤ 122) = false := decide_eq_false (by omega)
      have nc : decide (65 ≤ c) = true := decide_eq_true (by omega)
      have nd : decide (c ≤ 90) = false := decide_eq_false (by omega)
      have ne : decide (48 ≤ c) = true := decide_eq_true (by omega)
      have nf : decide (c ≤ 57) = false := decide_eq_false (by omega)
      have ng : decide (c = 95) = false := decide_eq_false (by omega)
      have nh : decide (c = 61) = false := decide_eq_false (by omega)
      rw [na, nb, nc, nd, ne, nf, ng, nh]; rfl
    have da : decide ((97 : Int) ≤ (c : Int)) = true := decide_eq_true (by omega)
    have ea : decide (97 ≤ c) = true := decide_eq_true (by omega)
    have db : decide ((c : Int) ≤ 122) = false := decide_eq_false (by omega)
    have eb : decide (c ≤ 122) = false := decide_eq_false (by omega)
    have dc : decide ((65 : Int) ≤ (c : Int)) = true := decide_eq_true (by omega)
    have ec : decide (65 ≤ c) = true := decide_eq_true (by omega)
    have dd : decide ((c : Int) ≤ 90) = false := decide_eq_false (by omega)
    have ed : decide (c ≤ 90) = false := decide_eq_false (by omega)
    have de : decide ((48 : Int) ≤ (c : Int)) = true := decide_eq_true (by omega)
    have ee : decide (48 ≤ c) = true := decide_eq_true (by omega)
    have df : decide ((c : Int) ≤ 57) = false := decide_eq_false (by omega)
    have ef : decide (c ≤ 57) = false := decide_eq_false (by omega)
    have dg : ((c : Int) == 95) = false := beq_eq_false_iff_ne.2 (by omega)
    have dh : ((c : Int) == 61) = false := beq_eq_false_iff_ne.2 (by omega)
    clear h
    go_enter Tryz.func149, Tryz.ntmps149
    go_wp2
    go_ret
    exact ⟨by first | (rw [HV.out]; rfl) | rfl | (show Ending.returned (Value.bool false) = _; rw [HV.out]), rfl⟩

set_option maxHeartbeats 800000 in
set_option maxRecDepth 100000 in
theorem named1_any (c : Nat) (w : World) : Calls Tryz.prog 148 #[.int .i32 (c : Nat)] w fun e w' => e = .returned (.bool (noSg c)) ∧ ∃ q, w' = w.drewN q := by
  have HS := Lib.hid (sign_any c w)
  have HN : Hid (noSg c = !sgB c) := rfl
  go_enter Tryz.func148, Tryz.ntmps148
  go_wp2_with fail
  refine HS.out.mono ?_
  rintro e w2 ⟨rfl, rfl⟩
  generalize sgB c = b at *
  go_wp2
  go_ret
  exact ⟨by show Ending.returned (Value.bool (!b)) = _; rw [HN.out], 0, rfl⟩
theorem enters_named1 : ∀ args w, (callFunc 148 args).run Tryz.prog w = .ok (.enter 148 args) w := enters_of Tryz.func148 (by kernel_rfl) rfl
theorem has_noSg (s : ByteArray) (w : World) : Calls Tryz.prog 147 #[.string s, .func (.func 148) #[] #[]] w fun e w' => e = .returned (.bool (!(s.data.toList.all fun b => sgB b.toNat))) ∧ Below w.heap.size w w' := by
  have h := Tryz.strings_ContainsFunc 148 #[] enters_named1 noSg s w (fun W x _ => named1_any x W)
  rw [idx_named] at h
  exact h
set_option maxHeartbeats 1600000 in
set_option maxRecDepth 100000 in
theorem named_any (s : ByteArray) (w : World) : Calls Tryz.prog 115 #[.string s] w fun e w' => e = .returned (.bool (nameB s.data.toList)) ∧ Below w.heap.size w w' := by
  have HC := Lib.hid (has_noSg s)
  have hlen : s.data.toList.length = s.size := by simp
  have HV : Hid (nameB s.data.toList = ((s.data.toList.all fun b => sgB b.toNat) && decide (1 ≤ s.size) && decide (s.size ≤ 40))) := by
    show _ = _
    unfold nameB; rw [hlen]
  clear hlen
  generalize (s.data.toList.all fun b => sgB b.toNat) = b at *
  by_cases h0 : 0 < s.size
  · by_cases h40 : s.size ≤ 40
    · have d0 : (0 : Int) < (s.size : Int) := by omega
      have d1 : (s.size : Int) ≤ 40 := by omega
      have HW : Hid (nameB s.data.toList = b) := by
        show _ = _
        rw [HV.out, decide_eq_true (show 1 ≤ s.size by omega), decide_eq_true h40, Bool.and_true, Bool.and_true]
      clear h0 h40
      go_enter Tryz.func115, Tryz.ntmps115
      go_wp2_with fail
      refine (HC.out _).mono ?_
      rintro e w2 ⟨rfl, hb2⟩
      have HB2 := Lib.hid hb2
      clear hb2
      go_wp2
      go_ret
      exact ⟨by rw [HW.out]; cases b <;> rfl, HB2.out⟩
    · have d0 : (0 : Int) < (s.size : Int) := by omega
      have d1 : decide ((s.size : Int) ≤ 40) = false := decide_eq_false (by omega)
      have d2 : decide (s.size ≤ 40) = false := decide_eq_false h40
      have HW : Hid (nameB s.data.toList = false) := by show _ = _; rw [HV.out, d2, Bool.and_false]
      clear h0 h40
      go_enter Tryz.func115, Tryz.ntmps115
      go_wp2
      go_ret
      exact ⟨by first | rfl | (rw [HW.out]; rfl), Below.refl _ _⟩
  · have d1 : decide ((0 : Int) < (s.size : Int)) = false := decide_eq_false (by omega)
    have d2 : decide (0 < s.size) = false := decide_eq_false h0
    have HW : Hid (nameB s.data.toList = false) := by show _ = _; rw [HV.out, decide_eq_false (show ¬ 1 ≤ s.size by omega), Bool.and_false, Bool.false_and]
    clear h0
    go_enter Tryz.func115, Tryz.ntmps115
    go_wp2
    go_ret
    exact ⟨by first | rfl | (rw [HW.out]; rfl), Below.refl _ _⟩
end Go.Proofs.YtglgfpapackcdaaGreat
