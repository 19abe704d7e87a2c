/- The walk of RangesTells. -/
import Derived.Test.YtobdkkcihjpebaaGreatRzh
import Derived.Test.YtobdkkcihjpebaaGreatRze
import Derived.Test.YtobdkkcihjpebaaGreatFd
import Derived.Test.YtobdkkcihjpebaaGreatFe
namespace Go.Proofs.YtobdkkcihjpebaaGreat
open Go.RowKit Tnr

theorem hasT (p : Option Addr) (c m : Nat) (l : List R) (k : Int) (t : Bool) (w : World) (ht : t = hasB l k) (hm : m = l.length) (hp : SlR w p l) (hl : l.length ≤ 50000) :
    Calls Tryz.prog 19 #[.slice p m c, .int .i64 k] w fun e w' => e = .returned (.bool t) ∧ Below w.heap.size w w' := by
  subst hm ht; exact has_any p c l k w hp (by omega)
theorem rhasT (p : Option Addr) (c m : Nat) (l : List R) (k : Int) (t : Bool) (w : World) (ht : t = hasB l k) (hm : m = l.length) (hp : SlR w p l) (hl : l.length ≤ 50000) :
    Calls Tryz.prog 20 #[.slice p m c, .int .i64 k] w fun e w' => e = .returned (.bool t) ∧ Below w.heap.size w w' := by
  subst ht; exact (rhas_any p c m l k w hm hp (by omega)).mono fun _ _ h => ⟨h.1, by rw [← h.2]; exact Below.refl _ _⟩
theorem rightT (p : Option Addr) (c m : Nat) (l : List R) (t : Bool) (w : World) (ht : t = rightB l) (hm : m = l.length) (hp : SlR w p l) (hl : l.length ≤ 50000) :
    Calls Tryz.prog 17 #[.slice p m c] w fun e w' => e = .returned (.bool t) ∧ Below w.heap.size w w' := by
  subst hm ht; exact right_any p c l w hp (by omega)
theorem rrightT (p : Option Addr) (c m : Nat) (l : List R) (t : Bool) (w : World) (ht : t = rightB l) (hm : m = l.length) (hp : SlR w p l) (hl : l.length ≤ 50000) :
    Calls Tryz.prog 18 #[.slice p m c] w fun e w' => e = .returned (.bool t) ∧ Below w.heap.size w w' := by
  subst ht; exact rright_any p c m l w hm hp (by omega)
theorem manyT (p : Option Addr) (c m : Nat) (l : List R) (x : Int) (w : World) (hx : x = mny l) (hm : m = l.length) (hp : SlR w p l) (hl : l.length ≤ 10000) :
    Calls Tryz.prog 21 #[.slice p m c] w fun e w' => e = .returned (.int .i64 x) ∧ Below w.heap.size w w' := by
  subst hm hx; exact many_any p c l w hp (by omega)
theorem rmanyT (p : Option Addr) (c m : Nat) (l : List R) (x : Int) (w : World) (hx : x = mny l) (hm : m = l.length) (hp : SlR w p l) (hl : l.length ≤ 10000) :
    Calls Tryz.prog 22 #[.slice p m c] w fun e w' => e = .returned (.int .i64 x) ∧ Below w.heap.size w w' := by
  subst hx; exact rmany_any p c m l w hm hp hl
theorem leastT (p : Option Addr) (c m : Nat) (l : List R) (x : Int) (t : Bool) (w : World) (hx : x = (lst l).1) (ht : t = (lst l).2) (hm : m = l.length) (hp : SlR w p l) (hl : l.length ≤ 10000) :
    Calls Tryz.prog 12 #[.slice p m c] w fun e w' => e = .returned (.tuple #[.int .i64 x, .bool t]) ∧ Below w.heap.size w w' := by
  subst hm hx ht; exact least_any p c l w hp (by omega)
theorem rleastT (p : Option Addr) (c m : Nat) (l : List R) (x : Int) (t : Bool) (w : World) (hx : x = (lst l).1) (ht : t = (lst l).2) (hm : m = l.length) (hp : SlR w p l) (hl : l.length ≤ 10000) :
    Calls Tryz.prog 13 #[.slice p m c] w fun e w' => e = .returned (.tuple #[.int .i64 x, .bool t]) ∧ Below w.heap.size w w' := by
  subst hx ht; exact rleast_any p c m l w hm hp hl
theorem greatT (p q : Option Addr) (c e m n : Nat) (a b : List R) (t : Bool) (W : World) (ht : t = decide (150 < 2 + (a.length + b.length))) (hm : m = a.length) (hn : n = b.length) (hp : SlR W p a) (hq : SlR W q b) (ha : a.length ≤ 1000000000000000) (hb : b.length ≤ 1000000000000000) :
    Calls Tryz.prog 7 #[.slice (some ⟨W.heap.size, 0, none⟩) 2 2] (W.alloc (.cells #[.slice p m c, .slice q n e] 22)) fun e w' => e = .returned (.bool t) ∧ Below W.heap.size W w' := by
  subst hm hn
  have ef : flat [(p, c, a), (q, e, b)] = a ++ b := by simp [flat]
  refine (great_any (some ⟨W.heap.size, 0, none⟩) 2 2 [(p, c, a), (q, e, b)] _ rfl (sls_new (fun x hx => by
    simp only [List.mem_cons, List.not_mem_nil, or_false] at hx
    rcases hx with rfl | rfl
    · exact hp
    · exact hq) rfl) (by simp) (fun x hx => by
    simp only [List.mem_cons, List.not_mem_nil, or_false] at hx
    rcases hx with rfl | rfl <;> simp only <;> omega)).mono ?_
  rintro e w' ⟨rfl, rfl⟩
  rw [ef, List.length_append] at *
  exact ⟨by rw [ht]; rfl, bl_alloc _ _⟩
theorem joinT (p : Option Addr) (c m : Nat) (l r : List R) (W : World) (hr : r = cn l) (hm : m = l.length) (hp : SlR W p l) (hl : l.length ≤ 50000) :
    Calls Tryz.prog 25 #[.slice (some ⟨W.heap.size, 0, none⟩) 1 1] (W.alloc (.cells #[.slice p m c] 22)) (Tells W r) := by
  subst hm
  refine (join_any (some ⟨W.heap.size, 0, none⟩) 1 1 [(p, c, l)] r _ (by rw [flat_one]; exact hr) rfl (sls_new (fun x hx => by simp only [List.mem_singleton] at hx; subst hx; exact hp) rfl) (by rw [flat_one]; exact hl) (by simp)).mono ?_
  rintro e w' ⟨q, d, h1, h2, h3⟩
  exact ⟨q, d, h1, ownR_mono h2 (by simp), bl_trans (bl_alloc _ _) h3⟩
/-- what is handed out, as a row. -/
def Given (w : World) (l : List R) (e : Ending) (w' : World) : Prop :=
  ∃ q c, ∃ d : D, e = .returned (.slice q l.length c) ∧ SlR w' q l ∧ Hid (Value.slice q l.length c = d.val) ∧ d.n = l.length ∧ Room w' 2 d ∧ (∀ b, d.p = some b → w.heap.size ≤ b ∧ b < w'.heap.size) ∧ Below w.heap.size w w'
theorem given_of {w : World} {l : List R} {e : Ending} {w' : World} (h : Tells w l e w') : Given w l e w' := by
  obtain ⟨q, c, h1, h2, h3⟩ := h
  obtain ⟨d, e1, e2, e3, e4⟩ := own_room h2
  exact ⟨q, c, d, h1, tells_sl h2, e1, e2, e3, e4, h3⟩

set_option maxHeartbeats 12800000 in
set_option maxRecDepth 100000 in
theorem tells_true (p q : Option Addr) (cp cq n m : Nat) (a b : List R) (c : Int) (w : World) (hn : n = a.length) (hm : m = b.length) (hp : SlR w p a) (hq : SlR w q b) (han : a.length ≤ 1000000000000000) (hbn : b.length ≤ 1000000000000000) (hpn : p = none → cp = 0) (hqn : q = none → cq = 0) :
    Calls Tryz.prog 3 #[.slice p n cp, .slice q m cq, .int .i64 c] w fun e w' => e = .returned (.bool true) ∧ Below w.heap.size w w' := by
  have HP := Lib.hid hp
  have HQ := Lib.hid hq
  have HN := Lib.hid hn
  have HM := Lib.hid hm
  have HPN := Lib.hid hpn
  have HQN := Lib.hid hqn
  have HAB := Lib.hid (And.intro han hbn)
  obtain ⟨t, ht⟩ : ∃ t, t = decide (150 < 2 + (a.length + b.length)) := ⟨_, rfl⟩
  have HT := Lib.hid ht
  obtain ⟨M, hM⟩ : ∃ M, M = mt a b := ⟨_, rfl⟩
  obtain ⟨N, hN⟩ : ∃ N, N = ng a := ⟨_, rfl⟩
  obtain ⟨J, hJ⟩ : ∃ J, J = cn a := ⟨_, rfl⟩
  obtain ⟨tr, htr⟩ : ∃ t, t = rightB a := ⟨_, rfl⟩
  obtain ⟨th, hth⟩ : ∃ t, t = hasB a c := ⟨_, rfl⟩
  obtain ⟨y, hy⟩ : ∃ t, t = mny a := ⟨_, rfl⟩
  obtain ⟨z, hz⟩ : ∃ t, t = (lst a).1 := ⟨_, rfl⟩
  obtain ⟨tl, htl⟩ : ∃ t, t = (lst a).2 := ⟨_, rfl⟩
  have HMt := Lib.hid hM
  have HNg := Lib.hid hN
  have HJc := Lib.hid hJ
  have HTR := Lib.hid htr
  have HTH := Lib.hid hth
  have HY := Lib.hid hy
  have HZ := Lib.hid hz
  have HTL := Lib.hid htl
  clear hp hq hn hm hpn hqn han hbn ht hM hN hJ htr hth hy hz htl
  go_enter Tryz.func3, Tryz.ntmps3
  go_wp2_with fail
  refine (greatT p q cp cq n m a b t w HT.out HN.out HM.out HP.out HQ.out HAB.out.1 HAB.out.2).mono ?_
  rintro e w1 ⟨rfl, hb⟩
  have K := Lib.hid hb
  clear hb
  cases t with
  | true =>
    go_wp2_with fail
    refine (awake_any w1).mono ?_
    rintro e w2 ⟨rfl, hb⟩
    replace K := Lib.hid (bl_trans K.out hb)
    clear hb
    go_wp2
    go_ret
    exact ⟨rfl, K.out⟩
  | false =>
  have HL : Hid (a.length ≤ 148 ∧ b.length ≤ 148) := by
    have h := of_decide_eq_false HT.out.symm
    show _ ∧ _
    omega
  have HLM : Hid (M.length ≤ 300 ∧ N.length ≤ 150 ∧ J.length ≤ 150) := by
    have h1 := mt_length a b
    have h2 := ng_length a
    have h3 := cn_length a
    have h4 := HL.out
    show _ ∧ _ ∧ _
    rw [HMt.out, HNg.out, HJc.out]
    omega
  clear HT HAB
  go_wp2_with fail
  refine (lentR_any p cp n a w1 HN.out (HP.out.below K.out) (by have := HL.out; omega) HPN.out).mono ?_
  rintro e w2 ⟨g1, c1, rfl, h1, h2, ho, hb⟩
  replace K := Lib.hid (bl_trans K.out hb)
  have HC1 := Lib.hid (And.intro h1 h2)
  have HOX := Lib.hid ho
  have KX := Lib.hid (Below.refl w2.heap.size w2)
  have HSZX := Lib.hid K.out.size
  have SX0 := Lib.hid (lentR_sl ho)
  clear h1 h2 ho hb
  go_wp2_with fail
  refine (lentR_any q cq m b w2 HM.out (HQ.out.below K.out) (by have := HL.out; omega) HQN.out).mono ?_
  rintro e w3 ⟨g2, c2, rfl, h1, h2, ho, hb⟩
  replace K := Lib.hid (bl_trans K.out hb)
  replace KX := Lib.hid (bl_trans KX.out hb)
  have HC2 := Lib.hid (And.intro h1 h2)
  have HOY := Lib.hid ho
  have KY := Lib.hid (Below.refl w3.heap.size w3)
  have HSZY := Lib.hid KX.out.size
  have SY0 := Lib.hid (lentR_sl ho)
  clear h1 h2 ho hb
  go_wp2_with fail
  have HCH3 := Lib.hid (KY.out.size)
  refine (meet_any (some ⟨g1, 0, none⟩) (some ⟨g2, 0, none⟩) c1 c2 n m a b M w3 HMt.out HN.out HM.out (SX0.out.below KX.out) (SY0.out.below KY.out) (by have := HL.out; omega) (by have := HL.out; omega)).mono ?_
  rintro e w4 hg
  obtain ⟨q3, d3, D3, rfl, hs, hv, hdn, hr, hpl, hb⟩ := given_of hg
  replace K := Lib.hid (bl_trans K.out hb)
  replace KX := Lib.hid (bl_trans KX.out hb)
  replace KY := Lib.hid (bl_trans KY.out hb)
  have S3 := Lib.hid hs
  have HV3 := hv
  have HDN3 := Lib.hid hdn
  have R3 := Lib.hid hr
  have PL3 := Lib.hid hpl
  have HSZ3 := Lib.hid hb.size
  have KS3 := Lib.hid (Below.refl w4.heap.size w4)
  clear hs hv hdn hr hpl hb hg
  go_wp2_with fail
  have HCH4 := Lib.hid (KS3.out.size)
  refine (not_any (some ⟨g1, 0, none⟩) c1 n a N w4 HNg.out HN.out (SX0.out.below KX.out) (by have := HL.out; omega)).mono ?_
  rintro e w5 hg
  obtain ⟨q4, d4, D4, rfl, hs, hv, hdn, hr, hpl, hb⟩ := given_of hg
  replace K := Lib.hid (bl_trans K.out hb)
  replace KX := Lib.hid (bl_trans KX.out hb)
  replace KY := Lib.hid (bl_trans KY.out hb)
  replace S3 := Lib.hid (S3.out.below hb)
  replace R3 := Lib.hid (R3.out.below hb)
  replace KS3 := Lib.hid (bl_trans KS3.out hb)
  have S4 := Lib.hid hs
  have HV4 := hv
  have HDN4 := Lib.hid hdn
  have R4 := Lib.hid hr
  have PL4 := Lib.hid hpl
  have HSZ4 := Lib.hid hb.size
  have KS4 := Lib.hid (Below.refl w5.heap.size w5)
  clear hs hv hdn hr hpl hb hg
  go_wp2_with fail
  refine (leastT (some ⟨g1, 0, none⟩) c1 n a z tl w5 HZ.out HTL.out HN.out (SX0.out.below KX.out) (by have := HL.out; omega)).mono ?_
  rintro e w6 ⟨rfl, hb⟩
  replace K := Lib.hid (bl_trans K.out hb)
  replace KX := Lib.hid (bl_trans KX.out hb)
  replace KY := Lib.hid (bl_trans KY.out hb)
  replace S3 := Lib.hid (S3.out.below hb)
  replace R3 := Lib.hid (R3.out.below hb)
  replace KS3 := Lib.hid (bl_trans KS3.out hb)
  replace S4 := Lib.hid (S4.out.below hb)
  replace R4 := Lib.hid (R4.out.below hb)
  replace KS4 := Lib.hid (bl_trans KS4.out hb)
  clear hb
  go_wp2_with fail
  refine (rleastT p cp n a z tl w6 HZ.out HTL.out HN.out (HP.out.below K.out) (by have := HL.out; omega)).mono ?_
  rintro e w7 ⟨rfl, hb⟩
  replace K := Lib.hid (bl_trans K.out hb)
  replace KX := Lib.hid (bl_trans KX.out hb)
  replace KY := Lib.hid (bl_trans KY.out hb)
  replace S3 := Lib.hid (S3.out.below hb)
  replace R3 := Lib.hid (R3.out.below hb)
  replace KS3 := Lib.hid (bl_trans KS3.out hb)
  replace S4 := Lib.hid (S4.out.below hb)
  replace R4 := Lib.hid (R4.out.below hb)
  replace KS4 := Lib.hid (bl_trans KS4.out hb)
  clear hb
  go_wp2_with fail
  refine (rmeet_any p q cp cq n m a b M w7 HMt.out HN.out HM.out (HP.out.below K.out) (HQ.out.below K.out) (by have := HL.out; omega)).mono ?_
  rintro e w8 ⟨q5, d5, rfl, ho, hb⟩
  replace K := Lib.hid (bl_trans K.out hb)
  replace KX := Lib.hid (bl_trans KX.out hb)
  replace KY := Lib.hid (bl_trans KY.out hb)
  replace S3 := Lib.hid (S3.out.below hb)
  replace R3 := Lib.hid (R3.out.below hb)
  replace KS3 := Lib.hid (bl_trans KS3.out hb)
  replace S4 := Lib.hid (S4.out.below hb)
  replace R4 := Lib.hid (R4.out.below hb)
  replace KS4 := Lib.hid (bl_trans KS4.out hb)
  have S5 := Lib.hid (tells_sl ho)
  clear ho hb
  go_wp2_with fail
  refine (same_self q3 q5 d3 d5 M w8 S3.out S5.out (by have := HLM.out; omega)).mono ?_
  rintro e w9 ⟨rfl, hb⟩
  replace K := Lib.hid (bl_trans K.out hb)
  replace KX := Lib.hid (bl_trans KX.out hb)
  replace KY := Lib.hid (bl_trans KY.out hb)
  replace S3 := Lib.hid (S3.out.below hb)
  replace R3 := Lib.hid (R3.out.below hb)
  replace KS3 := Lib.hid (bl_trans KS3.out hb)
  replace S4 := Lib.hid (S4.out.below hb)
  replace R4 := Lib.hid (R4.out.below hb)
  replace KS4 := Lib.hid (bl_trans KS4.out hb)
  replace S5 := Lib.hid (S5.out.below hb)
  clear hb
  clear S5
  go_wp2_with fail
  refine (rnot_any p cp n a N w9 HNg.out HN.out (HP.out.below K.out) (by have := HL.out; omega)).mono ?_
  rintro e w10 ⟨q6, d6, rfl, ho, hb⟩
  replace K := Lib.hid (bl_trans K.out hb)
  replace KX := Lib.hid (bl_trans KX.out hb)
  replace KY := Lib.hid (bl_trans KY.out hb)
  replace S3 := Lib.hid (S3.out.below hb)
  replace R3 := Lib.hid (R3.out.below hb)
  replace KS3 := Lib.hid (bl_trans KS3.out hb)
  replace S4 := Lib.hid (S4.out.below hb)
  replace R4 := Lib.hid (R4.out.below hb)
  replace KS4 := Lib.hid (bl_trans KS4.out hb)
  have S6 := Lib.hid (tells_sl ho)
  clear ho hb
  go_wp2_with fail
  refine (same_self q4 q6 d4 d6 N w10 S4.out S6.out (by have := HLM.out; omega)).mono ?_
  rintro e w11 ⟨rfl, hb⟩
  replace K := Lib.hid (bl_trans K.out hb)
  replace KX := Lib.hid (bl_trans KX.out hb)
  replace KY := Lib.hid (bl_trans KY.out hb)
  replace S3 := Lib.hid (S3.out.below hb)
  replace R3 := Lib.hid (R3.out.below hb)
  replace KS3 := Lib.hid (bl_trans KS3.out hb)
  replace S4 := Lib.hid (S4.out.below hb)
  replace R4 := Lib.hid (R4.out.below hb)
  replace KS4 := Lib.hid (bl_trans KS4.out hb)
  replace S6 := Lib.hid (S6.out.below hb)
  clear hb
  clear S6
  go_wp2_with fail
  refine (rightT (some ⟨g1, 0, none⟩) c1 n a tr w11 HTR.out HN.out (SX0.out.below KX.out) (by have := HL.out; omega)).mono ?_
  rintro e w12 ⟨rfl, hb⟩
  replace K := Lib.hid (bl_trans K.out hb)
  replace KX := Lib.hid (bl_trans KX.out hb)
  replace KY := Lib.hid (bl_trans KY.out hb)
  replace S3 := Lib.hid (S3.out.below hb)
  replace R3 := Lib.hid (R3.out.below hb)
  replace KS3 := Lib.hid (bl_trans KS3.out hb)
  replace S4 := Lib.hid (S4.out.below hb)
  replace R4 := Lib.hid (R4.out.below hb)
  replace KS4 := Lib.hid (bl_trans KS4.out hb)
  clear hb
  go_wp2_with fail
  refine (rrightT p cp n a tr w12 HTR.out HN.out (HP.out.below K.out) (by have := HL.out; omega)).mono ?_
  rintro e w13 ⟨rfl, hb⟩
  replace K := Lib.hid (bl_trans K.out hb)
  replace KX := Lib.hid (bl_trans KX.out hb)
  replace KY := Lib.hid (bl_trans KY.out hb)
  replace S3 := Lib.hid (S3.out.below hb)
  replace R3 := Lib.hid (R3.out.below hb)
  replace KS3 := Lib.hid (bl_trans KS3.out hb)
  replace S4 := Lib.hid (S4.out.below hb)
  replace R4 := Lib.hid (R4.out.below hb)
  replace KS4 := Lib.hid (bl_trans KS4.out hb)
  clear hb
  go_wp2_with fail
  refine (hasT (some ⟨g1, 0, none⟩) c1 n a c th w13 HTH.out HN.out (SX0.out.below KX.out) (by have := HL.out; omega)).mono ?_
  rintro e w14 ⟨rfl, hb⟩
  replace K := Lib.hid (bl_trans K.out hb)
  replace KX := Lib.hid (bl_trans KX.out hb)
  replace KY := Lib.hid (bl_trans KY.out hb)
  replace S3 := Lib.hid (S3.out.below hb)
  replace R3 := Lib.hid (R3.out.below hb)
  replace KS3 := Lib.hid (bl_trans KS3.out hb)
  replace S4 := Lib.hid (S4.out.below hb)
  replace R4 := Lib.hid (R4.out.below hb)
  replace KS4 := Lib.hid (bl_trans KS4.out hb)
  clear hb
  go_wp2_with fail
  refine (rhasT p cp n a c th w14 HTH.out HN.out (HP.out.below K.out) (by have := HL.out; omega)).mono ?_
  rintro e w15 ⟨rfl, hb⟩
  replace K := Lib.hid (bl_trans K.out hb)
  replace KX := Lib.hid (bl_trans KX.out hb)
  replace KY := Lib.hid (bl_trans KY.out hb)
  replace S3 := Lib.hid (S3.out.below hb)
  replace R3 := Lib.hid (R3.out.below hb)
  replace KS3 := Lib.hid (bl_trans KS3.out hb)
  replace S4 := Lib.hid (S4.out.below hb)
  replace R4 := Lib.hid (R4.out.below hb)
  replace KS4 := Lib.hid (bl_trans KS4.out hb)
  clear hb
  go_wp2_with fail
  refine (manyT (some ⟨g1, 0, none⟩) c1 n a y w15 HY.out HN.out (SX0.out.below KX.out) (by have := HL.out; omega)).mono ?_
  rintro e w16 ⟨rfl, hb⟩
  replace K := Lib.hid (bl_trans K.out hb)
  replace KX := Lib.hid (bl_trans KX.out hb)
  replace KY := Lib.hid (bl_trans KY.out hb)
  replace S3 := Lib.hid (S3.out.below hb)
  replace R3 := Lib.hid (R3.out.below hb)
  replace KS3 := Lib.hid (bl_trans KS3.out hb)
  replace S4 := Lib.hid (S4.out.below hb)
  replace R4 := Lib.hid (R4.out.below hb)
  replace KS4 := Lib.hid (bl_trans KS4.out hb)
  clear hb
  go_wp2_with fail
  refine (rmanyT p cp n a y w16 HY.out HN.out (HP.out.below K.out) (by have := HL.out; omega)).mono ?_
  rintro e w17 ⟨rfl, hb⟩
  replace K := Lib.hid (bl_trans K.out hb)
  replace KX := Lib.hid (bl_trans KX.out hb)
  replace KY := Lib.hid (bl_trans KY.out hb)
  replace S3 := Lib.hid (S3.out.below hb)
  replace R3 := Lib.hid (R3.out.below hb)
  replace KS3 := Lib.hid (bl_trans KS3.out hb)
  replace S4 := Lib.hid (S4.out.below hb)
  replace R4 := Lib.hid (R4.out.below hb)
  replace KS4 := Lib.hid (bl_trans KS4.out hb)
  clear hb
  go_wp2_with fail
  refine (keptR_any p cp n a _ g1 c1 w17 HN.out (HP.out.below K.out) (by have := HL.out; omega) (ownR_below HOX.out KX.out) HC1.out.1 HC1.out.2).mono ?_
  rintro e w18 ⟨rfl, hb⟩
  replace K := Lib.hid (bl_trans K.out hb)
  replace KX := Lib.hid (bl_trans KX.out hb)
  replace KY := Lib.hid (bl_trans KY.out hb)
  replace S3 := Lib.hid (S3.out.below hb)
  replace R3 := Lib.hid (R3.out.below hb)
  replace KS3 := Lib.hid (bl_trans KS3.out hb)
  replace S4 := Lib.hid (S4.out.below hb)
  replace R4 := Lib.hid (R4.out.below hb)
  replace KS4 := Lib.hid (bl_trans KS4.out hb)
  clear hb
  go_wp2_with fail
  refine (keptR_any q cq m b _ g2 c2 w18 HM.out (HQ.out.below K.out) (by have := HL.out; omega) (ownR_below HOY.out KY.out) HC2.out.1 HC2.out.2).mono ?_
  rintro e w19 ⟨rfl, hb⟩
  replace K := Lib.hid (bl_trans K.out hb)
  replace KX := Lib.hid (bl_trans KX.out hb)
  replace KY := Lib.hid (bl_trans KY.out hb)
  replace S3 := Lib.hid (S3.out.below hb)
  replace R3 := Lib.hid (R3.out.below hb)
  replace KS3 := Lib.hid (bl_trans KS3.out hb)
  replace S4 := Lib.hid (S4.out.below hb)
  replace R4 := Lib.hid (R4.out.below hb)
  replace KS4 := Lib.hid (bl_trans KS4.out hb)
  clear hb
  go_wp2_with fail
  have HCH7 := Lib.hid (KS4.out.size)
  refine (meet_any (some ⟨g1, 0, none⟩) (some ⟨g2, 0, none⟩) c1 c2 n m a b M w19 HMt.out HN.out HM.out (SX0.out.below KX.out) (SY0.out.below KY.out) (by have := HL.out; omega) (by have := HL.out; omega)).mono ?_
  rintro e w20 hg
  obtain ⟨q7, d7, D7, rfl, hs, hv, hdn, hr, hpl, hb⟩ := given_of hg
  replace K := Lib.hid (bl_trans K.out hb)
  replace KX := Lib.hid (bl_trans KX.out hb)
  replace KY := Lib.hid (bl_trans KY.out hb)
  replace S3 := Lib.hid (S3.out.below hb)
  replace R3 := Lib.hid (R3.out.below hb)
  replace KS3 := Lib.hid (bl_trans KS3.out hb)
  replace S4 := Lib.hid (S4.out.below hb)
  replace R4 := Lib.hid (R4.out.below hb)
  replace KS4 := Lib.hid (bl_trans KS4.out hb)
  have S7 := Lib.hid hs
  have HV7 := hv
  have HDN7 := Lib.hid hdn
  have R7 := Lib.hid hr
  have PL7 := Lib.hid hpl
  have HSZ7 := Lib.hid hb.size
  have KS7 := Lib.hid (Below.refl w20.heap.size w20)
  clear hs hv hdn hr hpl hb hg
  go_wp2_with fail
  have HCH8 := Lib.hid (KS7.out.size)
  refine (not_any (some ⟨g1, 0, none⟩) c1 n a N w20 HNg.out HN.out (SX0.out.below KX.out) (by have := HL.out; omega)).mono ?_
  rintro e w21 hg
  obtain ⟨q8, d8, D8, rfl, hs, hv, hdn, hr, hpl, hb⟩ := given_of hg
  replace K := Lib.hid (bl_trans K.out hb)
  replace KX := Lib.hid (bl_trans KX.out hb)
  replace KY := Lib.hid (bl_trans KY.out hb)
  replace S3 := Lib.hid (S3.out.below hb)
  replace R3 := Lib.hid (R3.out.below hb)
  replace KS3 := Lib.hid (bl_trans KS3.out hb)
  replace S4 := Lib.hid (S4.out.below hb)
  replace R4 := Lib.hid (R4.out.below hb)
  replace KS4 := Lib.hid (bl_trans KS4.out hb)
  replace S7 := Lib.hid (S7.out.below hb)
  replace R7 := Lib.hid (R7.out.below hb)
  replace KS7 := Lib.hid (bl_trans KS7.out hb)
  have S8 := Lib.hid hs
  have HV8 := hv
  have HDN8 := Lib.hid hdn
  have R8 := Lib.hid hr
  have PL8 := Lib.hid hpl
  have HSZ8 := Lib.hid hb.size
  have KS8 := Lib.hid (Below.refl w21.heap.size w21)
  clear hs hv hdn hr hpl hb hg
  go_wp2_with fail
  have HCH9 := Lib.hid (KS8.out.size)
  refine (joinT (some ⟨g1, 0, none⟩) c1 n a J w21 HJc.out HN.out (SX0.out.below KX.out) (by have := HL.out; omega)).mono ?_
  rintro e w22 hg
  obtain ⟨q9, d9, D9, rfl, hs, hv, hdn, hr, hpl, hb⟩ := given_of hg
  replace K := Lib.hid (bl_trans K.out hb)
  replace KX := Lib.hid (bl_trans KX.out hb)
  replace KY := Lib.hid (bl_trans KY.out hb)
  replace S3 := Lib.hid (S3.out.below hb)
  replace R3 := Lib.hid (R3.out.below hb)
  replace KS3 := Lib.hid (bl_trans KS3.out hb)
  replace S4 := Lib.hid (S4.out.below hb)
  replace R4 := Lib.hid (R4.out.below hb)
  replace KS4 := Lib.hid (bl_trans KS4.out hb)
  replace S7 := Lib.hid (S7.out.below hb)
  replace R7 := Lib.hid (R7.out.below hb)
  replace KS7 := Lib.hid (bl_trans KS7.out hb)
  replace S8 := Lib.hid (S8.out.below hb)
  replace R8 := Lib.hid (R8.out.below hb)
  replace KS8 := Lib.hid (bl_trans KS8.out hb)
  have S9 := Lib.hid hs
  have HV9 := hv
  have HDN9 := Lib.hid hdn
  have R9 := Lib.hid hr
  have PL9 := Lib.hid hpl
  have HSZ9 := Lib.hid hb.size
  have KS9 := Lib.hid (Below.refl w22.heap.size w22)
  clear hs hv hdn hr hpl hb hg
  have HUP : Hid (Up w3.heap.size [D3, D4, D7, D8, D9]) := ⟨w4.heap.size, Nat.le_trans HCH3.out HSZ3.out, fun b e => ⟨Nat.le_trans HCH3.out (PL3.out b e).1, (PL3.out b e).2⟩, ⟨w5.heap.size, Nat.le_trans HCH4.out HSZ4.out, fun b e => ⟨Nat.le_trans HCH4.out (PL4.out b e).1, (PL4.out b e).2⟩, ⟨w20.heap.size, Nat.le_trans HCH7.out HSZ7.out, fun b e => ⟨Nat.le_trans HCH7.out (PL7.out b e).1, (PL7.out b e).2⟩, ⟨w21.heap.size, Nat.le_trans HCH8.out HSZ8.out, fun b e => ⟨Nat.le_trans HCH8.out (PL8.out b e).1, (PL8.out b e).2⟩, ⟨w22.heap.size, Nat.le_trans HCH9.out HSZ9.out, fun b e => ⟨Nat.le_trans HCH9.out (PL9.out b e).1, (PL9.out b e).2⟩, trivial⟩⟩⟩⟩⟩
  have HRM : Hid (∀ k, k < 5 → Room w22 2 (dg [D3, D4, D7, D8, D9] k)) := fun k hk => match k, hk with
    | 0, _ => R3.out
    | 1, _ => R4.out
    | 2, _ => R7.out
    | 3, _ => R8.out
    | 4, _ => R9.out
    | k + 5, h => absurd h (by omega)
  have HNN : Hid (∀ k, k < 5 → (dg [D3, D4, D7, D8, D9] k).n ≤ 100000) := fun k hk => match k, hk with
    | 0, _ => by show D3.n ≤ _; rw [HDN3.out]; have := HLM.out; omega
    | 1, _ => by show D4.n ≤ _; rw [HDN4.out]; have := HLM.out; omega
    | 2, _ => by show D7.n ≤ _; rw [HDN7.out]; have := HLM.out; omega
    | 3, _ => by show D8.n ≤ _; rw [HDN8.out]; have := HLM.out; omega
    | 4, _ => by show D9.n ≤ _; rw [HDN9.out]; have := HLM.out; omega
    | k + 5, h => absurd h (by omega)
  have HAP := Lib.hid (ApartRanges_any (some ⟨w22.heap.size, 0, none⟩) 5 5 [D3, D4, D7, D8, D9] (w22.alloc (.cells #[.slice q3 M.length d3, .slice q4 N.length d4, .slice q7 M.length d7, .slice q8 N.length d8, .slice q9 J.length d9] 22)) rfl (slD_new (fun b ⟨k, hk, e⟩ => (HRM.out k hk).lt b e) (by rw [HV3.out, HV4.out, HV7.out, HV8.out, HV9.out]; rfl)) (fun k hk => (HRM.out k hk).below (bl_alloc _ _)) (up_far HUP.out) (by omega) HNN.out)
  clear S3 S4 S7 S8 S9 HV3 HV4 HV7 HV8 HV9
  go_wp2_with fail
  refine HAP.out.mono ?_
  rintro e w23 ⟨rfl, hb0⟩
  have hb : Below w3.heap.size w22 w23 := ((bl_alloc w22 _).mono KY.out.size).trans (hb0.below (by have := KY.out.size; simp; omega) (fun k s => up_in HUP.out s))
  replace K := Lib.hid (K.out.trans (hb.mono (Nat.le_trans HSZX.out HSZY.out)))
  replace KX := Lib.hid (KX.out.trans (hb.mono HSZY.out))
  replace KY := Lib.hid (KY.out.trans hb)
  clear hb hb0 HAP HRM R3 R4 R7 R8 R9 KS3 KS4 KS7 KS8 KS9
  go_wp2_with fail
  refine (keptR_any p cp n a _ g1 c1 w23 HN.out (HP.out.below K.out) (by have := HL.out; omega) (ownR_below HOX.out KX.out) HC1.out.1 HC1.out.2).mono ?_
  rintro e w24 ⟨rfl, hb⟩
  replace K := Lib.hid (bl_trans K.out hb)
  replace KX := Lib.hid (bl_trans KX.out hb)
  replace KY := Lib.hid (bl_trans KY.out hb)
  clear hb
  go_wp2_with fail
  refine (keptR_any q cq m b _ g2 c2 w24 HM.out (HQ.out.below K.out) (by have := HL.out; omega) (ownR_below HOY.out KY.out) HC2.out.1 HC2.out.2).mono ?_
  rintro e w25 ⟨rfl, hb⟩
  replace K := Lib.hid (bl_trans K.out hb)
  replace KX := Lib.hid (bl_trans KX.out hb)
  replace KY := Lib.hid (bl_trans KY.out hb)
  clear hb
  go_wp2_with fail
  refine (awake_any w25).mono ?_
  rintro e w26 ⟨rfl, hb⟩
  replace K := Lib.hid (bl_trans K.out hb)
  replace KX := Lib.hid (bl_trans KX.out hb)
  replace KY := Lib.hid (bl_trans KY.out hb)
  clear hb
  go_wp2
  go_ret
  exact ⟨rfl, K.out⟩
end Go.Proofs.YtobdkkcihjpebaaGreat
