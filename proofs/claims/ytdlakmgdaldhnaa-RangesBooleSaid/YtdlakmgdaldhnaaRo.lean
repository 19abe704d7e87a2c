/- The walk of RangesBoole: sets are an algebra. -/
import Derived.Test.YtdlakmgdaldhnaaRn
namespace Go.Proofs.Ytdlakmgdaldhnaa
open Go.RowKit Tnr

theorem ce1 (a : List R) : cn a = ng (ng a) := (cn_right a).one (ng_right _) fun c => by
  rw [cn_has, ng_has, ng_has]
  constructor
  · intro h; exact ⟨h.1, h.2.1, fun k => k.2.2 h⟩
  · intro h
    by_cases k : Has a c
    · exact k
    · exact absurd ⟨h.1, h.2.1, k⟩ h.2.2
theorem all_right : Rt [((0 : Int), (1114111 : Int))] := ⟨by omega, by simp only; omega, by simp only; omega, trivial⟩
theorem all_has (c : Int) : Has [((0 : Int), (1114111 : Int))] c ↔ 0 ≤ c ∧ c ≤ 1114111 := by
  unfold Has
  rw [cov_cons]
  simp only [cov_nil, or_false]
  omega
theorem ce2 (a : List R) : [(0, 1114111)] = cn (a ++ ng a) := all_right.one (cn_right _) fun c => by
  rw [cn_has, has_append, ng_has, all_has]
  constructor
  · intro h
    by_cases k : Has a c
    · exact .inl k
    · exact .inr ⟨h.1, h.2, k⟩
  · rintro (h | h)
    · exact ⟨h.1, h.2.1⟩
    · exact ⟨h.1, h.2.1⟩
theorem ce3 (a : List R) : [] = mt a (ng a) := (show Rt [] from trivial).one (mt_right _ _) fun c => by
  rw [mt_has, ng_has]
  constructor
  · intro h; exact absurd h.2.2 (cov_nil c)
  · intro h; exact absurd h.1 h.2.2.2
theorem ce4 (a b : List R) : cn (a ++ b) = cn (b ++ a) := cn_eq.2 fun c => by rw [has_append, has_append]; exact or_comm
theorem ce5 (a b : List R) : mt a b = mt b a := (mt_right _ _).one (mt_right _ _) fun c => by rw [mt_has, mt_has]; exact and_comm
theorem ce6 (a b d : List R) : cn (a ++ (b ++ d)) = cn (cn (a ++ b) ++ d) := cn_eq.2 fun c => by rw [has_append, has_append, has_append, cn_has, has_append]; exact or_assoc.symm
theorem ce7 (a b d : List R) : mt a (mt b d) = mt (mt a b) d := (mt_right _ _).one (mt_right _ _) fun c => by rw [mt_has, mt_has, mt_has, mt_has]; exact and_assoc.symm
theorem ce8 (a b d : List R) : cn (mt d a ++ mt d b) = mt d (cn (a ++ b)) := (cn_right _).one (mt_right _ _) fun c => by rw [cn_has, has_append, mt_has, mt_has, mt_has, cn_has, has_append]; exact and_or_left.symm
theorem ce9 (a b d : List R) : mt (cn (d ++ a)) (cn (d ++ b)) = cn (d ++ mt a b) := (mt_right _ _).one (cn_right _) fun c => by rw [mt_has, cn_has, cn_has, cn_has, has_append, has_append, has_append, mt_has]; exact or_and_left.symm
theorem ce10 (a b : List R) : mt (ng a) (ng b) = ng (cn (a ++ b)) := (mt_right _ _).one (ng_right _) fun c => by
  rw [mt_has, ng_has, ng_has, ng_has, cn_has, has_append]
  constructor
  · intro h; exact ⟨h.1.1, h.1.2.1, fun k => k.elim h.1.2.2 h.2.2.2⟩
  · intro h; exact ⟨⟨h.1, h.2.1, fun k => h.2.2 (.inl k)⟩, h.1, h.2.1, fun k => h.2.2 (.inr k)⟩
theorem cm1 (a b : List R) : mny (cn (a ++ b)) + mny (mt a b) = mny a + mny b := by
  have h := cnt_sum (j := cn (a ++ b)) (m := mt a b) (a := a) (b := b) (fun c => by rw [cn_has, has_append]) (fun c => mt_has a b c) 1114112
  rw [mny_cnt, mny_cnt, mny_cnt, mny_cnt]; omega
theorem cm2 (a : List R) : mny a + mny (ng a) = 1114112 := by
  have h := cnt_all (n := ng a) (a := a) (fun c => ng_has a c) 1114112 (by omega)
  rw [mny_cnt, mny_cnt]; omega
theorem cn_rightB (l : List R) : rightB (cn l) = true := (rfB_iff _ _).2 (cn_right l)
theorem mt_rightB (a b : List R) : rightB (mt a b) = true := (rfB_iff _ _).2 (mt_right a b)
theorem ng_rightB (l : List R) : rightB (ng l) = true := (rfB_iff _ _).2 (ng_right l)
theorem right_told (p : Option Addr) (c m : Nat) (l : List R) (w : World) (hr : rightB l = true) (hm : m = l.length) (hp : SlR w p l) (hl : l.length ≤ 50000) :
    Calls Try.prog 19 #[.slice p m c] w fun e w' => e = .returned (.bool true) ∧ Below w.heap.size w w' := by
  subst hm
  have h := right_any p c l w hp (by omega)
  rw [hr] at h
  exact h
theorem many_told (p : Option Addr) (c m : Nat) (l : List R) (x : Int) (w : World) (hx : x = mny l) (hm : m = l.length) (hp : SlR w p l) (hl : l.length ≤ 50000) :
    Calls Try.prog 20 #[.slice p m c] w fun e w' => e = .returned (.int .i64 x) ∧ Below w.heap.size w w' := by
  subst hm hx
  exact many_any p c l w hp hl
theorem great_three (p q s : Option Addr) (c e f : Nat) (a b d : List R) (t : Bool) (W : World) (ht : t = decide (150 < 3 + (a.length + (b.length + d.length)))) (hp : SlR W p a) (hq : SlR W q b) (hs : SlR W s d) (ha : a.length ≤ 1000000000000000) (hb : b.length ≤ 1000000000000000) (hd : d.length ≤ 1000000000000000) :
    Calls Try.prog 6 #[.slice (some ⟨W.heap.size, 0, none⟩) 3 3] (W.alloc (.cells #[.slice p a.length c, .slice q b.length e, .slice s d.length f] 29)) fun e w' => e = .returned (.bool t) ∧ Below W.heap.size W w' := by
  have ef : flat [(p, c, a), (q, e, b), (s, f, d)] = a ++ (b ++ d) := by simp [flat]
  refine (great_any (some ⟨W.heap.size, 0, none⟩) 3 3 [(p, c, a), (q, e, b), (s, f, d)] _ rfl (sls_new (fun x hx => by
    simp only [List.mem_cons, List.not_mem_nil, or_false] at hx
    rcases hx with rfl | rfl | rfl
    · exact hp
    · exact hq
    · exact hs) rfl) (by simp) (fun x hx => by
    simp only [List.mem_cons, List.not_mem_nil, or_false] at hx
    rcases hx with rfl | rfl | rfl <;> simp only <;> omega)).mono ?_
  rintro e w' ⟨rfl, rfl⟩
  rw [ef, List.length_append, List.length_append] at *
  exact ⟨by rw [ht]; rfl, bl_alloc _ _⟩

set_option maxHeartbeats 25600000 in
set_option maxRecDepth 100000 in
theorem boole_true (pa pb pd : Option Addr) (ka kb kd : Nat) (a b d : List R) (w : World) (ha : SlR w pa a) (hb : SlR w pb b) (hd : SlR w pd d) (la : a.length ≤ 1000000000000000) (lb : b.length ≤ 1000000000000000) (ld : d.length ≤ 1000000000000000) :
    Calls Try.prog 4 #[.slice pa a.length ka, .slice pb b.length kb, .slice pd d.length kd] w fun e w' => e = .returned (.bool true) ∧ Below w.heap.size w w' := by
  have Sa := Lib.hid ha
  have Sb := Lib.hid hb
  have Sd := Lib.hid hd
  have La := Lib.hid la
  have Lb := Lib.hid lb
  have Ld := Lib.hid ld
  clear ha hb hd la lb ld
  obtain ⟨t, ht⟩ : ∃ t, t = decide (150 < 3 + (a.length + (b.length + d.length))) := ⟨_, rfl⟩
  have HT := Lib.hid ht
  clear ht
  go_enter Try.func4, Try.ntmps4
  go_wp2_with fail
  refine (awake_any w).mono ?_
  rintro e w1 ⟨rfl, hb⟩
  replace Sa := Lib.hid (Sa.out.below hb)
  replace Sb := Lib.hid (Sb.out.below hb)
  replace Sd := Lib.hid (Sd.out.below hb)
  have K := Lib.hid hb
  clear hb
  go_wp2_with fail
  refine (great_three pa pb pd ka kb kd a b d t w1 HT.out Sa.out Sb.out Sd.out La.out Lb.out Ld.out).mono ?_
  rintro e w2 ⟨rfl, hb⟩
  replace Sa := Lib.hid (Sa.out.below hb)
  replace Sb := Lib.hid (Sb.out.below hb)
  replace Sd := Lib.hid (Sd.out.below hb)
  replace K := Lib.hid (bl_trans K.out hb)
  clear hb
  cases t with
  | true =>
    go_wp2
    go_ret
    exact ⟨rfl, K.out⟩
  | false =>
  have H150 : Hid (a.length + (b.length + d.length) ≤ 147) := by
    have h := HT.out
    have := of_decide_eq_false h.symm
    show _ ≤ 147
    omega
  clear HT La Lb Ld
  have Sl := Lib.hid (slr_new w2 [(0, 1114111)] #[.int .i64 0, .int .i64 1114111] 38 rfl)
  have hb := bl_alloc w2 (.cells #[.int .i64 0, .int .i64 1114111] 38)
  replace Sa := Lib.hid (Sa.out.below hb)
  replace Sb := Lib.hid (Sb.out.below hb)
  replace Sd := Lib.hid (Sd.out.below hb)
  replace K := Lib.hid (bl_trans K.out hb)
  obtain ⟨pl, hpl⟩ : ∃ p, p = some (⟨w2.heap.size, 0, none⟩ : Addr) := ⟨_, rfl⟩
  obtain ⟨u, hu⟩ : ∃ u, u = w2.alloc (.cells #[.int .i64 0, .int .i64 1114111] 38) := ⟨_, rfl⟩
  have HPL := Lib.hid hpl
  have HU := Lib.hid hu
  rw [← hpl, ← hu] at Sl
  rw [← hu] at Sa Sb Sd K
  clear hb hpl hu
  go_wp2_with fail
  rw [← HU.out, ← HPL.out]
  have hus : u.heap.size = w2.heap.size + 1 := by rw [HU.out]; simp
  try rw [← hus]
  clear hus
  refine (join_two pa pb ka kb a.length b.length a b (cn (a ++ b)) u rfl rfl rfl Sa.out Sb.out (by have := H150.out; omega)).mono ?_
  rintro e w3 ⟨pj, kj, rfl, hs, hb⟩
  replace Sa := Lib.hid (Sa.out.below hb)
  replace Sb := Lib.hid (Sb.out.below hb)
  replace Sd := Lib.hid (Sd.out.below hb)
  replace Sl := Lib.hid (Sl.out.below hb)
  replace K := Lib.hid (bl_trans K.out hb)
  have Sj := Lib.hid hs
  clear hs hb
  obtain ⟨j, hj⟩ : ∃ l : List R, l = cn (a ++ b) := ⟨_, rfl⟩
  have Lj : Hid (j.length ≤ 200) := by
    show j.length ≤ 200
    rw [hj]
    have h1 := cn_length (a ++ b); rw [List.length_append] at h1; have := H150.out; omega
  rw [← hj] at Sj ⊢
  have Ej := Lib.hid hj
  clear hj
  go_wp2_with fail
  refine (meet_told pa pb ka kb (a).length (b).length a b (mt a b) w3 rfl rfl rfl Sa.out Sb.out (by have := H150.out; have := Lj.out; omega) (by have := H150.out; have := Lj.out; omega)).mono ?_
  rintro e w4 ⟨pm, km, rfl, hs, hb⟩
  replace Sa := Lib.hid (Sa.out.below hb)
  replace Sb := Lib.hid (Sb.out.below hb)
  replace Sd := Lib.hid (Sd.out.below hb)
  replace Sl := Lib.hid (Sl.out.below hb)
  replace Sj := Lib.hid (Sj.out.below hb)
  replace K := Lib.hid (bl_trans K.out hb)
  have Sm := Lib.hid hs
  clear hs
  clear hb
  obtain ⟨m, hm⟩ : ∃ l : List R, l = mt a b := ⟨_, rfl⟩
  have Lm : Hid (m.length ≤ 200) := by
    show m.length ≤ 200
    rw [hm]
    have h1 := mt_length a b; have := H150.out; omega
  rw [← hm] at Sm ⊢
  have Em := Lib.hid hm
  clear hm
  go_wp2_with fail
  refine (not_told pa ka (a).length a (ng a) w4 rfl rfl Sa.out (by have := H150.out; have := Lj.out; have := Lm.out; omega)).mono ?_
  rintro e w5 ⟨pn, kn, rfl, hs, hb⟩
  replace Sa := Lib.hid (Sa.out.below hb)
  replace Sb := Lib.hid (Sb.out.below hb)
  replace Sd := Lib.hid (Sd.out.below hb)
  replace Sl := Lib.hid (Sl.out.below hb)
  replace Sj := Lib.hid (Sj.out.below hb)
  replace Sm := Lib.hid (Sm.out.below hb)
  replace K := Lib.hid (bl_trans K.out hb)
  have Sn := Lib.hid hs
  clear hs
  clear hb
  obtain ⟨n, hn⟩ : ∃ l : List R, l = ng a := ⟨_, rfl⟩
  have Ln : Hid (n.length ≤ 200) := by
    show n.length ≤ 200
    rw [hn]
    have h1 := ng_length a; have := H150.out; omega
  rw [← hn] at Sn ⊢
  have En := Lib.hid hn
  clear hn
  go_wp2_with fail
  refine (right_told pj kj (j).length j w5 (by rw [Ej.out]; exact cn_rightB _) rfl Sj.out (by have := H150.out; have := Lj.out; have := Lm.out; have := Ln.out; omega)).mono ?_
  rintro e w6 ⟨rfl, hb⟩
  replace Sa := Lib.hid (Sa.out.below hb)
  replace Sb := Lib.hid (Sb.out.below hb)
  replace Sd := Lib.hid (Sd.out.below hb)
  replace Sl := Lib.hid (Sl.out.below hb)
  replace Sj := Lib.hid (Sj.out.below hb)
  replace Sm := Lib.hid (Sm.out.below hb)
  replace Sn := Lib.hid (Sn.out.below hb)
  replace K := Lib.hid (bl_trans K.out hb)
  clear hb
  go_wp2_with fail
  refine (right_told pm km (m).length m w6 (by rw [Em.out]; exact mt_rightB _ _) rfl Sm.out (by have := H150.out; have := Lj.out; have := Lm.out; have := Ln.out; omega)).mono ?_
  rintro e w7 ⟨rfl, hb⟩
  replace Sa := Lib.hid (Sa.out.below hb)
  replace Sb := Lib.hid (Sb.out.below hb)
  replace Sd := Lib.hid (Sd.out.below hb)
  replace Sl := Lib.hid (Sl.out.below hb)
  replace Sj := Lib.hid (Sj.out.below hb)
  replace Sm := Lib.hid (Sm.out.below hb)
  replace Sn := Lib.hid (Sn.out.below hb)
  replace K := Lib.hid (bl_trans K.out hb)
  clear hb
  go_wp2_with fail
  refine (right_told pn kn (n).length n w7 (by rw [En.out]; exact ng_rightB _) rfl Sn.out (by have := H150.out; have := Lj.out; have := Lm.out; have := Ln.out; omega)).mono ?_
  rintro e w8 ⟨rfl, hb⟩
  replace Sa := Lib.hid (Sa.out.below hb)
  replace Sb := Lib.hid (Sb.out.below hb)
  replace Sd := Lib.hid (Sd.out.below hb)
  replace Sl := Lib.hid (Sl.out.below hb)
  replace Sj := Lib.hid (Sj.out.below hb)
  replace Sm := Lib.hid (Sm.out.below hb)
  replace Sn := Lib.hid (Sn.out.below hb)
  replace K := Lib.hid (bl_trans K.out hb)
  clear hb
  obtain ⟨r1, hr1⟩ : ∃ l : List R, l = cn a := ⟨_, rfl⟩
  have Lr1 : Hid (r1.length ≤ 200) := by
    show r1.length ≤ 200
    rw [hr1]
    have h1 := cn_length a; have := H150.out; omega
  have Er1 := Lib.hid hr1
  clear hr1
  go_wp2_with fail
  refine (not_told pn kn (n).length n r1 w8 (by rw [Er1.out, En.out]; exact ce1 a) rfl Sn.out (by have := H150.out; have := Lj.out; have := Lm.out; have := Ln.out; have := Lr1.out; omega)).mono ?_
  rintro e w9 ⟨px, kx, rfl, hs, hb⟩
  replace Sa := Lib.hid (Sa.out.below hb)
  replace Sb := Lib.hid (Sb.out.below hb)
  replace Sd := Lib.hid (Sd.out.below hb)
  replace Sl := Lib.hid (Sl.out.below hb)
  replace Sj := Lib.hid (Sj.out.below hb)
  replace Sm := Lib.hid (Sm.out.below hb)
  replace Sn := Lib.hid (Sn.out.below hb)
  replace K := Lib.hid (bl_trans K.out hb)
  have Sx := Lib.hid hs
  clear hs
  clear hb
  go_wp2_with fail
  refine (join_one pa ka (a).length a r1 w9 (Er1.out) rfl Sa.out (by have := H150.out; have := Lj.out; have := Lm.out; have := Ln.out; have := Lr1.out; omega)).mono ?_
  rintro e w10 ⟨py, ky, rfl, hs, hb⟩
  replace Sa := Lib.hid (Sa.out.below hb)
  replace Sb := Lib.hid (Sb.out.below hb)
  replace Sd := Lib.hid (Sd.out.below hb)
  replace Sl := Lib.hid (Sl.out.below hb)
  replace Sj := Lib.hid (Sj.out.below hb)
  replace Sm := Lib.hid (Sm.out.below hb)
  replace Sn := Lib.hid (Sn.out.below hb)
  replace Sx := Lib.hid (Sx.out.below hb)
  replace K := Lib.hid (bl_trans K.out hb)
  have Sy := Lib.hid hs
  clear hs
  clear hb
  go_wp2_with fail
  refine (lsame_any px py kx ky (r1).length (r1).length r1 r1 true w10 (by simp) rfl rfl Sx.out Sy.out (by have := H150.out; have := Lj.out; have := Lm.out; have := Ln.out; have := Lr1.out; omega) (by have := H150.out; have := Lj.out; have := Lm.out; have := Ln.out; have := Lr1.out; omega)).mono ?_
  rintro e w11 ⟨rfl, hb⟩
  replace Sa := Lib.hid (Sa.out.below hb)
  replace Sb := Lib.hid (Sb.out.below hb)
  replace Sd := Lib.hid (Sd.out.below hb)
  replace Sl := Lib.hid (Sl.out.below hb)
  replace Sj := Lib.hid (Sj.out.below hb)
  replace Sm := Lib.hid (Sm.out.below hb)
  replace Sn := Lib.hid (Sn.out.below hb)
  replace Sx := Lib.hid (Sx.out.below hb)
  replace Sy := Lib.hid (Sy.out.below hb)
  replace K := Lib.hid (bl_trans K.out hb)
  clear hb
  clear Sx Sy
  go_wp2_with fail
  refine (join_two pa pn ka kn (a).length (n).length a n ([(0, 1114111)]) w11 (by rw [En.out]; exact ce2 a) rfl rfl Sa.out Sn.out (by have := H150.out; have := Lj.out; have := Lm.out; have := Ln.out; have := Lr1.out; omega)).mono ?_
  rintro e w12 ⟨px, kx, rfl, hs, hb⟩
  replace Sa := Lib.hid (Sa.out.below hb)
  replace Sb := Lib.hid (Sb.out.below hb)
  replace Sd := Lib.hid (Sd.out.below hb)
  replace Sl := Lib.hid (Sl.out.below hb)
  replace Sj := Lib.hid (Sj.out.below hb)
  replace Sm := Lib.hid (Sm.out.below hb)
  replace Sn := Lib.hid (Sn.out.below hb)
  replace K := Lib.hid (bl_trans K.out hb)
  have Sx := Lib.hid hs
  clear hs
  clear hb
  have e1 : ∀ x : R, [x].length = 1 := fun _ => rfl
  clear e1
  go_wp2_with fail
  refine (lsame_any px pl kx 1 1 1 [(0, 1114111)] [(0, 1114111)] true w12 (by simp) rfl rfl Sx.out Sl.out (by decide) (by decide)).mono ?_
  rintro e w13 ⟨rfl, hb⟩
  replace Sa := Lib.hid (Sa.out.below hb)
  replace Sb := Lib.hid (Sb.out.below hb)
  replace Sd := Lib.hid (Sd.out.below hb)
  replace Sl := Lib.hid (Sl.out.below hb)
  replace Sj := Lib.hid (Sj.out.below hb)
  replace Sm := Lib.hid (Sm.out.below hb)
  replace Sn := Lib.hid (Sn.out.below hb)
  replace Sx := Lib.hid (Sx.out.below hb)
  replace K := Lib.hid (bl_trans K.out hb)
  clear hb
  clear Sx Sl
  go_wp2_with fail
  refine (meet_told pa pn ka kn (a).length (n).length a n ([]) w13 (by rw [En.out]; exact ce3 a) rfl rfl Sa.out Sn.out (by have := H150.out; have := Lj.out; have := Lm.out; have := Ln.out; have := Lr1.out; omega) (by have := H150.out; have := Lj.out; have := Lm.out; have := Ln.out; have := Lr1.out; omega)).mono ?_
  rintro e w14 ⟨px, kx, rfl, hs, hb⟩
  replace Sa := Lib.hid (Sa.out.below hb)
  replace Sb := Lib.hid (Sb.out.below hb)
  replace Sd := Lib.hid (Sd.out.below hb)
  replace Sj := Lib.hid (Sj.out.below hb)
  replace Sm := Lib.hid (Sm.out.below hb)
  replace Sn := Lib.hid (Sn.out.below hb)
  replace K := Lib.hid (bl_trans K.out hb)
  have Sx := Lib.hid hs
  clear hs
  clear hb
  clear Sx
  go_wp2_with fail
  refine (join_two pb pa kb ka (b).length (a).length b a j w14 (by rw [Ej.out]; exact ce4 a b) rfl rfl Sb.out Sa.out (by have := H150.out; have := Lj.out; have := Lm.out; have := Ln.out; have := Lr1.out; omega)).mono ?_
  rintro e w15 ⟨px, kx, rfl, hs, hb⟩
  replace Sa := Lib.hid (Sa.out.below hb)
  replace Sb := Lib.hid (Sb.out.below hb)
  replace Sd := Lib.hid (Sd.out.below hb)
  replace Sj := Lib.hid (Sj.out.below hb)
  replace Sm := Lib.hid (Sm.out.below hb)
  replace Sn := Lib.hid (Sn.out.below hb)
  replace K := Lib.hid (bl_trans K.out hb)
  have Sx := Lib.hid hs
  clear hs
  clear hb
  go_wp2_with fail
  refine (lsame_any pj px kj kx (j).length (j).length j j true w15 (by simp) rfl rfl Sj.out Sx.out (by have := H150.out; have := Lj.out; have := Lm.out; have := Ln.out; have := Lr1.out; omega) (by have := H150.out; have := Lj.out; have := Lm.out; have := Ln.out; have := Lr1.out; omega)).mono ?_
  rintro e w16 ⟨rfl, hb⟩
  replace Sa := Lib.hid (Sa.out.below hb)
  replace Sb := Lib.hid (Sb.out.below hb)
  replace Sd := Lib.hid (Sd.out.below hb)
  replace Sj := Lib.hid (Sj.out.below hb)
  replace Sm := Lib.hid (Sm.out.below hb)
  replace Sn := Lib.hid (Sn.out.below hb)
  replace Sx := Lib.hid (Sx.out.below hb)
  replace K := Lib.hid (bl_trans K.out hb)
  clear hb
  clear Sx
  go_wp2_with fail
  refine (meet_told pb pa kb ka (b).length (a).length b a m w16 (by rw [Em.out]; exact ce5 a b) rfl rfl Sb.out Sa.out (by have := H150.out; have := Lj.out; have := Lm.out; have := Ln.out; have := Lr1.out; omega) (by have := H150.out; have := Lj.out; have := Lm.out; have := Ln.out; have := Lr1.out; omega)).mono ?_
  rintro e w17 ⟨px, kx, rfl, hs, hb⟩
  replace Sa := Lib.hid (Sa.out.below hb)
  replace Sb := Lib.hid (Sb.out.below hb)
  replace Sd := Lib.hid (Sd.out.below hb)
  replace Sj := Lib.hid (Sj.out.below hb)
  replace Sm := Lib.hid (Sm.out.below hb)
  replace Sn := Lib.hid (Sn.out.below hb)
  replace K := Lib.hid (bl_trans K.out hb)
  have Sx := Lib.hid hs
  clear hs
  clear hb
  go_wp2_with fail
  refine (lsame_any pm px km kx (m).length (m).length m m true w17 (by simp) rfl rfl Sm.out Sx.out (by have := H150.out; have := Lj.out; have := Lm.out; have := Ln.out; have := Lr1.out; omega) (by have := H150.out; have := Lj.out; have := Lm.out; have := Ln.out; have := Lr1.out; omega)).mono ?_
  rintro e w18 ⟨rfl, hb⟩
  replace Sa := Lib.hid (Sa.out.below hb)
  replace Sb := Lib.hid (Sb.out.below hb)
  replace Sd := Lib.hid (Sd.out.below hb)
  replace Sj := Lib.hid (Sj.out.below hb)
  replace Sm := Lib.hid (Sm.out.below hb)
  replace Sn := Lib.hid (Sn.out.below hb)
  replace Sx := Lib.hid (Sx.out.below hb)
  replace K := Lib.hid (bl_trans K.out hb)
  clear hb
  clear Sx
  obtain ⟨r2, hr2⟩ : ∃ l : List R, l = cn (a ++ (b ++ d)) := ⟨_, rfl⟩
  have Lr2 : Hid (r2.length ≤ 200) := by
    show r2.length ≤ 200
    rw [hr2]
    have h1 := cn_length (a ++ (b ++ d)); rw [List.length_append, List.length_append] at h1; have := H150.out; omega
  have Er2 := Lib.hid hr2
  clear hr2
  go_wp2_with fail
  refine (join_two pj pd kj kd (j).length (d).length j d r2 w18 (by rw [Er2.out, Ej.out]; exact ce6 a b d) rfl rfl Sj.out Sd.out (by have := H150.out; have := Lj.out; have := Lm.out; have := Ln.out; have := Lr1.out; have := Lr2.out; omega)).mono ?_
  rintro e w19 ⟨px, kx, rfl, hs, hb⟩
  replace Sa := Lib.hid (Sa.out.below hb)
  replace Sb := Lib.hid (Sb.out.below hb)
  replace Sd := Lib.hid (Sd.out.below hb)
  replace Sj := Lib.hid (Sj.out.below hb)
  replace Sm := Lib.hid (Sm.out.below hb)
  replace Sn := Lib.hid (Sn.out.below hb)
  replace K := Lib.hid (bl_trans K.out hb)
  have Sx := Lib.hid hs
  clear hs
  clear hb
  go_wp2_with fail
  refine (join_three pa pb pd ka kb kd (a).length (b).length (d).length a b d r2 w19 (Er2.out) rfl rfl rfl Sa.out Sb.out Sd.out (by have := H150.out; have := Lj.out; have := Lm.out; have := Ln.out; have := Lr1.out; have := Lr2.out; omega)).mono ?_
  rintro e w20 ⟨py, ky, rfl, hs, hb⟩
  replace Sa := Lib.hid (Sa.out.below hb)
  replace Sb := Lib.hid (Sb.out.below hb)
  replace Sd := Lib.hid (Sd.out.below hb)
  replace Sj := Lib.hid (Sj.out.below hb)
  replace Sm := Lib.hid (Sm.out.below hb)
  replace Sn := Lib.hid (Sn.out.below hb)
  replace Sx := Lib.hid (Sx.out.below hb)
  replace K := Lib.hid (bl_trans K.out hb)
  have Sy := Lib.hid hs
  clear hs
  clear hb
  go_wp2_with fail
  refine (lsame_any px py kx ky (r2).length (r2).length r2 r2 true w20 (by simp) rfl rfl Sx.out Sy.out (by have := H150.out; have := Lj.out; have := Lm.out; have := Ln.out; have := Lr1.out; have := Lr2.out; omega) (by have := H150.out; have := Lj.out; have := Lm.out; have := Ln.out; have := Lr1.out; have := Lr2.out; omega)).mono ?_
  rintro e w21 ⟨rfl, hb⟩
  replace Sa := Lib.hid (Sa.out.below hb)
  replace Sb := Lib.hid (Sb.out.below hb)
  replace Sd := Lib.hid (Sd.out.below hb)
  replace Sj := Lib.hid (Sj.out.below hb)
  replace Sm := Lib.hid (Sm.out.below hb)
  replace Sn := Lib.hid (Sn.out.below hb)
  replace Sx := Lib.hid (Sx.out.below hb)
  replace Sy := Lib.hid (Sy.out.below hb)
  replace K := Lib.hid (bl_trans K.out hb)
  clear hb
  clear Sx Sy
  obtain ⟨r3, hr3⟩ : ∃ l : List R, l = mt a (mt b d) := ⟨_, rfl⟩
  have Lr3 : Hid (r3.length ≤ 400) := by
    show r3.length ≤ 400
    rw [hr3]
    have h1 := mt_length a (mt b d); have h2 := mt_length b d; have := H150.out; omega
  have Er3 := Lib.hid hr3
  clear hr3
  go_wp2_with fail
  refine (meet_told pm pd km kd (m).length (d).length m d r3 w21 (by rw [Er3.out, Em.out]; exact ce7 a b d) rfl rfl Sm.out Sd.out (by have := H150.out; have := Lj.out; have := Lm.out; have := Ln.out; have := Lr1.out; have := Lr2.out; have := Lr3.out; omega) (by have := H150.out; have := Lj.out; have := Lm.out; have := Ln.out; have := Lr1.out; have := Lr2.out; have := Lr3.out; omega)).mono ?_
  rintro e w22 ⟨px, kx, rfl, hs, hb⟩
  replace Sa := Lib.hid (Sa.out.below hb)
  replace Sb := Lib.hid (Sb.out.below hb)
  replace Sd := Lib.hid (Sd.out.below hb)
  replace Sj := Lib.hid (Sj.out.below hb)
  replace Sm := Lib.hid (Sm.out.below hb)
  replace Sn := Lib.hid (Sn.out.below hb)
  replace K := Lib.hid (bl_trans K.out hb)
  have Sx := Lib.hid hs
  clear hs
  clear hb
  obtain ⟨r4, hr4⟩ : ∃ l : List R, l = mt b d := ⟨_, rfl⟩
  have Lr4 : Hid (r4.length ≤ 200) := by
    show r4.length ≤ 200
    rw [hr4]
    have h2 := mt_length b d; have := H150.out; omega
  have Er4 := Lib.hid hr4
  clear hr4
  go_wp2_with fail
  refine (meet_told pb pd kb kd (b).length (d).length b d r4 w22 (Er4.out) rfl rfl Sb.out Sd.out (by have := H150.out; have := Lj.out; have := Lm.out; have := Ln.out; have := Lr1.out; have := Lr2.out; have := Lr3.out; have := Lr4.out; omega) (by have := H150.out; have := Lj.out; have := Lm.out; have := Ln.out; have := Lr1.out; have := Lr2.out; have := Lr3.out; have := Lr4.out; omega)).mono ?_
  rintro e w23 ⟨pz, kz, rfl, hs, hb⟩
  replace Sa := Lib.hid (Sa.out.below hb)
  replace Sb := Lib.hid (Sb.out.below hb)
  replace Sd := Lib.hid (Sd.out.below hb)
  replace Sj := Lib.hid (Sj.out.below hb)
  replace Sm := Lib.hid (Sm.out.below hb)
  replace Sn := Lib.hid (Sn.out.below hb)
  replace Sx := Lib.hid (Sx.out.below hb)
  replace K := Lib.hid (bl_trans K.out hb)
  have Sz := Lib.hid hs
  clear hs
  clear hb
  go_wp2_with fail
  refine (meet_told pa pz ka kz (a).length (r4).length a r4 r3 w23 (by rw [Er3.out, Er4.out]) rfl rfl Sa.out Sz.out (by have := H150.out; have := Lj.out; have := Lm.out; have := Ln.out; have := Lr1.out; have := Lr2.out; have := Lr3.out; have := Lr4.out; omega) (by have := H150.out; have := Lj.out; have := Lm.out; have := Ln.out; have := Lr1.out; have := Lr2.out; have := Lr3.out; have := Lr4.out; omega)).mono ?_
  rintro e w24 ⟨py, ky, rfl, hs, hb⟩
  replace Sa := Lib.hid (Sa.out.below hb)
  replace Sb := Lib.hid (Sb.out.below hb)
  replace Sd := Lib.hid (Sd.out.below hb)
  replace Sj := Lib.hid (Sj.out.below hb)
  replace Sm := Lib.hid (Sm.out.below hb)
  replace Sn := Lib.hid (Sn.out.below hb)
  replace Sx := Lib.hid (Sx.out.below hb)
  replace Sz := Lib.hid (Sz.out.below hb)
  replace K := Lib.hid (bl_trans K.out hb)
  have Sy := Lib.hid hs
  clear hs
  clear hb
  go_wp2_with fail
  refine (lsame_any px py kx ky (r3).length (r3).length r3 r3 true w24 (by simp) rfl rfl Sx.out Sy.out (by have := H150.out; have := Lj.out; have := Lm.out; have := Ln.out; have := Lr1.out; have := Lr2.out; have := Lr3.out; have := Lr4.out; omega) (by have := H150.out; have := Lj.out; have := Lm.out; have := Ln.out; have := Lr1.out; have := Lr2.out; have := Lr3.out; have := Lr4.out; omega)).mono ?_
  rintro e w25 ⟨rfl, hb⟩
  replace Sa := Lib.hid (Sa.out.below hb)
  replace Sb := Lib.hid (Sb.out.below hb)
  replace Sd := Lib.hid (Sd.out.below hb)
  replace Sj := Lib.hid (Sj.out.below hb)
  replace Sm := Lib.hid (Sm.out.below hb)
  replace Sn := Lib.hid (Sn.out.below hb)
  replace Sx := Lib.hid (Sx.out.below hb)
  replace Sz := Lib.hid (Sz.out.below hb)
  replace Sy := Lib.hid (Sy.out.below hb)
  replace K := Lib.hid (bl_trans K.out hb)
  clear hb
  clear Sx Sy Sz
  obtain ⟨r5, hr5⟩ : ∃ l : List R, l = mt d (cn (a ++ b)) := ⟨_, rfl⟩
  have Lr5 : Hid (r5.length ≤ 400) := by
    show r5.length ≤ 400
    rw [hr5]
    have h1 := mt_length d (cn (a ++ b)); have h2 := cn_length (a ++ b); rw [List.length_append] at h2; have := H150.out; omega
  have Er5 := Lib.hid hr5
  clear hr5
  go_wp2_with fail
  refine (meet_told pd pj kd kj (d).length (j).length d j r5 w25 (by rw [Er5.out, Ej.out]) rfl rfl Sd.out Sj.out (by have := H150.out; have := Lj.out; have := Lm.out; have := Ln.out; have := Lr1.out; have := Lr2.out; have := Lr3.out; have := Lr4.out; have := Lr5.out; omega) (by have := H150.out; have := Lj.out; have := Lm.out; have := Ln.out; have := Lr1.out; have := Lr2.out; have := Lr3.out; have := Lr4.out; have := Lr5.out; omega)).mono ?_
  rintro e w26 ⟨px, kx, rfl, hs, hb⟩
  replace Sa := Lib.hid (Sa.out.below hb)
  replace Sb := Lib.hid (Sb.out.below hb)
  replace Sd := Lib.hid (Sd.out.below hb)
  replace Sj := Lib.hid (Sj.out.below hb)
  replace Sm := Lib.hid (Sm.out.below hb)
  replace Sn := Lib.hid (Sn.out.below hb)
  replace K := Lib.hid (bl_trans K.out hb)
  have Sx := Lib.hid hs
  clear hs
  clear hb
  obtain ⟨r6, hr6⟩ : ∃ l : List R, l = mt d a := ⟨_, rfl⟩
  have Lr6 : Hid (r6.length ≤ 200) := by
    show r6.length ≤ 200
    rw [hr6]
    have h2 := mt_length d a; have := H150.out; omega
  have Er6 := Lib.hid hr6
  clear hr6
  obtain ⟨r7, hr7⟩ : ∃ l : List R, l = mt d b := ⟨_, rfl⟩
  have Lr7 : Hid (r7.length ≤ 200) := by
    show r7.length ≤ 200
    rw [hr7]
    have h2 := mt_length d b; have := H150.out; omega
  have Er7 := Lib.hid hr7
  clear hr7
  go_wp2_with fail
  refine (meet_told pd pa kd ka (d).length (a).length d a r6 w26 (Er6.out) rfl rfl Sd.out Sa.out (by have := H150.out; have := Lj.out; have := Lm.out; have := Ln.out; have := Lr1.out; have := Lr2.out; have := Lr3.out; have := Lr4.out; have := Lr5.out; have := Lr6.out; have := Lr7.out; omega) (by have := H150.out; have := Lj.out; have := Lm.out; have := Ln.out; have := Lr1.out; have := Lr2.out; have := Lr3.out; have := Lr4.out; have := Lr5.out; have := Lr6.out; have := Lr7.out; omega)).mono ?_
  rintro e w27 ⟨py, ky, rfl, hs, hb⟩
  replace Sa := Lib.hid (Sa.out.below hb)
  replace Sb := Lib.hid (Sb.out.below hb)
  replace Sd := Lib.hid (Sd.out.below hb)
  replace Sj := Lib.hid (Sj.out.below hb)
  replace Sm := Lib.hid (Sm.out.below hb)
  replace Sn := Lib.hid (Sn.out.below hb)
  replace Sx := Lib.hid (Sx.out.below hb)
  replace K := Lib.hid (bl_trans K.out hb)
  have Sy := Lib.hid hs
  clear hs
  clear hb
  go_wp2_with fail
  refine (meet_told pd pb kd kb (d).length (b).length d b r7 w27 (Er7.out) rfl rfl Sd.out Sb.out (by have := H150.out; have := Lj.out; have := Lm.out; have := Ln.out; have := Lr1.out; have := Lr2.out; have := Lr3.out; have := Lr4.out; have := Lr5.out; have := Lr6.out; have := Lr7.out; omega) (by have := H150.out; have := Lj.out; have := Lm.out; have := Ln.out; have := Lr1.out; have := Lr2.out; have := Lr3.out; have := Lr4.out; have := Lr5.out; have := Lr6.out; have := Lr7.out; omega)).mono ?_
  rintro e w28 ⟨pz, kz, rfl, hs, hb⟩
  replace Sa := Lib.hid (Sa.out.below hb)
  replace Sb := Lib.hid (Sb.out.below hb)
  replace Sd := Lib.hid (Sd.out.below hb)
  replace Sj := Lib.hid (Sj.out.below hb)
  replace Sm := Lib.hid (Sm.out.below hb)
  replace Sn := Lib.hid (Sn.out.below hb)
  replace Sx := Lib.hid (Sx.out.below hb)
  replace Sy := Lib.hid (Sy.out.below hb)
  replace K := Lib.hid (bl_trans K.out hb)
  have Sz := Lib.hid hs
  clear hs
  clear hb
  go_wp2_with fail
  refine (join_two py pz ky kz (r6).length (r7).length r6 r7 r5 w28 (by rw [Er5.out, Er6.out, Er7.out]; exact (ce8 a b d).symm) rfl rfl Sy.out Sz.out (by have := H150.out; have := Lj.out; have := Lm.out; have := Ln.out; have := Lr1.out; have := Lr2.out; have := Lr3.out; have := Lr4.out; have := Lr5.out; have := Lr6.out; have := Lr7.out; omega)).mono ?_
  rintro e w29 ⟨pv, kv, rfl, hs, hb⟩
  replace Sa := Lib.hid (Sa.out.below hb)
  replace Sb := Lib.hid (Sb.out.below hb)
  replace Sd := Lib.hid (Sd.out.below hb)
  replace Sj := Lib.hid (Sj.out.below hb)
  replace Sm := Lib.hid (Sm.out.below hb)
  replace Sn := Lib.hid (Sn.out.below hb)
  replace Sx := Lib.hid (Sx.out.below hb)
  replace Sy := Lib.hid (Sy.out.below hb)
  replace Sz := Lib.hid (Sz.out.below hb)
  replace K := Lib.hid (bl_trans K.out hb)
  have Sv := Lib.hid hs
  clear hs
  clear hb
  go_wp2_with fail
  refine (lsame_any px pv kx kv (r5).length (r5).length r5 r5 true w29 (by simp) rfl rfl Sx.out Sv.out (by have := H150.out; have := Lj.out; have := Lm.out; have := Ln.out; have := Lr1.out; have := Lr2.out; have := Lr3.out; have := Lr4.out; have := Lr5.out; have := Lr6.out; have := Lr7.out; omega) (by have := H150.out; have := Lj.out; have := Lm.out; have := Ln.out; have := Lr1.out; have := Lr2.out; have := Lr3.out; have := Lr4.out; have := Lr5.out; have := Lr6.out; have := Lr7.out; omega)).mono ?_
  rintro e w30 ⟨rfl, hb⟩
  replace Sa := Lib.hid (Sa.out.below hb)
  replace Sb := Lib.hid (Sb.out.below hb)
  replace Sd := Lib.hid (Sd.out.below hb)
  replace Sj := Lib.hid (Sj.out.below hb)
  replace Sm := Lib.hid (Sm.out.below hb)
  replace Sn := Lib.hid (Sn.out.below hb)
  replace Sx := Lib.hid (Sx.out.below hb)
  replace Sy := Lib.hid (Sy.out.below hb)
  replace Sz := Lib.hid (Sz.out.below hb)
  replace Sv := Lib.hid (Sv.out.below hb)
  replace K := Lib.hid (bl_trans K.out hb)
  clear hb
  clear Sx Sy Sz Sv
  obtain ⟨r8, hr8⟩ : ∃ l : List R, l = cn (d ++ mt a b) := ⟨_, rfl⟩
  have Lr8 : Hid (r8.length ≤ 400) := by
    show r8.length ≤ 400
    rw [hr8]
    have h1 := cn_length (d ++ mt a b); rw [List.length_append] at h1; have h2 := mt_length a b; have := H150.out; omega
  have Er8 := Lib.hid hr8
  clear hr8
  obtain ⟨r9, hr9⟩ : ∃ l : List R, l = cn (d ++ a) := ⟨_, rfl⟩
  have Lr9 : Hid (r9.length ≤ 200) := by
    show r9.length ≤ 200
    rw [hr9]
    have h1 := cn_length (d ++ a); rw [List.length_append] at h1; have := H150.out; omega
  have Er9 := Lib.hid hr9
  clear hr9
  obtain ⟨s1, hs1⟩ : ∃ l : List R, l = cn (d ++ b) := ⟨_, rfl⟩
  have Ls1 : Hid (s1.length ≤ 200) := by
    show s1.length ≤ 200
    rw [hs1]
    have h1 := cn_length (d ++ b); rw [List.length_append] at h1; have := H150.out; omega
  have Es1 := Lib.hid hs1
  clear hs1
  go_wp2_with fail
  refine (join_two pd pm kd km (d).length (m).length d m r8 w30 (by rw [Er8.out, Em.out]) rfl rfl Sd.out Sm.out (by have := H150.out; have := Lj.out; have := Lm.out; have := Ln.out; have := Lr1.out; have := Lr2.out; have := Lr3.out; have := Lr4.out; have := Lr5.out; have := Lr6.out; have := Lr7.out; have := Lr8.out; have := Lr9.out; have := Ls1.out; omega)).mono ?_
  rintro e w31 ⟨px, kx, rfl, hs, hb⟩
  replace Sa := Lib.hid (Sa.out.below hb)
  replace Sb := Lib.hid (Sb.out.below hb)
  replace Sd := Lib.hid (Sd.out.below hb)
  replace Sj := Lib.hid (Sj.out.below hb)
  replace Sm := Lib.hid (Sm.out.below hb)
  replace Sn := Lib.hid (Sn.out.below hb)
  replace K := Lib.hid (bl_trans K.out hb)
  have Sx := Lib.hid hs
  clear hs
  clear hb
  go_wp2_with fail
  refine (join_two pd pa kd ka (d).length (a).length d a r9 w31 (Er9.out) rfl rfl Sd.out Sa.out (by have := H150.out; have := Lj.out; have := Lm.out; have := Ln.out; have := Lr1.out; have := Lr2.out; have := Lr3.out; have := Lr4.out; have := Lr5.out; have := Lr6.out; have := Lr7.out; have := Lr8.out; have := Lr9.out; have := Ls1.out; omega)).mono ?_
  rintro e w32 ⟨py, ky, rfl, hs, hb⟩
  replace Sa := Lib.hid (Sa.out.below hb)
  replace Sb := Lib.hid (Sb.out.below hb)
  replace Sd := Lib.hid (Sd.out.below hb)
  replace Sj := Lib.hid (Sj.out.below hb)
  replace Sm := Lib.hid (Sm.out.below hb)
  replace Sn := Lib.hid (Sn.out.below hb)
  replace Sx := Lib.hid (Sx.out.below hb)
  replace K := Lib.hid (bl_trans K.out hb)
  have Sy := Lib.hid hs
  clear hs
  clear hb
  go_wp2_with fail
  refine (join_two pd pb kd kb (d).length (b).length d b s1 w32 (Es1.out) rfl rfl Sd.out Sb.out (by have := H150.out; have := Lj.out; have := Lm.out; have := Ln.out; have := Lr1.out; have := Lr2.out; have := Lr3.out; have := Lr4.out; have := Lr5.out; have := Lr6.out; have := Lr7.out; have := Lr8.out; have := Lr9.out; have := Ls1.out; omega)).mono ?_
  rintro e w33 ⟨pz, kz, rfl, hs, hb⟩
  replace Sa := Lib.hid (Sa.out.below hb)
  replace Sb := Lib.hid (Sb.out.below hb)
  replace Sd := Lib.hid (Sd.out.below hb)
  replace Sj := Lib.hid (Sj.out.below hb)
  replace Sm := Lib.hid (Sm.out.below hb)
  replace Sn := Lib.hid (Sn.out.below hb)
  replace Sx := Lib.hid (Sx.out.below hb)
  replace Sy := Lib.hid (Sy.out.below hb)
  replace K := Lib.hid (bl_trans K.out hb)
  have Sz := Lib.hid hs
  clear hs
  clear hb
  go_wp2_with fail
  refine (meet_told py pz ky kz (r9).length (s1).length r9 s1 r8 w33 (by rw [Er8.out, Er9.out, Es1.out]; exact (ce9 a b d).symm) rfl rfl Sy.out Sz.out (by have := H150.out; have := Lj.out; have := Lm.out; have := Ln.out; have := Lr1.out; have := Lr2.out; have := Lr3.out; have := Lr4.out; have := Lr5.out; have := Lr6.out; have := Lr7.out; have := Lr8.out; have := Lr9.out; have := Ls1.out; omega) (by have := H150.out; have := Lj.out; have := Lm.out; have := Ln.out; have := Lr1.out; have := Lr2.out; have := Lr3.out; have := Lr4.out; have := Lr5.out; have := Lr6.out; have := Lr7.out; have := Lr8.out; have := Lr9.out; have := Ls1.out; omega)).mono ?_
  rintro e w34 ⟨pv, kv, rfl, hs, hb⟩
  replace Sa := Lib.hid (Sa.out.below hb)
  replace Sb := Lib.hid (Sb.out.below hb)
  replace Sd := Lib.hid (Sd.out.below hb)
  replace Sj := Lib.hid (Sj.out.below hb)
  replace Sm := Lib.hid (Sm.out.below hb)
  replace Sn := Lib.hid (Sn.out.below hb)
  replace Sx := Lib.hid (Sx.out.below hb)
  replace Sy := Lib.hid (Sy.out.below hb)
  replace Sz := Lib.hid (Sz.out.below hb)
  replace K := Lib.hid (bl_trans K.out hb)
  have Sv := Lib.hid hs
  clear hs
  clear hb
  go_wp2_with fail
  refine (lsame_any px pv kx kv (r8).length (r8).length r8 r8 true w34 (by simp) rfl rfl Sx.out Sv.out (by have := H150.out; have := Lj.out; have := Lm.out; have := Ln.out; have := Lr1.out; have := Lr2.out; have := Lr3.out; have := Lr4.out; have := Lr5.out; have := Lr6.out; have := Lr7.out; have := Lr8.out; have := Lr9.out; have := Ls1.out; omega) (by have := H150.out; have := Lj.out; have := Lm.out; have := Ln.out; have := Lr1.out; have := Lr2.out; have := Lr3.out; have := Lr4.out; have := Lr5.out; have := Lr6.out; have := Lr7.out; have := Lr8.out; have := Lr9.out; have := Ls1.out; omega)).mono ?_
  rintro e w35 ⟨rfl, hb⟩
  replace Sa := Lib.hid (Sa.out.below hb)
  replace Sb := Lib.hid (Sb.out.below hb)
  replace Sd := Lib.hid (Sd.out.below hb)
  replace Sj := Lib.hid (Sj.out.below hb)
  replace Sm := Lib.hid (Sm.out.below hb)
  replace Sn := Lib.hid (Sn.out.below hb)
  replace Sx := Lib.hid (Sx.out.below hb)
  replace Sy := Lib.hid (Sy.out.below hb)
  replace Sz := Lib.hid (Sz.out.below hb)
  replace Sv := Lib.hid (Sv.out.below hb)
  replace K := Lib.hid (bl_trans K.out hb)
  clear hb
  clear Sx Sy Sz Sv
  obtain ⟨s2, hs2⟩ : ∃ l : List R, l = ng (cn (a ++ b)) := ⟨_, rfl⟩
  have Ls2 : Hid (s2.length ≤ 300) := by
    show s2.length ≤ 300
    rw [hs2]
    have h1 := ng_length (cn (a ++ b)); have h2 := cn_length (a ++ b); rw [List.length_append] at h2; have := H150.out; omega
  have Es2 := Lib.hid hs2
  clear hs2
  obtain ⟨s3, hs3⟩ : ∃ l : List R, l = ng b := ⟨_, rfl⟩
  have Ls3 : Hid (s3.length ≤ 200) := by
    show s3.length ≤ 200
    rw [hs3]
    have h2 := ng_length b; have := H150.out; omega
  have Es3 := Lib.hid hs3
  clear hs3
  go_wp2_with fail
  refine (not_told pj kj (j).length j s2 w35 (by rw [Es2.out, Ej.out]) rfl Sj.out (by have := H150.out; have := Lj.out; have := Lm.out; have := Ln.out; have := Lr1.out; have := Lr2.out; have := Lr3.out; have := Lr4.out; have := Lr5.out; have := Lr6.out; have := Lr7.out; have := Lr8.out; have := Lr9.out; have := Ls1.out; have := Ls2.out; have := Ls3.out; omega)).mono ?_
  rintro e w36 ⟨px, kx, rfl, hs, hb⟩
  replace Sa := Lib.hid (Sa.out.below hb)
  replace Sb := Lib.hid (Sb.out.below hb)
  replace Sd := Lib.hid (Sd.out.below hb)
  replace Sj := Lib.hid (Sj.out.below hb)
  replace Sm := Lib.hid (Sm.out.below hb)
  replace Sn := Lib.hid (Sn.out.below hb)
  replace K := Lib.hid (bl_trans K.out hb)
  have Sx := Lib.hid hs
  clear hs
  clear hb
  go_wp2_with fail
  refine (not_told pb kb (b).length b s3 w36 (Es3.out) rfl Sb.out (by have := H150.out; have := Lj.out; have := Lm.out; have := Ln.out; have := Lr1.out; have := Lr2.out; have := Lr3.out; have := Lr4.out; have := Lr5.out; have := Lr6.out; have := Lr7.out; have := Lr8.out; have := Lr9.out; have := Ls1.out; have := Ls2.out; have := Ls3.out; omega)).mono ?_
  rintro e w37 ⟨py, ky, rfl, hs, hb⟩
  replace Sa := Lib.hid (Sa.out.below hb)
  replace Sb := Lib.hid (Sb.out.below hb)
  replace Sd := Lib.hid (Sd.out.below hb)
  replace Sj := Lib.hid (Sj.out.below hb)
  replace Sm := Lib.hid (Sm.out.below hb)
  replace Sn := Lib.hid (Sn.out.below hb)
  replace Sx := Lib.hid (Sx.out.below hb)
  replace K := Lib.hid (bl_trans K.out hb)
  have Sy := Lib.hid hs
  clear hs
  clear hb
  go_wp2_with fail
  refine (meet_told pn py kn ky (n).length (s3).length n s3 s2 w37 (by rw [Es2.out, En.out, Es3.out]; exact (ce10 a b).symm) rfl rfl Sn.out Sy.out (by have := H150.out; have := Lj.out; have := Lm.out; have := Ln.out; have := Lr1.out; have := Lr2.out; have := Lr3.out; have := Lr4.out; have := Lr5.out; have := Lr6.out; have := Lr7.out; have := Lr8.out; have := Lr9.out; have := Ls1.out; have := Ls2.out; have := Ls3.out; omega) (by have := H150.out; have := Lj.out; have := Lm.out; have := Ln.out; have := Lr1.out; have := Lr2.out; have := Lr3.out; have := Lr4.out; have := Lr5.out; have := Lr6.out; have := Lr7.out; have := Lr8.out; have := Lr9.out; have := Ls1.out; have := Ls2.out; have := Ls3.out; omega)).mono ?_
  rintro e w38 ⟨pz, kz, rfl, hs, hb⟩
  replace Sa := Lib.hid (Sa.out.below hb)
  replace Sb := Lib.hid (Sb.out.below hb)
  replace Sd := Lib.hid (Sd.out.below hb)
  replace Sj := Lib.hid (Sj.out.below hb)
  replace Sm := Lib.hid (Sm.out.below hb)
  replace Sn := Lib.hid (Sn.out.below hb)
  replace Sx := Lib.hid (Sx.out.below hb)
  replace Sy := Lib.hid (Sy.out.below hb)
  replace K := Lib.hid (bl_trans K.out hb)
  have Sz := Lib.hid hs
  clear hs
  clear hb
  go_wp2_with fail
  refine (lsame_any px pz kx kz (s2).length (s2).length s2 s2 true w38 (by simp) rfl rfl Sx.out Sz.out (by have := H150.out; have := Lj.out; have := Lm.out; have := Ln.out; have := Lr1.out; have := Lr2.out; have := Lr3.out; have := Lr4.out; have := Lr5.out; have := Lr6.out; have := Lr7.out; have := Lr8.out; have := Lr9.out; have := Ls1.out; have := Ls2.out; have := Ls3.out; omega) (by have := H150.out; have := Lj.out; have := Lm.out; have := Ln.out; have := Lr1.out; have := Lr2.out; have := Lr3.out; have := Lr4.out; have := Lr5.out; have := Lr6.out; have := Lr7.out; have := Lr8.out; have := Lr9.out; have := Ls1.out; have := Ls2.out; have := Ls3.out; omega)).mono ?_
  rintro e w39 ⟨rfl, hb⟩
  replace Sa := Lib.hid (Sa.out.below hb)
  replace Sb := Lib.hid (Sb.out.below hb)
  replace Sd := Lib.hid (Sd.out.below hb)
  replace Sj := Lib.hid (Sj.out.below hb)
  replace Sm := Lib.hid (Sm.out.below hb)
  replace Sn := Lib.hid (Sn.out.below hb)
  replace Sx := Lib.hid (Sx.out.below hb)
  replace Sy := Lib.hid (Sy.out.below hb)
  replace Sz := Lib.hid (Sz.out.below hb)
  replace K := Lib.hid (bl_trans K.out hb)
  clear hb
  clear Sx Sy Sz
  obtain ⟨x1, hx1⟩ : ∃ x : Int, x = mny j := ⟨_, rfl⟩
  have Bx1 := mny_range j
  rw [← hx1] at Bx1
  have bx10 := Bx1.1
  have bx11 := Bx1.2
  have Mx1 := Lib.hid hx1
  clear hx1 Bx1
  obtain ⟨x2, hx2⟩ : ∃ x : Int, x = mny m := ⟨_, rfl⟩
  have Bx2 := mny_range m
  rw [← hx2] at Bx2
  have bx20 := Bx2.1
  have bx21 := Bx2.2
  have Mx2 := Lib.hid hx2
  clear hx2 Bx2
  obtain ⟨x3, hx3⟩ : ∃ x : Int, x = mny a := ⟨_, rfl⟩
  have Bx3 := mny_range a
  rw [← hx3] at Bx3
  have bx30 := Bx3.1
  have bx31 := Bx3.2
  have Mx3 := Lib.hid hx3
  clear hx3 Bx3
  obtain ⟨x4, hx4⟩ : ∃ x : Int, x = mny b := ⟨_, rfl⟩
  have Bx4 := mny_range b
  rw [← hx4] at Bx4
  have bx40 := Bx4.1
  have bx41 := Bx4.2
  have Mx4 := Lib.hid hx4
  clear hx4 Bx4
  obtain ⟨x5, hx5⟩ : ∃ x : Int, x = mny n := ⟨_, rfl⟩
  have Bx5 := mny_range n
  rw [← hx5] at Bx5
  have bx50 := Bx5.1
  have bx51 := Bx5.2
  have Mx5 := Lib.hid hx5
  clear hx5 Bx5
  have q1 : (x1 + x2 == x3 + x4) = true := by rw [Mx1.out, Mx2.out, Mx3.out, Mx4.out, Ej.out, Em.out, cm1]; simp
  have q2 : (x3 + x5 == 1114112) = true := by rw [Mx3.out, Mx5.out, En.out, cm2]; rfl
  go_wp2_with fail
  refine (many_told pj kj (j).length j x1 w39 Mx1.out rfl Sj.out (by have := H150.out; have := Lj.out; have := Lm.out; have := Ln.out; have := Lr1.out; have := Lr2.out; have := Lr3.out; have := Lr4.out; have := Lr5.out; have := Lr6.out; have := Lr7.out; have := Lr8.out; have := Lr9.out; have := Ls1.out; have := Ls2.out; have := Ls3.out; omega)).mono ?_
  rintro e w40 ⟨rfl, hb⟩
  replace Sa := Lib.hid (Sa.out.below hb)
  replace Sb := Lib.hid (Sb.out.below hb)
  replace Sd := Lib.hid (Sd.out.below hb)
  replace Sj := Lib.hid (Sj.out.below hb)
  replace Sm := Lib.hid (Sm.out.below hb)
  replace Sn := Lib.hid (Sn.out.below hb)
  replace K := Lib.hid (bl_trans K.out hb)
  clear hb
  go_wp2_with fail
  refine (many_told pm km (m).length m x2 w40 Mx2.out rfl Sm.out (by have := H150.out; have := Lj.out; have := Lm.out; have := Ln.out; have := Lr1.out; have := Lr2.out; have := Lr3.out; have := Lr4.out; have := Lr5.out; have := Lr6.out; have := Lr7.out; have := Lr8.out; have := Lr9.out; have := Ls1.out; have := Ls2.out; have := Ls3.out; omega)).mono ?_
  rintro e w41 ⟨rfl, hb⟩
  replace Sa := Lib.hid (Sa.out.below hb)
  replace Sb := Lib.hid (Sb.out.below hb)
  replace Sd := Lib.hid (Sd.out.below hb)
  replace Sj := Lib.hid (Sj.out.below hb)
  replace Sm := Lib.hid (Sm.out.below hb)
  replace Sn := Lib.hid (Sn.out.below hb)
  replace K := Lib.hid (bl_trans K.out hb)
  clear hb
  go_wp2_with fail
  refine (many_told pa ka (a).length a x3 w41 Mx3.out rfl Sa.out (by have := H150.out; have := Lj.out; have := Lm.out; have := Ln.out; have := Lr1.out; have := Lr2.out; have := Lr3.out; have := Lr4.out; have := Lr5.out; have := Lr6.out; have := Lr7.out; have := Lr8.out; have := Lr9.out; have := Ls1.out; have := Ls2.out; have := Ls3.out; omega)).mono ?_
  rintro e w42 ⟨rfl, hb⟩
  replace Sa := Lib.hid (Sa.out.below hb)
  replace Sb := Lib.hid (Sb.out.below hb)
  replace Sd := Lib.hid (Sd.out.below hb)
  replace Sj := Lib.hid (Sj.out.below hb)
  replace Sm := Lib.hid (Sm.out.below hb)
  replace Sn := Lib.hid (Sn.out.below hb)
  replace K := Lib.hid (bl_trans K.out hb)
  clear hb
  go_wp2_with fail
  refine (many_told pb kb (b).length b x4 w42 Mx4.out rfl Sb.out (by have := H150.out; have := Lj.out; have := Lm.out; have := Ln.out; have := Lr1.out; have := Lr2.out; have := Lr3.out; have := Lr4.out; have := Lr5.out; have := Lr6.out; have := Lr7.out; have := Lr8.out; have := Lr9.out; have := Ls1.out; have := Ls2.out; have := Ls3.out; omega)).mono ?_
  rintro e w43 ⟨rfl, hb⟩
  replace Sa := Lib.hid (Sa.out.below hb)
  replace Sb := Lib.hid (Sb.out.below hb)
  replace Sd := Lib.hid (Sd.out.below hb)
  replace Sj := Lib.hid (Sj.out.below hb)
  replace Sm := Lib.hid (Sm.out.below hb)
  replace Sn := Lib.hid (Sn.out.below hb)
  replace K := Lib.hid (bl_trans K.out hb)
  clear hb
  go_wp2_with fail
  refine (many_told pa ka (a).length a x3 w43 Mx3.out rfl Sa.out (by have := H150.out; have := Lj.out; have := Lm.out; have := Ln.out; have := Lr1.out; have := Lr2.out; have := Lr3.out; have := Lr4.out; have := Lr5.out; have := Lr6.out; have := Lr7.out; have := Lr8.out; have := Lr9.out; have := Ls1.out; have := Ls2.out; have := Ls3.out; omega)).mono ?_
  rintro e w44 ⟨rfl, hb⟩
  replace Sa := Lib.hid (Sa.out.below hb)
  replace Sb := Lib.hid (Sb.out.below hb)
  replace Sd := Lib.hid (Sd.out.below hb)
  replace Sj := Lib.hid (Sj.out.below hb)
  replace Sm := Lib.hid (Sm.out.below hb)
  replace Sn := Lib.hid (Sn.out.below hb)
  replace K := Lib.hid (bl_trans K.out hb)
  clear hb
  go_wp2_with fail
  refine (many_told pn kn (n).length n x5 w44 Mx5.out rfl Sn.out (by have := H150.out; have := Lj.out; have := Lm.out; have := Ln.out; have := Lr1.out; have := Lr2.out; have := Lr3.out; have := Lr4.out; have := Lr5.out; have := Lr6.out; have := Lr7.out; have := Lr8.out; have := Lr9.out; have := Ls1.out; have := Ls2.out; have := Ls3.out; omega)).mono ?_
  rintro e w45 ⟨rfl, hb⟩
  replace Sa := Lib.hid (Sa.out.below hb)
  replace Sb := Lib.hid (Sb.out.below hb)
  replace Sd := Lib.hid (Sd.out.below hb)
  replace Sj := Lib.hid (Sj.out.below hb)
  replace Sm := Lib.hid (Sm.out.below hb)
  replace Sn := Lib.hid (Sn.out.below hb)
  replace K := Lib.hid (bl_trans K.out hb)
  clear hb
  go_wp2
  go_ret
  exact ⟨rfl, K.out⟩
end Go.Proofs.Ytdlakmgdaldhnaa
