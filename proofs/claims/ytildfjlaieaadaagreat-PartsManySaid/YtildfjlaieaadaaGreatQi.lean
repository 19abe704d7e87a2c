/- The walk of parted: the classes by some sets, by halves. -/
import Derived.Test.YtildfjlaieaadaaGreatQd
import Derived.Test.YtildfjlaieaadaaGreatQg

namespace Go.Proofs.YtildfjlaieaadaaGreat
open Go.RowKit Tnr

def rowsV (xs : List SV) : List (List R) := xs.map fun x => x.2.2
theorem rowsV_flat (xs : List SV) : (rowsV xs).flatten = flat xs := by unfold rowsV flat; rw [List.flatMap_def]
theorem rowsV_length (xs : List SV) : (rowsV xs).length = xs.length := by simp [rowsV]
theorem rowsV_split (xs : List SV) (h : Nat) : rowsV xs = rowsV (xs.take h) ++ rowsV (xs.drop h) := by
  unfold rowsV
  rw [← List.map_append, List.take_append_drop]
theorem flat_split (xs : List SV) (h : Nat) : flat xs = flat (xs.take h) ++ flat (xs.drop h) := by rw [← flat_append, List.take_append_drop]
theorem gs_take {xs : List SV} {h i : Nat} (hi : i < h) (hx : i < xs.length) : gs (xs.take h) i = gs xs i := by
  rw [gs_get (by rw [List.length_take]; omega), gs_get hx, List.getElem_take]
theorem gs_drop {xs : List SV} {h i : Nat} (hx : h + i < xs.length) : gs (xs.drop h) i = gs xs (h + i) := by
  rw [gs_get (by rw [List.length_drop]; omega), gs_get hx, List.getElem_drop]
theorem sls_take {w : World} {p : Option Addr} {xs : List SV} (h : SlS w p xs) (k : Nat) : SlS w p (xs.take k) := by
  refine ⟨fun x hx => h.1 x (List.mem_of_mem_take hx), ?_⟩
  rcases h.2 with h0 | ⟨b, off, h1, h2⟩
  · left; rw [h0]; simp
  · refine .inr ⟨b, off, h1, fun i hi => ?_⟩
    rw [List.length_take] at hi
    rw [gs_take (by omega) (by omega)]
    exact h2 i (by omega)
theorem sls_drop {w : World} {b off : Nat} {xs : List SV} (h : SlS w (some ⟨b, off, none⟩) xs) (k : Nat) : SlS w (some ⟨b, off + k, none⟩) (xs.drop k) := by
  refine ⟨fun x hx => h.1 x (List.mem_of_mem_drop hx), ?_⟩
  rcases h.2 with h0 | ⟨b', off', h1, h2⟩
  · left; rw [h0]; simp
  · simp only [Option.some.injEq, Addr.mk.injEq, and_true] at h1
    obtain ⟨rfl, rfl⟩ := h1
    refine .inr ⟨b, off + k, rfl, fun i hi => ?_⟩
    rw [List.length_drop] at hi
    rw [gs_drop (by omega), Nat.add_assoc]
    exact h2 (k + i) (by omega)
/-- numbers' cells lie beside a box of slices. -/
theorem slq_box {W : World} {B k : Nat} {T : TypeId} {p : Option Addr} {l : List Int} {q1 q2 : Option Addr} {n1 c1 n2 c2 : Nat} (h : SlQ W p l) (hb : Box2 W B T (.slice q1 n1 c1) (.slice q2 n2 c2)) (x : Value) : SlQ (W.setCell ⟨B, k, none⟩ x) p l := by
  rcases h with h | ⟨b, off, h1, h2⟩
  · exact .inl h
  · refine .inr ⟨b, off, h1, fun i hi => ?_⟩
    have hc := h2 i hi
    have hne : b ≠ B := by
      intro e
      subst e
      unfold World.cell? at hc
      rw [show W.heap[b]? = _ from hb] at hc
      simp only at hc
      rcases h3 : off + i with _ | _ | j <;> rw [h3] at hc <;> simp at hc
    rw [← hc]
    unfold World.cell?
    rw [Below.heap_setCell _ _ _ b hne]
theorem cls_box {W : World} {B : Nat} {T : TypeId} {v : Value} {ps : List (Int × Nat)} {q1 q2 : Option Addr} {n1 c1 n2 c2 : Nat} (h : ClsAt W v ps) (hb : Box2 W B T (.slice q1 n1 c1) (.slice q2 n2 c2)) {q3 q4 : Option Addr} {n3 c3 n4 c4 : Nat} : ClsAt ((W.setCell ⟨B, 0, none⟩ (.slice q3 n3 c3)).setCell ⟨B, 1, none⟩ (.slice q4 n4 c4)) v ps := by
  obtain ⟨p, c, q, d, h1, h2, h3⟩ := h
  exact ⟨p, c, q, d, h1, slq_box (slq_box h2 hb _) (hb.set0 (.slice q3 n3 c3)) _, slq_box (slq_box h3 hb _) (hb.set0 (.slice q3 n3 c3)) _⟩
theorem setP_one (l : List R) : ∃ n, Tnr.Good [l] (setP (cn l)) n := by
  obtain ⟨n, h⟩ := setP_good (cn_right l)
  refine ⟨n, good_cong h fun a b => ?_⟩
  unfold alike
  simp only [List.mem_singleton, forall_eq]
  rw [cn_has, cn_has]
theorem setP_none : ∃ n, Tnr.Good [] (setP (cn [])) n := by
  obtain ⟨n, h⟩ := setP_good (cn_right [])
  refine ⟨n, good_cong h fun a b => ?_⟩
  unfold alike
  simp only [List.mem_singleton, forall_eq, List.not_mem_nil, false_implies, implies_true, iff_true]
  rw [cn_has, cn_has]
  constructor
  · intro q; exact absurd q.2.2 (cov_nil _)
  · intro q; exact absurd q.2.2 (cov_nil _)

/-- a value of classes that tells apart what some sets do. -/
def ClsV (w : World) (v : Value) (S : List (List R)) (bound : Nat) : Prop :=
  ∃ q1 c1 q2 c2 k ps n, v = .agg #[.slice q1 k c1, .slice q2 k c2] ∧ ClsAt w v ps ∧ Tnr.Good S ps n ∧ k = ps.length ∧ k ≤ bound
theorem clsV_of {w : World} {v : Value} {S : List (List R)} {bound n : Nat} {ps : List (Int × Nat)} (h : ClsAt w v ps) (g : Tnr.Good S ps n) (hb : ps.length ≤ bound) : ClsV w v S bound := by
  obtain ⟨p, c, q, d, h1, h2, h3⟩ := h
  exact ⟨p, c, q, d, ps.length, ps, n, h1, ⟨p, c, q, d, h1, h2, h3⟩, g, rfl, hb⟩
theorem ClsV.below {w w' : World} {v : Value} {S : List (List R)} {bound : Nat} (h : ClsV w v S bound) (hb : Below w.heap.size w w') : ClsV w' v S bound := by
  obtain ⟨q1, c1, q2, c2, k, ps, n, h1, h2, h3⟩ := h
  exact ⟨q1, c1, q2, c2, k, ps, n, h1, h2.below hb, h3⟩
theorem bySet_good (p : Option Addr) (c m : Nat) (l : List R) (S : List (List R)) (w : World) (hS : ∃ n, Tnr.Good S (setP (cn l)) n) (hm : m = l.length) (hp : SlR w p l) (hl : l.length ≤ 20000) (bound : Nat) (hb : 2 * l.length + 1 ≤ bound) :
    Calls Tryz.prog 28 #[.slice p m c] w fun e w' => ∃ v, e = .returned v ∧ ClsV w' v S bound ∧ Below w.heap.size w w' := by
  refine (bySet_any p c m l (cn l) w rfl hm hp hl).mono ?_
  rintro e W ⟨v, h1, h2, h3⟩
  obtain ⟨n, hn⟩ := hS
  exact ⟨v, h1, clsV_of h2 hn (by have := setP_length (cn l); have := cn_length l; omega), h3⟩

def PartPost (xs : List SV) (w : World) (e : Ending) (w' : World) : Prop :=
  Below w.heap.size w w' ∧ ((e = .returned (.tuple #[.agg #[.slice none 0 0, .slice none 0 0], .bool false]) ∧ More (rowsV xs)) ∨
    ∃ v, e = .returned (.tuple #[v, .bool true]) ∧ ClsV w' v (rowsV xs) (2 * (flat xs).length + xs.length + 1))

set_option maxHeartbeats 1600000 in
set_option maxRecDepth 100000 in
theorem parted_step (p : Option Addr) (c m : Nat) (xs : List SV) (w : World) (hm : m = xs.length) (hmc : m ≤ c) (hx : SlS w p xs) (hl : xs.length ≤ 2000) (hf : (flat xs).length ≤ 10000)
    (ih : ∀ (p : Option Addr) (c m : Nat) (ys : List SV) (w : World), m = ys.length → m ≤ c → SlS w p ys → ys.length < xs.length → (flat ys).length ≤ 10000 → Calls Tryz.prog 9 #[.slice p m c] w (PartPost ys w)) :
    Calls Tryz.prog 9 #[.slice p m c] w (PartPost xs w) := by
  have HX := Lib.hid hx
  have HM := Lib.hid hm
  have HF := Lib.hid hf
  have HIH := Lib.hid ih
  have hmI : (m : Int) ≤ 2000 := by omega
  have hmcI : (m : Int) ≤ c := by omega
  obtain ⟨B, hB⟩ : ∃ B, B = w.heap.size := ⟨_, rfl⟩
  have HB := Lib.hid hB
  have hw1 : Below w.heap.size w (w.alloc (.cells #[.slice none 0 0, .slice none 0 0] 37)) := bl_alloc _ _
  have HW1 := Lib.hid hw1
  have HB1 : Hid (Box2 (w.alloc (.cells #[.slice none 0 0, .slice none 0 0] 37)) B 37 (.slice none 0 0) (.slice none 0 0)) := by rw [hB]; exact Box2.new _ _ _ _
  clear hx hm hf ih hw1 hl hmc
  by_cases h0 : m = 0
  · subst h0
    have hxs : xs = [] := List.eq_nil_of_length_eq_zero HM.out.symm
    have HXS : Hid (rowsV xs = []) := by rw [hxs]; rfl
    clear hB hxs hmI hmcI
    go_enter Tryz.func9, Tryz.ntmps9
    go_wp2_with fail
    rw [← HB.out]
    refine (bySet_good none 0 0 [] (rowsV xs) _ (by rw [HXS.out]; exact setP_none) rfl (.inl rfl) (by simp) (2 * (flat xs).length + xs.length + 1) (by simp)).mono ?_
    rintro e W ⟨v, rfl, hv, hbl⟩
    obtain ⟨q1, c1, q2, c2, k, ps, n, rfl, hcl, hg, hk, hkb⟩ := hv
    have hbx := HB1.out.below hbl
    have f0 := hbx.free 0
    have f1 := hbx.free 1
    have KC := Lib.hid (hbx.set0 (.slice q1 k c1))
    have KD := Lib.hid (KC.out.set1 (.slice q2 k c2))
    have k0 := hbx.cell0
    have k1 := hbx.cell1
    have HBX := Lib.hid hbx
    have HV := Lib.hid (cls_box hcl hbx (q3 := q1) (n3 := k) (c3 := c1) (q4 := q2) (n4 := k) (c4 := c2))
    have HG := Lib.hid hg
    have HK := Lib.hid hk
    have HKB := Lib.hid hkb
    have HBL := Lib.hid (bl_trans HW1.out hbl)
    clear hbx hcl hg hk hkb hbl
    go_wp2
    have d0 := KD.out.cell0
    have d1 := KD.out.cell1
    have hbe := HB.out
    refine bodyPost_ret (v := .tuple #[.agg #[.slice q1 k c1, .slice q2 k c2], .bool true]) (by simp [results, Tryz.f9, go_sem, d0, d1]) rfl ⟨(HBL.out.setCell ?_ _).setCell ?_ _, .inr ⟨_, rfl, q1, c1, q2, c2, k, ps, n, rfl, HV.out, HG.out, HK.out, HKB.out⟩⟩
    · show _ ≤ B; omega
    · show _ ≤ B; omega
  · by_cases h1 : m = 1
    · subst h1
      have hlen : xs.length = 1 := HM.out.symm
      obtain ⟨b, o, rfl, hc⟩ := sls_at HX.out (show 0 < xs.length by omega)
      have HS0 : Hid (SlR w (gs xs 0).1 (gs xs 0).2.2) := HX.out.1 _ (by rw [gs_get (by omega)]; exact List.getElem_mem _)
      obtain ⟨pa, ca, la, hga⟩ : ∃ pa ca la, gs xs 0 = (pa, ca, la) := ⟨_, _, _, rfl⟩
      rw [hga] at hc HS0
      have HRV : Hid (rowsV xs = [la]) := by
        show rowsV xs = _
        obtain ⟨x, hx⟩ := List.length_eq_one_iff.1 hlen
        subst hx
        have e : x = (pa, ca, la) := hga
        rw [e]; rfl
      have HLA : Hid (la.length ≤ 10000 ∧ 2 * la.length + 1 ≤ 2 * (flat xs).length + xs.length + 1) := by
        have e := rowsV_flat xs
        rw [HRV.out] at e
        have hf := HF.out
        rw [← e] at hf ⊢
        simp only [List.flatten_cons, List.flatten_nil, List.append_nil] at hf ⊢
        exact ⟨hf, by omega⟩
      simp only [Nat.add_zero] at hc
      have hc1 := ((bl_alloc w (.cells #[.slice none 0 0, .slice none 0 0] 37)).cell (World.block_lt_of_cell? w _ hc)).trans hc
      obtain ⟨na, hna⟩ : ∃ na, na = la.length := ⟨_, rfl⟩
      rw [← hna] at hc hc1
      have HNA := Lib.hid hna
      clear hB hga hlen hmI hmcI h0 hna hc
      go_enter Tryz.func9, Tryz.ntmps9
      go_wp2_with fail
      rw [← HB.out]
      refine (bySet_good pa ca na la (rowsV xs) _ (by rw [HRV.out]; exact setP_one la) HNA.out (HS0.out.below (bl_alloc _ _)) (by have := HLA.out.1; omega) (2 * (flat xs).length + xs.length + 1) HLA.out.2).mono ?_
      rintro e W ⟨v, rfl, hv, hbl⟩
      obtain ⟨q1, c1, q2, c2, k, ps, n, rfl, hcl, hg, hk, hkb⟩ := hv
      have hbx := HB1.out.below hbl
      have f0 := hbx.free 0
      have f1 := hbx.free 1
      have KC := Lib.hid (hbx.set0 (.slice q1 k c1))
      have KD := Lib.hid (KC.out.set1 (.slice q2 k c2))
      have k0 := hbx.cell0
      have k1 := hbx.cell1
      have HV := Lib.hid (cls_box hcl hbx (q3 := q1) (n3 := k) (c3 := c1) (q4 := q2) (n4 := k) (c4 := c2))
      have HG := Lib.hid hg
      have HK := Lib.hid hk
      have HKB := Lib.hid hkb
      have HBL := Lib.hid (bl_trans HW1.out hbl)
      clear hbx hcl hg hk hkb hbl hc1
      go_wp2
      have d0 := KD.out.cell0
      have d1 := KD.out.cell1
      have hbe := HB.out
      refine bodyPost_ret (v := .tuple #[.agg #[.slice q1 k c1, .slice q2 k c2], .bool true]) (by simp [results, Tryz.f9, go_sem, d0, d1]) rfl ⟨(HBL.out.setCell ?_ _).setCell ?_ _, .inr ⟨_, rfl, q1, c1, q2, c2, k, ps, n, rfl, HV.out, HG.out, HK.out, HKB.out⟩⟩
      · show _ ≤ B; omega
      · show _ ≤ B; omega
    · obtain ⟨hf, hhf⟩ : ∃ h : Nat, h = m / 2 := ⟨_, rfl⟩
      have hh1 : 0 < hf := by omega
      have hh2 : hf < m := by omega
      obtain ⟨b, o, rfl, hc⟩ := sls_at HX.out (show 0 < xs.length by have := HM.out; omega)
      have hdiv : Int.tdiv (m : Int) 2 = (hf : Int) := by
        rw [hhf]
        have : ((m / 2 : Nat) : Int) = (m : Int) / 2 := by omega
        rw [this, Int.tdiv_eq_ediv_of_nonneg (by omega)]
      have hh1I : (0 : Int) ≤ hf := by omega
      have hh2I : (hf : Int) ≤ m := by omega
      have hq0 : ((m : Int) == 0) = false := by rw [beq_eq_false_iff_ne]; omega
      have hq1 : ((m : Int) == 1) = false := by rw [beq_eq_false_iff_ne]; omega
      clear hB hc h0 h1 hhf
      go_enter Tryz.func9, Tryz.ntmps9
      go_wp2_with fail
      rw [← HB.out]
      have HHM := Lib.hid (show hf < xs.length ∧ hf + (xs.drop hf).length = xs.length by rw [List.length_drop, ← HM.out]; omega)
      have HFL : Hid ((flat (xs.take hf)).length + (flat (xs.drop hf)).length = (flat xs).length) := by
        show _ = _
        rw [flat_split xs hf, List.length_append]
      refine (HIH.out (some ⟨b, o, none⟩) c hf (xs.take hf) _ (by rw [List.length_take]; have := HHM.out.1; omega) (by omega) (sls_take (HX.out.below (bl_alloc _ _)) hf) (by rw [List.length_take]; have := HHM.out.1; omega) (by have := HFL.out; have := HF.out; omega)).mono ?_
      rintro e W2 ⟨hbl2, ⟨rfl, hmore⟩ | ⟨v, rfl, hv⟩⟩
      · have HMO : Hid (More (rowsV xs)) := by show More _; rw [rowsV_split xs hf]; exact hmore.left _
        have hbx := (HB1.out.below hbl2).below (bl_alloc W2 (.cells #[.slice none 0 0, .slice none 0 0] 37))
        have f0 := hbx.free 0
        have f1 := hbx.free 1
        have k0 := hbx.cell0
        have k1 := hbx.cell1
        have KD := Lib.hid ((hbx.set0 (.slice none 0 0)).set1 (.slice none 0 0))
        have HBL := Lib.hid (bl_trans (bl_trans HW1.out hbl2) (bl_alloc W2 (.cells #[.slice none 0 0, .slice none 0 0] 37)))
        clear hbl2 hmore hbx
        go_wp2
        have d0 := KD.out.cell0
        have d1 := KD.out.cell1
        have hbe := HB.out
        refine bodyPost_ret (v := .tuple #[.agg #[.slice none 0 0, .slice none 0 0], .bool false]) (by simp [results, Tryz.f9, go_sem, d0, d1]) rfl ⟨(HBL.out.setCell ?_ _).setCell ?_ _, .inl ⟨rfl, HMO.out⟩⟩
        · show _ ≤ B; omega
        · show _ ≤ B; omega
      · obtain ⟨q1, c1, q2, c2, k, ps, n, rfl, hcl, hg, hk, hkb⟩ := hv
        have hb2 : Below w.heap.size w (W2.alloc (.cells #[.slice q1 k c1, .slice q2 k c2] 37)) := bl_trans (bl_trans HW1.out hbl2) (bl_alloc _ _)
        have HBX2 := Lib.hid ((HB1.out.below hbl2).below (bl_alloc W2 (.cells #[.slice q1 k c1, .slice q2 k c2] 37)))
        have HN2 := Lib.hid (Box2.new W2 37 (.slice q1 k c1) (.slice q2 k c2))
        have HCL := Lib.hid (hcl.below (bl_alloc W2 (.cells #[.slice q1 k c1, .slice q2 k c2] 37)))
        have HG := Lib.hid hg
        have HK := Lib.hid hk
        have HKB := Lib.hid hkb
        have HB2 := Lib.hid hb2
        clear hbl2 hcl hg hk hkb hb2
        obtain ⟨b5, hb5⟩ : ∃ b5, b5 = W2.heap.size := ⟨_, rfl⟩
        rw [← hb5] at HN2
        go_wp2_with fail
        rw [← hb5]
        clear hb5
        obtain ⟨W3, hW3⟩ : ∃ W3, W3 = W2.alloc (.cells #[.slice q1 k c1, .slice q2 k c2] 37) := ⟨_, rfl⟩
        rw [← hW3] at HBX2 HN2 HCL HB2 ⊢
        clear hW3
        refine (HIH.out (some ⟨b, o + hf, none⟩) (c - hf) (m - hf) (xs.drop hf) W3 (by have := HHM.out.2; have := HM.out; omega) (by omega) (sls_drop (HX.out.below HB2.out) hf) (by have := HHM.out; omega) (by have := HFL.out; have := HF.out; omega)).mono ?_
        rintro e W4 ⟨hbl4, ⟨rfl, hmore⟩ | ⟨v, rfl, hv⟩⟩
        · have HMO : Hid (More (rowsV xs)) := by show More _; rw [rowsV_split xs hf]; exact hmore.right _
          have hbx := (HBX2.out.below hbl4).below (bl_alloc W4 (.cells #[.slice none 0 0, .slice none 0 0] 37))
          have f0 := hbx.free 0
          have f1 := hbx.free 1
          have k0 := hbx.cell0
          have k1 := hbx.cell1
          have KD := Lib.hid ((hbx.set0 (.slice none 0 0)).set1 (.slice none 0 0))
          have HBL := Lib.hid (bl_trans (bl_trans HB2.out hbl4) (bl_alloc W4 (.cells #[.slice none 0 0, .slice none 0 0] 37)))
          clear hbl4 hmore hbx
          go_wp2
          have d0 := KD.out.cell0
          have d1 := KD.out.cell1
          have hbe := HB.out
          refine bodyPost_ret (v := .tuple #[.agg #[.slice none 0 0, .slice none 0 0], .bool false]) (by simp [results, Tryz.f9, go_sem, d0, d1]) rfl ⟨(HBL.out.setCell ?_ _).setCell ?_ _, .inl ⟨rfl, HMO.out⟩⟩
          · show _ ≤ B; omega
          · show _ ≤ B; omega
        · obtain ⟨p1, d1, p2, d2, k2, ps2, n2, rfl, hcl2, hg2, hk2, hkb2⟩ := hv
          have hb4 : Below W3.heap.size W3 (W4.alloc (.cells #[.slice p1 k2 d1, .slice p2 k2 d2] 37)) := bl_trans hbl4 (bl_alloc _ _)
          have HBX4 := Lib.hid (HBX2.out.below hb4)
          have HN4 := Lib.hid (HN2.out.below hb4)
          have HM4 := Lib.hid (Box2.new W4 37 (.slice p1 k2 d1) (.slice p2 k2 d2))
          have HCL4 := Lib.hid (HCL.out.below hb4)
          have HCM4 := Lib.hid (hcl2.below (bl_alloc W4 (.cells #[.slice p1 k2 d1, .slice p2 k2 d2] 37)))
          have HG2 := Lib.hid hg2
          have HK2 := Lib.hid hk2
          have HKB2 := Lib.hid hkb2
          have HB4 := Lib.hid (bl_trans HB2.out hb4)
          clear hbl4 hcl2 hg2 hk2 hkb2 hb4
          obtain ⟨b7, hb7⟩ : ∃ b7, b7 = W4.heap.size := ⟨_, rfl⟩
          rw [← hb7] at HM4
          obtain ⟨W5, hW5⟩ : ∃ W5, W5 = W4.alloc (.cells #[.slice p1 k2 d1, .slice p2 k2 d2] 37) := ⟨_, rfl⟩
          rw [← hW5] at HBX4 HN4 HM4 HCL4 HCM4 HB4
          have u0 := HN4.out.cell0
          have u1 := HN4.out.cell1
          have v0 := HM4.out.cell0
          have v1 := HM4.out.cell1
          rw [hW5] at u0 u1 v0 v1
          rw [hb7] at v0 v1
          go_wp2_with fail
          rw [← hW5]
          clear hW5 hb7 u0 u1 v0 v1
          refine (with_any _ _ (rowsV (xs.take hf)) (rowsV (xs.drop hf)) ps ps2 n n2 W5 HG.out HG2.out HCL4.out HCM4.out (by
            have := HKB.out; have := HKB2.out; have := HK.out; have := HK2.out; have := HFL.out; have := HF.out; have := HHM.out; have := HM.out
            rw [List.length_take] at *; omega)).mono ?_
          rintro e W6 ⟨hbl6, ⟨rfl, hmore⟩ | ⟨v, n6, ps6, rfl, hv, hg6, hk6⟩⟩
          · have HMO : Hid (More (rowsV xs)) := by show More _; rw [rowsV_split xs hf]; exact hmore
            have hbx := HBX4.out.below hbl6
            have f0 := hbx.free 0
            have f1 := hbx.free 1
            have k0 := hbx.cell0
            have k1 := hbx.cell1
            have KD := Lib.hid ((hbx.set0 (.slice none 0 0)).set1 (.slice none 0 0))
            have HBL := Lib.hid (bl_trans HB4.out hbl6)
            clear hbl6 hmore hbx
            go_wp2
            have d0 := KD.out.cell0
            have d1 := KD.out.cell1
            have hbe := HB.out
            refine bodyPost_ret (v := .tuple #[.agg #[.slice none 0 0, .slice none 0 0], .bool false]) (by simp [results, Tryz.f9, go_sem, d0, d1]) rfl ⟨(HBL.out.setCell ?_ _).setCell ?_ _, .inl ⟨rfl, HMO.out⟩⟩
            · show _ ≤ B; omega
            · show _ ≤ B; omega
          · rw [← rowsV_split] at hg6
            obtain ⟨r1, e1, r2, e2, kk, psx, nx, rfl, hclx, hgx, hkx, hkbx⟩ := clsV_of hv hg6 (bound := 2 * (flat xs).length + xs.length + 1) (by
              have := HKB.out; have := HKB2.out; have := HK.out; have := HK2.out; have := HFL.out; have := HHM.out
              rw [List.length_take] at *; omega)
            have hbx := HBX4.out.below hbl6
            have f0 := hbx.free 0
            have f1 := hbx.free 1
            have k0 := hbx.cell0
            have k1 := hbx.cell1
            have KD := Lib.hid ((hbx.set0 (.slice r1 kk e1)).set1 (.slice r2 kk e2))
            have HV := Lib.hid (cls_box hclx hbx (q3 := r1) (n3 := kk) (c3 := e1) (q4 := r2) (n4 := kk) (c4 := e2))
            have HBL := Lib.hid (bl_trans HB4.out hbl6)
            have HGX := Lib.hid hgx
            have HKX := Lib.hid hkx
            have HKBX := Lib.hid hkbx
            clear hbl6 hv hg6 hk6 hbx hclx hgx hkx hkbx
            go_wp2
            have d0 := KD.out.cell0
            have d1 := KD.out.cell1
            have hbe := HB.out
            refine bodyPost_ret (v := .tuple #[.agg #[.slice r1 kk e1, .slice r2 kk e2], .bool true]) (by simp [results, Tryz.f9, go_sem, d0, d1]) rfl ⟨(HBL.out.setCell ?_ _).setCell ?_ _, .inr ⟨_, rfl, r1, e1, r2, e2, kk, psx, nx, rfl, HV.out, HGX.out, HKX.out, HKBX.out⟩⟩
            · show _ ≤ B; omega
            · show _ ≤ B; omega

theorem parted_all : ∀ (n : Nat) (p : Option Addr) (c m : Nat) (xs : List SV) (w : World), xs.length ≤ n → m = xs.length → m ≤ c → SlS w p xs → xs.length ≤ 2000 → (flat xs).length ≤ 10000 → Calls Tryz.prog 9 #[.slice p m c] w (PartPost xs w)
  | 0, p, c, m, xs, w, hn, hm, hc, hx, hl, hf => parted_step p c m xs w hm hc hx hl hf fun _ _ _ ys _ _ _ _ h _ => absurd h (by omega)
  | n + 1, p, c, m, xs, w, hn, hm, hc, hx, hl, hf => parted_step p c m xs w hm hc hx hl hf fun p' c' m' ys w' h1 h2 h3 h4 h5 => parted_all n p' c' m' ys w' (by omega) h1 h2 h3 (by omega) h5
theorem parted_any (p : Option Addr) (c m : Nat) (xs : List SV) (w : World) (hm : m = xs.length) (hc : m ≤ c) (hx : SlS w p xs) (hl : xs.length ≤ 2000) (hf : (flat xs).length ≤ 10000) : Calls Tryz.prog 9 #[.slice p m c] w (PartPost xs w) :=
  parted_all xs.length p c m xs w (Nat.le_refl _) hm hc hx hl hf
end Go.Proofs.YtildfjlaieaadaaGreat
