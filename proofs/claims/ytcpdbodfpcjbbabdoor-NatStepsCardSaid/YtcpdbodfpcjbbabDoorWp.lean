/- The walk of the law NatSteps: for every Nat and every two exponents it tells true, and nothing older changes. -/
import Derived.Test.YtcpdbodfpcjbbabDoorWo
import Derived.Test.YtcpdbodfpcjbbabDoorWh
namespace Go.Proofs.YtcpdbodfpcjbbabDoor
open Go.RowKit Tnd

theorem mul_two (W : World) (b : Nat) (p1 p2 : Option Addr) (c1 c2 : Nat) (l1 l2 : List Nat) (n1 n2 : Nat) (e1 : l1.length = n1) (e2 : l2.length = n2)
    (h0 : W.cell? ⟨b, 0, none⟩ = some (.slice p1 n1 c1)) (h1 : W.cell? ⟨b, 1, none⟩ = some (.slice p2 n2 c2))
    (i1 : NatIn W W.heap.size (.agg #[.slice p1 n1 c1]) l1) (i2 : NatIn W W.heap.size (.agg #[.slice p2 n2 c2]) l2) (hl1 : n1 ≤ 1000000) (hl2 : n2 ≤ 1000000) :
    Calls Tryd.prog 7 #[.slice (some ⟨b, 0, none⟩) 2 2] W fun e w' => ∃ v, e = .returned v ∧ FNat w' W.heap.size v (nv 4294967296 l1 * nv 4294967296 l2) ∧ Below W.heap.size W w' := by
  subst e1; subst e2
  obtain ⟨q1, d1, f1, g1, k1⟩ := i1
  obtain ⟨q2, d2, f2, g2, k2⟩ := i2
  simp only [Value.agg.injEq, Array.mk.injEq, List.cons.injEq, Value.slice.injEq, and_true, true_and] at f1 f2
  obtain ⟨rfl, rfl⟩ := f1
  obtain ⟨rfl, rfl⟩ := f2
  have hin : NatsIn W W.heap.size (some ⟨b, 0, none⟩) [l1, l2] := by
    refine .inr ⟨b, 0, rfl, World.block_lt_of_cell? W _ h0, fun i hi => ?_⟩
    match i, hi with
    | 0, _ => exact ⟨p1, c1, h0, g1, k1⟩
    | 1, _ => exact ⟨p2, c2, h1, g2, k2⟩
  have h := mul_any (some ⟨b, 0, none⟩) 2 [l1, l2] W hin (by simp) (by simp only [tot]; omega)
  have e : prodv [l1, l2] = nv 4294967296 l1 * nv 4294967296 l2 := by simp [prodv]
  rw [e] at h
  exact h

set_option maxHeartbeats 3200000 in
set_option maxRecDepth 100000 in
theorem steps_out (p : Option Addr) (c : Nat) (l : List Nat) (n m : Int) (w : World) (htab : Lib.TabIs Tryd.prog w "internal/strconv.uint64pow10" .u64 Lib.pow10Tab)
    (hl : l.length ≤ 9223372036854775807) (hout : 3 < l.length ∨ n < 0 ∨ m < 0 ∨ 20 < n ∨ 20 < m) :
    Calls Tryd.prog 3 #[.agg #[.slice p l.length c], .int .i64 n, .int .i64 m] w fun e w' => e = .returned (.bool true) ∧ Below w.heap.size w w' := by
  have HAW := Lib.hid (awake_any _ (Lib.tabIs_alloc htab (.cells #[.slice p l.length c] 24)))
  clear htab
  by_cases a1 : 3 < l.length
  · clear hout
    go_enter Tryd.func3, Tryd.ntmps3
    go_wp2_with fail
    refine HAW.out.mono ?_
    rintro e w1 ⟨rfl, hb⟩
    have hc : w1.cell? ⟨w.heap.size, 0, none⟩ = some (.slice p l.length c) := cell_new hb
    have HB := Lib.hid (bl_trans (bl_alloc w _) hb)
    clear hb HAW
    go_wp2
    go_ret
    exact ⟨rfl, HB.out⟩
  · have b1 : l.length ≤ 3 := by omega
    by_cases a2 : n < 0
    · clear hout a1
      go_enter Tryd.func3, Tryd.ntmps3
      go_wp2_with fail
      refine HAW.out.mono ?_
      rintro e w1 ⟨rfl, hb⟩
      have hc : w1.cell? ⟨w.heap.size, 0, none⟩ = some (.slice p l.length c) := cell_new hb
      have HB := Lib.hid (bl_trans (bl_alloc w _) hb)
      clear hb HAW
      go_wp2
      go_ret
      exact ⟨rfl, HB.out⟩
    · have b2 : 0 ≤ n := by omega
      by_cases a3 : m < 0
      · clear hout a1 a2
        go_enter Tryd.func3, Tryd.ntmps3
        go_wp2_with fail
        refine HAW.out.mono ?_
        rintro e w1 ⟨rfl, hb⟩
        have hc : w1.cell? ⟨w.heap.size, 0, none⟩ = some (.slice p l.length c) := cell_new hb
        have HB := Lib.hid (bl_trans (bl_alloc w _) hb)
        clear hb HAW
        go_wp2
        go_ret
        exact ⟨rfl, HB.out⟩
      · have b3 : 0 ≤ m := by omega
        by_cases a4 : 20 < n
        · clear hout a1 a2 a3
          go_enter Tryd.func3, Tryd.ntmps3
          go_wp2_with fail
          refine HAW.out.mono ?_
          rintro e w1 ⟨rfl, hb⟩
          have hc : w1.cell? ⟨w.heap.size, 0, none⟩ = some (.slice p l.length c) := cell_new hb
          have HB := Lib.hid (bl_trans (bl_alloc w _) hb)
          clear hb HAW
          go_wp2
          go_ret
          exact ⟨rfl, HB.out⟩
        · have b4 : n ≤ 20 := by omega
          have a5 : 20 < m := by omega
          clear hout a1 a2 a3 a4
          go_enter Tryd.func3, Tryd.ntmps3
          go_wp2_with fail
          refine HAW.out.mono ?_
          rintro e w1 ⟨rfl, hb⟩
          have hc : w1.cell? ⟨w.heap.size, 0, none⟩ = some (.slice p l.length c) := cell_new hb
          have HB := Lib.hid (bl_trans (bl_alloc w _) hb)
          clear hb HAW
          go_wp2
          go_ret
          exact ⟨rfl, HB.out⟩

theorem pow_len {a k n : Nat} {l : List Nat} (ha : a < 4294967296 ^ k) (hr : RightL l) (hv : nv 4294967296 l = a ^ n) : l.length ≤ k * n + 1 := by
  refine len_small hr hv ?_
  by_cases h0 : n = 0
  · subst h0; simp
  · have h1 : a ^ n < (4294967296 ^ k) ^ n := Nat.pow_lt_pow_left ha h0
    rw [← Nat.pow_mul] at h1
    exact Nat.lt_of_lt_of_le h1 (Nat.pow_le_pow_right (by omega) (by omega))

set_option maxHeartbeats 12800000 in
set_option maxRecDepth 100000 in
theorem steps_in (p : Option Addr) (c : Nat) (l : List Nat) (n m : Nat) (w : World) (htab : Lib.TabIs Tryd.prog w "internal/strconv.uint64pow10" .u64 Lib.pow10Tab)
    (hin : NatIn w w.heap.size (.agg #[.slice p l.length c]) l) (hl : l.length ≤ 3) (hn : n ≤ 20) (hm : m ≤ 20) :
    Calls Tryd.prog 3 #[.agg #[.slice p l.length c], .int .i64 (n : Nat), .int .i64 (m : Nat)] w fun e w' => e = .returned (.bool true) ∧ Below w.heap.size w w' := by
  have HAW := Lib.hid (awake_any _ (Lib.tabIs_alloc htab (.cells #[.slice p l.length c] 24)))
  have hd : Digs 4294967296 l := by obtain ⟨_, _, _, _, h, _⟩ := hin; exact h
  have ha3 : nv 4294967296 l < 4294967296 ^ 3 := Nat.lt_of_lt_of_le (nv_lt _ l hd) (Nat.pow_le_pow_right (by omega) hl)
  have HIN := Lib.hid hin
  have HA3 := Lib.hid ha3
  clear htab hin hd ha3
  have hnI : (n : Int) ≤ 20 := by omega
  have hmI : (m : Int) ≤ 20 := by omega
  go_enter Tryd.func3, Tryd.ntmps3
  go_wp2_with fail
  refine HAW.out.mono ?_
  rintro e w1 ⟨rfl, hb1⟩
  have hc1 : w1.cell? ⟨w.heap.size, 0, none⟩ = some (.slice p l.length c) := cell_new hb1
  have B1 := Lib.hid (bl_trans (bl_alloc w _) hb1)
  have K0 := Lib.hid hb1
  clear hb1 HAW
  obtain ⟨a, ha⟩ : ∃ a, a = nv 4294967296 l := ⟨_, rfl⟩
  have hpw : ∀ W (k : Nat) (z : Int), z = (k : Nat) → k ≤ 40 → Below w.heap.size w W → Calls Tryd.prog 5 #[.agg #[.slice p l.length c], .int .i64 z] W fun e w' =>
      ∃ q d x, e = .returned (.tuple #[.agg #[.slice q x d], .int .i64 0]) ∧ Hid (FNat w' W.heap.size (.agg #[.slice q x d]) (a ^ k) ∧ x ≤ 200) ∧ Hid (Below W.heap.size W w') := by
    intro W k z hz hk hW
    have h := pow_int z k hz (.agg #[.slice p l.length c]) l W ((HIN.out.below hW).up hW.size) (by omega) (by omega) (small_big _ 3 k HA3.out (by omega))
    refine h.mono ?_
    rintro e w' ⟨v, rfl, hf, hb⟩
    obtain ⟨q, d, x, rfl, _, hr, hv, _⟩ := hf.nat
    have hx := pow_len HA3.out hr hv
    rw [ha]
    exact ⟨q, d, x.length, rfl, ⟨hf, by omega⟩, hb⟩
  have HPW := Lib.hid hpw
  clear hpw
  go_wp2_with fail
  refine (HPW.out w1 n (n : Nat) rfl (by omega) B1.out).mono ?_
  rintro e w2 ⟨q1, d1, x1, rfl, hf1, hb2⟩
  have C1 := bl_trans B1.out (bl_trans hb2.out (bl_alloc w2 (.cells #[.slice q1 x1 d1] 24)))
  have hc2 : (w2.alloc (.cells #[.slice q1 x1 d1] 24)).cell? ⟨w.heap.size, 0, none⟩ = some (.slice p l.length c) := cell_new (bl_trans K0.out (bl_trans hb2.out (bl_alloc w2 _)))
  have HC1 := Lib.hid C1
  clear C1 hc1
  go_wp2_with fail
  refine (HPW.out _ m (m : Nat) rfl (by omega) HC1.out).mono ?_
  rintro e w3 ⟨q2, d2, x2, rfl, hf2, hb3⟩
  have C2 := bl_trans HC1.out (bl_trans hb3.out (bl_alloc w3 (.cells #[.slice q2 x2 d2] 24)))
  have hc3 : (w3.alloc (.cells #[.slice q2 x2 d2] 24)).cell? ⟨w.heap.size, 0, none⟩ = some (.slice p l.length c) := cell_new (bl_trans K0.out (bl_trans hb2.out (bl_trans (bl_alloc w2 _) (bl_trans hb3.out (bl_alloc w3 _)))))
  have HC2 := Lib.hid C2
  clear C2 hc2
  go_wp2_with fail
  refine (HPW.out _ (n + m) ((n : Int) + (m : Int)) (Int.natCast_add n m).symm (by omega) HC2.out).mono ?_
  rintro e w4 ⟨q3, d3, x3, rfl, hf3, hb4⟩
  have C3 := bl_trans HC2.out (bl_trans hb4.out (bl_alloc w4 (.cells #[.slice q3 x3 d3] 24)))
  have hc4 : (w4.alloc (.cells #[.slice q3 x3 d3] 24)).cell? ⟨w.heap.size, 0, none⟩ = some (.slice p l.length c) := cell_new (bl_trans K0.out (bl_trans hb2.out (bl_trans (bl_alloc w2 _) (bl_trans hb3.out (bl_trans (bl_alloc w3 _) (bl_trans hb4.out (bl_alloc w4 _)))))))
  have HC3 := Lib.hid C3
  clear C3 hc3
  go_wp2_with fail
  refine (HPW.out _ (n + 1) ((n : Int) + 1) (Int.natCast_add n 1).symm (by omega) HC3.out).mono ?_
  rintro e w5 ⟨q4, d4, x4, rfl, hf4, hb5⟩
  have Z5 := bl_trans hb5.out (bl_alloc w5 (.cells #[.slice q4 x4 d4] 24))
  have Z4 := bl_trans (bl_alloc w4 (.cells #[.slice q3 x3 d3] 24)) Z5
  have Z3 := bl_trans (bl_alloc w3 (.cells #[.slice q2 x2 d2] 24)) (bl_trans hb4.out Z4)
  have Z2 := bl_trans (bl_alloc w2 (.cells #[.slice q1 x1 d1] 24)) (bl_trans hb3.out Z3)
  have K4 := Z5
  have K3 := bl_trans hb4.out Z4
  have K2 := bl_trans hb3.out Z3
  have KB := bl_trans K0.out (bl_trans hb2.out Z2)
  have KW := bl_trans B1.out (bl_trans hb2.out Z2)
  clear hc4
  go_wp2
  obtain ⟨z, hz⟩ : ∃ z, z = w5.alloc (.cells #[.slice q4 x4 d4] 24) := ⟨_, rfl⟩
  rw [← hz] at Z5 Z4 Z3 Z2 K4 K3 K2 KB KW ⊢
  have k5 : z.cell? ⟨w5.heap.size, 0, none⟩ = some (.slice q4 x4 d4) := by subst hz; exact cell_new (Below.refl _ _)
  have k4 : z.cell? ⟨w4.heap.size, 0, none⟩ = some (.slice q3 x3 d3) := cell_new K4
  have k3 : z.cell? ⟨w3.heap.size, 0, none⟩ = some (.slice q2 x2 d2) := cell_new K3
  have k2 : z.cell? ⟨w2.heap.size, 0, none⟩ = some (.slice q1 x1 d1) := cell_new K2
  have k0 : z.cell? ⟨w.heap.size, 0, none⟩ = some (.slice p l.length c) := cell_new KB
  have f1 := hf1.out.1.below Z2
  have f2 := hf2.out.1.below Z3
  have f3 := hf3.out.1.below Z4
  have f4 : FNat z (w4.alloc (.cells #[.slice q3 x3 d3] 24)).heap.size (.agg #[.slice q4 x4 d4]) (a ^ (n + 1)) := by subst hz; exact hf4.out.1.below (bl_alloc w5 _)
  have b1 := hf1.out.2
  have b2 := hf2.out.2
  have b3 := hf3.out.2
  have b4 := hf4.out.2
  have post : ∀ W : World, Below z.heap.size z W → W.cell? ⟨w.heap.size, 0, none⟩ = some (.slice p l.length c) ∧ W.cell? ⟨w2.heap.size, 0, none⟩ = some (.slice q1 x1 d1) ∧ W.cell? ⟨w3.heap.size, 0, none⟩ = some (.slice q2 x2 d2) ∧ W.cell? ⟨w4.heap.size, 0, none⟩ = some (.slice q3 x3 d3) ∧ W.cell? ⟨w5.heap.size, 0, none⟩ = some (.slice q4 x4 d4) := by
    intro W hW
    exact ⟨by rw [hW.cell (World.block_lt_of_cell? z _ k0)]; exact k0, by rw [hW.cell (World.block_lt_of_cell? z _ k2)]; exact k2, by rw [hW.cell (World.block_lt_of_cell? z _ k3)]; exact k3, by rw [hW.cell (World.block_lt_of_cell? z _ k4)]; exact k4, by rw [hW.cell (World.block_lt_of_cell? z _ k5)]; exact k5⟩
  have MUL1 : Hid (Calls Tryd.prog 7 #[.slice (some ⟨z.heap.size, 0, none⟩) 2 2] (z.alloc (.cells #[.slice q1 x1 d1, .slice q2 x2 d2] 24)).drew fun e w' => ∃ (po : Option Addr) (co lo : Nat), e = .returned (.agg #[.slice po lo co]) ∧ Hid (FNat w' z.heap.size (.agg #[.slice po lo co]) (a ^ (n + m)) ∧ lo ≤ 1000) ∧ Hid (Below z.heap.size z w') ∧ w'.cell? ⟨w.heap.size, 0, none⟩ = some (.slice p l.length c) ∧ w'.cell? ⟨w2.heap.size, 0, none⟩ = some (.slice q1 x1 d1) ∧ w'.cell? ⟨w3.heap.size, 0, none⟩ = some (.slice q2 x2 d2) ∧ w'.cell? ⟨w4.heap.size, 0, none⟩ = some (.slice q3 x3 d3) ∧ w'.cell? ⟨w5.heap.size, 0, none⟩ = some (.slice q4 x4 d4)) := by
    have hb := bl_trans (bl_alloc z (.cells #[.slice q1 x1 d1, .slice q2 x2 d2] 24)) (bl_drew _)
    obtain ⟨y1, e1', m1, u1, i1, r1, v1, _⟩ := (f1.below hb).nat
    obtain ⟨y2, e2', m2, u2, i2, r2, v2, _⟩ := (f2.below hb).nat
    simp only [Value.agg.injEq, Array.mk.injEq, List.cons.injEq, Value.slice.injEq, and_true] at u1 u2
    have h := mul_two _ z.heap.size q1 q2 d1 d2 m1 m2 x1 x2 u1.2.1.symm u2.2.1.symm (by rw [World.cell?_drew, World.cell?_alloc_at _ _ _ _ rfl]; rfl) (by rw [World.cell?_drew, World.cell?_alloc_at _ _ _ _ rfl]; rfl) i1 i2 (by omega) (by omega)
    rw [v1, v2, ← Nat.pow_add] at h
    refine h.mono ?_
    rintro e w' ⟨v, rfl, hf, hB⟩
    obtain ⟨po, co, lo, rfl, _, hr, hv, _⟩ := hf.nat
    have h3 := bl_trans hb hB
    have hlen := pow_len (n := n + m) (by rw [ha]; exact HA3.out) hr hv
    exact ⟨po, co, lo.length, rfl, ⟨hf.down (by simp), by omega⟩, h3, post w' h3⟩
  have MUL2 : Hid (∀ W, Hid (Below z.heap.size z W) → Calls Tryd.prog 7 #[.slice (some ⟨W.heap.size, 0, none⟩) 2 2] (W.alloc (.cells #[.slice q1 x1 d1, .slice p l.length c] 24)) fun e w' => ∃ (po : Option Addr) (co lo : Nat), e = .returned (.agg #[.slice po lo co]) ∧ Hid (FNat w' W.heap.size (.agg #[.slice po lo co]) (a ^ (n + 1)) ∧ lo ≤ 1000) ∧ Hid (Below z.heap.size z w') ∧ w'.cell? ⟨w.heap.size, 0, none⟩ = some (.slice p l.length c) ∧ w'.cell? ⟨w2.heap.size, 0, none⟩ = some (.slice q1 x1 d1) ∧ w'.cell? ⟨w3.heap.size, 0, none⟩ = some (.slice q2 x2 d2) ∧ w'.cell? ⟨w4.heap.size, 0, none⟩ = some (.slice q3 x3 d3) ∧ w'.cell? ⟨w5.heap.size, 0, none⟩ = some (.slice q4 x4 d4)) := by
    intro W hW
    have hb := bl_alloc W (.cells #[.slice q1 x1 d1, .slice p l.length c] 24)
    have hzb := bl_trans hW.out hb
    obtain ⟨y1, e1', m1, u1, i1, r1, v1, _⟩ := (f1.below hzb).nat
    simp only [Value.agg.injEq, Array.mk.injEq, List.cons.injEq, Value.slice.injEq, and_true] at u1
    have hwz := bl_trans KW hzb
    have h := mul_two _ W.heap.size q1 p d1 c m1 l x1 l.length u1.2.1.symm rfl (by rw [World.cell?_alloc_at _ _ _ _ rfl]; rfl) (by rw [World.cell?_alloc_at _ _ _ _ rfl]; rfl) i1 ((HIN.out.below hwz).up hwz.size) (by omega) (by omega)
    rw [v1, ← ha, ← Nat.pow_succ] at h
    refine h.mono ?_
    rintro e w' ⟨v, rfl, hf, hB⟩
    obtain ⟨po, co, lo, rfl, _, hr, hv, _⟩ := hf.nat
    have h3 := bl_trans hzb hB
    have hlen := pow_len (n := n + 1) (by rw [ha]; exact HA3.out) hr hv
    exact ⟨po, co, lo.length, rfl, ⟨hf.down (by simp), by omega⟩, h3, post w' h3⟩
  have SAMER : Hid (∀ (W : World) (B : Nat) (po : Option Addr) (co lo : Nat), Hid (FNat W B (.agg #[.slice po lo co]) (a ^ (n + m)) ∧ lo ≤ 1000) → Hid (Below z.heap.size z W) → Calls Tryd.prog 6 #[.agg #[.slice q3 x3 d3], .agg #[.slice po lo co]] W fun e w' => e = .returned (.bool true) ∧ Hid (Below z.heap.size z w') ∧ w'.cell? ⟨w.heap.size, 0, none⟩ = some (.slice p l.length c) ∧ w'.cell? ⟨w2.heap.size, 0, none⟩ = some (.slice q1 x1 d1) ∧ w'.cell? ⟨w3.heap.size, 0, none⟩ = some (.slice q2 x2 d2) ∧ w'.cell? ⟨w4.heap.size, 0, none⟩ = some (.slice q3 x3 d3) ∧ w'.cell? ⟨w5.heap.size, 0, none⟩ = some (.slice q4 x4 d4)) := by
    intro W B po co lo hf hW
    exact (FNat.same (f3.below hW.out) hf.out.1 (by omega) (by have := hf.out.2; omega)).mono fun e w' ⟨h1, h2⟩ => have h3 := bl_trans hW.out h2; ⟨h1, h3, post w' h3⟩
  have SAMES : Hid (∀ (W : World) (B : Nat) (po : Option Addr) (co lo : Nat), Hid (FNat W B (.agg #[.slice po lo co]) (a ^ (n + 1)) ∧ lo ≤ 1000) → Hid (Below z.heap.size z W) → Calls Tryd.prog 6 #[.agg #[.slice q4 x4 d4], .agg #[.slice po lo co]] W fun e w' => e = .returned (.bool true) ∧ Hid (Below z.heap.size z w') ∧ w'.cell? ⟨w.heap.size, 0, none⟩ = some (.slice p l.length c) ∧ w'.cell? ⟨w2.heap.size, 0, none⟩ = some (.slice q1 x1 d1) ∧ w'.cell? ⟨w3.heap.size, 0, none⟩ = some (.slice q2 x2 d2) ∧ w'.cell? ⟨w4.heap.size, 0, none⟩ = some (.slice q3 x3 d3) ∧ w'.cell? ⟨w5.heap.size, 0, none⟩ = some (.slice q4 x4 d4)) := by
    intro W B po co lo hf hW
    exact (FNat.same (f4.below hW.out) hf.out.1 (by omega) (by have := hf.out.2; omega)).mono fun e w' ⟨h1, h2⟩ => have h3 := bl_trans hW.out h2; ⟨h1, h3, post w' h3⟩
  have RIGHT : Hid (∀ W, Hid (Below z.heap.size z W) → Calls Tryd.prog 8 #[.agg #[.slice q1 x1 d1]] W fun e w' => e = .returned (.bool true) ∧ Hid (Below z.heap.size z w') ∧ w'.cell? ⟨w.heap.size, 0, none⟩ = some (.slice p l.length c) ∧ w'.cell? ⟨w2.heap.size, 0, none⟩ = some (.slice q1 x1 d1) ∧ w'.cell? ⟨w3.heap.size, 0, none⟩ = some (.slice q2 x2 d2) ∧ w'.cell? ⟨w4.heap.size, 0, none⟩ = some (.slice q3 x3 d3) ∧ w'.cell? ⟨w5.heap.size, 0, none⟩ = some (.slice q4 x4 d4)) := by
    intro W hW
    obtain ⟨y1, e1', m1, u1, ⟨y2, e2', u2, o1, _, t1, t2, t3⟩, r1, v1, _⟩ := (f1.below hW.out).nat
    rw [u2]
    exact (rightn_any y2 e2' m1 W o1.sl t1 t2 t3 r1).mono fun e w' ⟨h1, h2⟩ => have h3 := bl_trans hW.out h2; ⟨h1, h3, post w' h3⟩
  have HKW := Lib.hid KW
  clear Z5 Z4 Z3 Z2 K4 K3 K2 KB KW f1 f2 f3 f4 b1 b2 b3 b4 post hf1 hf2 hf3 hf4 hb2 hb3 hb4 hb5 hz HPW HC1 HC2 HC3 B1 K0 HIN HA3 ha hl hn hm hnI hmI
  go_region_held3 (fun w' => w'.cell? ⟨w.heap.size, 0, none⟩ = some (.slice p l.length c) ∧ w'.cell? ⟨w2.heap.size, 0, none⟩ = some (.slice q1 x1 d1) ∧ w'.cell? ⟨w3.heap.size, 0, none⟩ = some (.slice q2 x2 d2) ∧ w'.cell? ⟨w4.heap.size, 0, none⟩ = some (.slice q3 x3 d3) ∧ w'.cell? ⟨w5.heap.size, 0, none⟩ = some (.slice q4 x4 d4)) (first | go_keep | exact ⟨by assumption, by assumption, by assumption, by assumption, by assumption⟩) (first | (go_at_call 7; (with_reducible refine MUL1.out.mono ?_); rintro e w' ⟨po, co, lo, rfl, hfo, hbe, c0, c2, c3, c4, c5⟩) | (go_at_call 6; (with_reducible refine (SAMER.out _ _ _ _ _ (by assumption) (by assumption)).mono ?_); rintro e w' ⟨rfl, hbe, c0, c2, c3, c4, c5⟩) | (go_at_call 7; (with_reducible refine (MUL2.out _ (by assumption)).mono ?_); rintro e w' ⟨po, co, lo, rfl, hfo, hbe, c0, c2, c3, c4, c5⟩) | (go_at_call 6; (with_reducible refine (SAMES.out _ _ _ _ _ (by assumption) (by assumption)).mono ?_); rintro e w' ⟨rfl, hbe, c0, c2, c3, c4, c5⟩) | (go_at_call 8; (with_reducible refine (RIGHT.out _ (by assumption)).mono ?_); rintro e w' ⟨rfl, hbe, c0, c2, c3, c4, c5⟩))
  go_wp2
  go_ret
  exact ⟨rfl, bl_trans HKW.out hbe.out⟩
end Go.Proofs.YtcpdbodfpcjbbabDoor
