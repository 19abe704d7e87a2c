/- The walk of PointsReads. -/
import Derived.Test.YtobdkkcihjpebaaDoorPzg
import Derived.Test.YtobdkkcihjpebaaDoorPi
import Derived.Test.YtobdkkcihjpebaaDoorFdi
import Derived.Test.YtobdkkcihjpebaaDoorFe
namespace Go.Proofs.YtobdkkcihjpebaaDoor
open Go.RowKit Tnd

theorem ofR_len (s : List UInt8) : (ofR s).1.length ≤ s.length := by
  have h := ofm_len s
  unfold ofR
  split
  · simp
  · split
    · rename_i l e; rw [e] at h; exact h
    · simp
theorem rof_at (s : ByteArray) (w : World) (l : List Nat) (at_ z : Nat) (hs : s.size ≤ 9223372036854775807) (hr : ofR s.data.toList = (l, at_, z)) :
    Calls Tryd.prog 7 #[.string s] w fun e w' => ∃ p c, e = .returned (.tuple #[.slice p l.length c, .int .i64 (at_ : Nat), .int .i64 (z : Nat)]) ∧ Own w' w.heap.size 3 .i64 (.slice p l.length c) l ∧ Below w.heap.size w w' := by
  have h := rof_any s w hs
  rw [hr] at h
  exact h
theorem same2 (p q : Option Addr) (c d : Nat) (a : List Nat) (w : World) (hp : SlI w p (ints a)) (hq : SlI w q (ints a)) (hl : a.length ≤ 1000000) :
    Calls Tryd.prog 8 #[.slice p a.length c, .slice q a.length d] w fun e w' => e = .returned (.bool true) ∧ Below w.heap.size w w' := by
  have h1 := same_ints p q c d (ints a) (ints a) w hp hq (by rw [ints_length]; omega) (by rw [ints_length]; omega)
  rw [ints_length, decide_eq_true rfl] at h1
  exact h1.mono fun e w' ⟨h2, n, h3⟩ => ⟨h2, by rw [← h3]; exact fl_drewN _ _⟩
theorem SlI.belowI {w w' : World} {p : Option Addr} {l : List Int} (h : SlI w p l) (hb : Below w.heap.size w w') : SlI w' p l := by
  rcases h with h | ⟨b, off, h1, h2⟩
  · exact .inl h
  · exact .inr ⟨b, off, h1, fun i hi => by rw [hb.cell (World.block_lt_of_cell? w _ (h2 i hi))]; exact h2 i hi⟩

set_option maxHeartbeats 3200000 in
set_option maxRecDepth 100000 in
theorem reads_true (s : ByteArray) (w : World) (hL : LeadsIn w) (hs : s.size ≤ 9223372036854775807) :
    Calls Tryd.prog 3 #[.string s] w fun e w' => e = .returned (.bool true) ∧ Below w.heap.size w w' := by
  have HL := Lib.hid hL
  have hsJ : (s.size : Int) ≤ 9223372036854775807 := by omega
  have HS := Lib.hid hs
  clear hL hs
  by_cases hg : 3000 < s.size
  · have hgI : (3000 : Int) < s.size := by omega
    have HA := Lib.hid (awake_any w HL.out)
    go_enter Tryd.func3, Tryd.ntmps3
    go_wp2_with (go_at_call 5; refine HA.out.mono ?_; rintro e w1 ⟨rfl, hb⟩; have HB := Lib.hid hb; clear hb)
    go_ret
    exact ⟨rfl, HB.out⟩
  · have hgI : (s.size : Int) ≤ 3000 := by omega
    have hlen := ofR_len s.data.toList
    rw [show s.data.toList.length = s.size by simp] at hlen
    obtain ⟨⟨l, at_, z⟩, hr⟩ : ∃ r, r = ofR s.data.toList := ⟨_, rfl⟩
    rw [← hr] at hlen
    have HLE := Lib.hid (show l.length ≤ 3000 by simp only at hlen; omega)
    have HR := Lib.hid hr.symm
    clear hr hlen hg
    go_enter Tryd.func3, Tryd.ntmps3
    go_wp2_with fail
    refine (of_at s w l at_ z HS.out HL.out HR.out).mono ?_
    rintro e w1 ⟨p1, c1, rfl, ho, hb⟩
    have K := Lib.hid hb
    have S1 := Lib.hid (own_sli ho)
    obtain ⟨D1, hv1, hn1, hr1, hp1⟩ := own_room ho
    have HV1 := Lib.hid hv1
    have HN1 := Lib.hid hn1
    have R1 := Lib.hid hr1
    have PL1 := Lib.hid hp1
    have K1 := Lib.hid (Below.refl w1.heap.size w1)
    have HZ1 := Lib.hid hb.size
    clear ho hb hv1 hn1 hr1 hp1
    go_wp2_with fail
    refine (rof_at s w1 l at_ z HS.out HR.out).mono ?_
    rintro e w2 ⟨p2, c2, rfl, ho, hb⟩
    have S2 := Lib.hid (own_sli ho)
    replace S1 := Lib.hid (S1.out.belowI hb)
    replace R1 := Lib.hid (R1.out.below hb)
    replace K := Lib.hid (bl_trans K.out hb)
    replace K1 := Lib.hid (bl_trans K1.out hb)
    clear ho hb
    have HZ2 := Lib.hid K1.out.size
    go_wp2_with fail
    refine (of_at s w2 l at_ z HS.out (HL.out.below K.out) HR.out).mono ?_
    rintro e w3 ⟨p3, c3, rfl, ho, hb⟩
    obtain ⟨D3, hv3, hn3, hr3, hp3⟩ := own_room ho
    have HV3 := Lib.hid hv3
    have HN3 := Lib.hid hn3
    have R3 := Lib.hid hr3
    have PL3 := Lib.hid hp3
    have HZ3 := Lib.hid hb.size
    replace S1 := Lib.hid (S1.out.belowI hb)
    replace S2 := Lib.hid (S2.out.belowI hb)
    replace R1 := Lib.hid (R1.out.below hb)
    replace K := Lib.hid (bl_trans K.out hb)
    clear ho hb hv3 hn3 hr3 hp3
    go_wp2_with fail
    refine (same2 p1 p2 c1 c2 l w3 S1.out S2.out (by have := HLE.out; omega)).mono ?_
    rintro e w4 ⟨rfl, hb⟩
    replace R1 := Lib.hid (R1.out.below hb)
    replace R3 := Lib.hid (R3.out.below hb)
    replace K := Lib.hid (bl_trans K.out hb)
    clear hb S1 S2
    have HUP : Hid (Up w.heap.size [D1, D3]) := ⟨w1.heap.size, HZ1.out, fun b e => PL1.out b e, w3.heap.size, Nat.le_trans HZ2.out HZ3.out, fun b e => ⟨Nat.le_trans HZ2.out (PL3.out b e).1, (PL3.out b e).2⟩, trivial⟩
    have HRM : Hid (∀ k, k < 2 → Room w4 1 (dg [D1, D3] k)) := fun k hk => match k, hk with
      | 0, _ => R1.out
      | 1, _ => R3.out
      | k + 2, h => absurd h (by omega)
    have HNN : Hid (∀ k, k < 2 → (dg [D1, D3] k).n ≤ 100000) := fun k hk => match k, hk with
      | 0, _ => by show D1.n ≤ _; rw [HN1.out]; have := HLE.out; omega
      | 1, _ => by show D3.n ≤ _; rw [HN3.out]; have := HLE.out; omega
      | k + 2, h => absurd h (by omega)
    have HAP := Lib.hid (ApartInts_any (some ⟨w4.heap.size, 0, none⟩) 2 2 [D1, D3] (w4.alloc (.cells #[.slice p1 l.length c1, .slice p3 l.length c3] 23)) rfl (slD_new (fun b ⟨k, hk, e⟩ => (HRM.out k hk).lt b e) (by rw [HV1.out, HV3.out]; rfl)) (fun k hk => (HRM.out k hk).below (bl_alloc _ _)) (up_far HUP.out) (by omega) HNN.out)
    clear HV1 HV3
    go_wp2_with fail
    refine HAP.out.mono ?_
    rintro e w5 ⟨rfl, hb0⟩
    have hb : Below w.heap.size w4 w5 := ((bl_alloc w4 _).mono K.out.size).trans (hb0.below (by have := K.out.size; simp; omega) (fun k s => up_in HUP.out s))
    replace K := Lib.hid (K.out.trans hb)
    clear hb hb0 HAP HRM R1 R3
    go_wp2_with fail
    refine (awake_any w5 (HL.out.below K.out)).mono ?_
    rintro e w6 ⟨rfl, hb⟩
    replace K := Lib.hid (bl_trans K.out hb)
    clear hb
    go_wp2
    go_ret
    exact ⟨rfl, K.out⟩
end Go.Proofs.YtobdkkcihjpebaaDoor
