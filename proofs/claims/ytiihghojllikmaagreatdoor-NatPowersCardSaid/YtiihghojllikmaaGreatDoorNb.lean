/- The walk of the document's In: the decimal digits of a number of digits to 2^32. -/
import Derived.Test.YtiihghojllikmaaGreatDoorNa
namespace Go.Proofs.YtiihghojllikmaaGreatDoor
open Go.RowKit Tnd

theorem carry32 (l : List Nat) (hd : Digs 10 l) : Carry l 4294967296 (fun _ c => c < 4294967296) := by
  intro i c _ hc
  have hx : gd l i < 10 := gd_lt hd (by omega) i
  generalize gd l i = x at *
  constructor <;> omega
theorem rtimes_own {w : World} {B : Nat} {q : Option Addr} {qc : Nat} {N : List Nat} (m k0 : Nat) (C : Nat → Nat → Prop) (ho : Own w B 5 .u8 (.slice q N.length qc) N) (hd : Digs 10 N) (hC : Carry N m C) (h0 : C 0 k0) (hm : m < 18446744073709551616) (hk : k0 < 18446744073709551616) (hl : N.length ≤ 1000000000000) :
    Calls Tryz.prog 46 #[.slice q N.length qc, .int .u64 (m : Nat), .int .u64 (k0 : Nat)] w fun e w' =>
      ∃ q qc M, e = .returned (.slice q M.length qc) ∧ Own w' w.heap.size 5 .u8 (.slice q M.length qc) M ∧ Digs 10 M ∧ RightL M ∧ nv 10 M = nv 10 N * m + k0 ∧ Below w.heap.size w w' := by
  obtain ⟨q', qc', he, hlc, hcm, hn, hsl, _⟩ := own_form ho
  simp only [Value.slice.injEq, true_and] at he
  obtain ⟨rfl, rfl⟩ := he
  exact rtimes_any q qc N m k0 C w hsl hd hC h0 hm hk hl

/-- a row of decimal digits of the call's own that stands for n. -/
def DRow (w : World) (B : Nat) (q : Option Addr) (qc : Nat) (N : List Nat) (n : Nat) : Prop :=
  Own w B 5 .u8 (.slice q N.length qc) N ∧ Digs 10 N ∧ RightL N ∧ nv 10 N = n

theorem dlen {N : List Nat} {n k : Nat} (hr : RightL N) (hn : nv 10 N = n) (h : n < 2 ^ k) : N.length ≤ k :=
  len_right 10 k N (by omega) hr (by rw [hn]; exact h)

set_option maxHeartbeats 800000 in
set_option maxRecDepth 100000 in
theorem in_any (p : Option Addr) (c : Nat) (l : List Nat) (w : World) (hs : Sl w .u32 p l) (hd : Digs 4294967296 l) (hl : l.length ≤ 1000000000) :
    Calls Tryz.prog 34 #[.agg #[.slice p l.length c]] w fun e w' =>
      ∃ q qc N, e = .returned (.slice q N.length qc) ∧ DRow w' w.heap.size q qc N (nv 4294967296 l) ∧ Below w.heap.size w w' := by
  obtain ⟨w0, hw0⟩ : ∃ w0, w0 = w.alloc (.cells #[.slice p l.length c] 24) := ⟨_, rfl⟩
  have hB : Below w.heap.size w w0 := by subst hw0; exact (Below.refl _ _).alloc (Nat.le_refl _) _
  have hc1 : w0.cell? ⟨w.heap.size, 0, none⟩ = some (.slice p l.length c) := by subst hw0; rw [World.cell?_alloc_at _ _ _ _ rfl]; rfl
  have hs0 : w0.heap.size = w.heap.size + 1 := by subst hw0; simp
  have HW0 := Lib.hid hw0
  have HB := Lib.hid hB
  have HC1 := Lib.hid hc1
  have HS0 := Lib.hid hs0
  have HS := Lib.hid hs
  have HD := Lib.hid hd
  have hlI : (l.length : Int) ≤ 1000000000 := by omega
  clear hw0 hB hs0 hs hd
  go_enter Tryz.func34, Tryz.ntmps34
  go_wp2_with (rw [← HW0.out])
  try rw [← HW0.out]
  clear hc1
  go_loopw [3, 4] (fun v i wr => ∃ (j : Int) (q : Option Addr) (qc : Nat) (N : List Nat), -1 ≤ j ∧ j < l.length ∧ i = .int .i64 j ∧ v = .slice q N.length qc ∧ Hid (DRow wr w0.heap.size q qc N (nv 4294967296 (l.drop (j + 1).toNat))) ∧ Hid (Below w0.heap.size w0 wr)) (fun _ i _ => (intOf i + 1).toNat)
  case atStart =>
    refine ⟨(l.length : Int) - 1, none, 0, [], by omega, by omega, rfl, rfl, ⟨own_nil _ _ _ _, fun x hx => by simp at hx, right_nil, ?_⟩, Below.refl _ _⟩
    have e1 : ((l.length : Int) - 1 + 1).toNat = l.length := by omega
    rw [e1, List.drop_length]; rfl
  case round =>
    obtain ⟨j, q, qc, N, hj1, hj2, rfl, rfl, HDR, HBR⟩ := hrel
    rename World => wr
    have hcw : wr.cell? ⟨w.heap.size, 0, none⟩ = some (.slice p l.length c) := by rw [HBR.out.cell (by rw [HS0.out]; simp)]; exact HC1.out
    by_cases hj : 0 ≤ j
    · obtain ⟨k, rfl⟩ : ∃ k : Nat, j = k := ⟨j.toNat, by omega⟩
      have hk1 : k < l.length := by omega
      obtain ⟨pb, po, rfl, hck⟩ : ∃ b off, p = some ⟨b, off, none⟩ ∧ wr.cell? ⟨b, off + k, none⟩ = some (.int .u32 (gd l k : Nat)) := by
        rcases HS.out with h | ⟨b, off, h1, h2⟩
        · subst h; simp at hk1
        · have h3 := h2 k hk1
          have h4 := World.block_lt_of_cell? w _ h3
          exact ⟨b, off, h1, by rw [HBR.out.cell (by rw [HS0.out]; simp at h4 ⊢; omega), HB.out.cell (by simpa using h4)]; exact h3⟩
      have hdk : gd l k < 4294967296 := gd_lt HD.out (by omega) k
      obtain ⟨hO, hDg, hR, hV⟩ := HDR.out
      have e1 : ((k : Int) + 1).toNat = k + 1 := by omega
      rw [e1] at hV
      have hvk : nv 4294967296 (l.drop k) = nv 10 N * 4294967296 + gd l k := by
        rw [nv_drop_step 4294967296 l k hk1, hV, Nat.mul_comm]
      have hNl := dlen hR hV (nv_drop_lt 4294967296 l (k + 1) HD.out (by omega))
      have htm := rtimes_own (w := wr) 4294967296 (gd l k) (fun _ c => c < 4294967296) hO hDg (carry32 N hDg) hdk (by omega) (by omega) (by omega)
      rw [← hvk] at htm
      have hI : ((gd l k : Nat) : Int) ≤ 4294967295 := by omega
      have HTM := Lib.hid htm
      clear htm hO hDg hR hV hvk hNl hdk
      generalize gd l k = d at *
      have hkI : (k : Int) < (l.length : Int) := by omega
      go_wp2_with fail
      refine HTM.out.mono ?_
      rintro e w2 ⟨q2, qc2, M, rfl, hO2, hd2, hr2, hv2, hb2⟩
      have HDR2 : Hid (DRow w2 w0.heap.size q2 qc2 M (nv 4294967296 (l.drop ((k : Int) - 1 + 1).toNat))) := by
        have e2 : ((k : Int) - 1 + 1).toNat = k := by omega
        show DRow _ _ _ _ _ _
        rw [e2]
        exact ⟨own_down hO2 HBR.out.size, hd2, hr2, hv2⟩
      have HBR2 := Lib.hid (HBR.out.trans (hb2.mono HBR.out.size))
      clear hO2 hd2 hr2 hv2 hb2 HTM hcw
      go_wp2
      go_roundw
      case rel => exact ⟨(k : Int) - 1, q2, qc2, M, by omega, by omega, rfl, rfl, HDR2, HBR2⟩
      case measure => simp [intOf]
    · obtain rfl : j = -1 := by omega
      have HDR2 : Hid (DRow wr w.heap.size q qc N (nv 4294967296 l)) := by
        obtain ⟨h1, h2, h3, h4⟩ := HDR.out
        exact ⟨own_down h1 (by rw [HS0.out]; omega), h2, h3, h4⟩
      go_wp2
      go_ret
      exact ⟨q, qc, N, rfl, HDR2.out, HB.out.trans (HBR.out.mono (by rw [HS0.out]; omega))⟩
end Go.Proofs.YtiihghojllikmaaGreatDoor
