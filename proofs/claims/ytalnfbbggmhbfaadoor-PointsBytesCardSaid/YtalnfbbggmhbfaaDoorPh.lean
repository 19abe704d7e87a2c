/- The walk of Of: a text's code points, or the place where it is not right. -/
import Derived.Test.YtalnfbbggmhbfaaDoorPg
namespace Go.Proofs.YtalnfbbggmhbfaaDoor
open Go.RowKit Tnd

/-- what Of tells: code points, place, error. -/
def ofR (s : List UInt8) : List Nat × Nat × Nat := if 65536 < s.length then ([], 0, 3) else match ofm s with
  | (l, none) => (l, 0, 0)
  | (_, some r) => ([], s.length - r.length, 4)
theorem ofR_long {s : List UInt8} (h : 65536 < s.length) : ofR s = ([], 0, 3) := by unfold ofR; rw [if_pos h]
theorem ofR_ok {s : List UInt8} {l : List Nat} (h : ¬ 65536 < s.length) (h2 : ofm s = (l, none)) : ofR s = (l, 0, 0) := by unfold ofR; rw [if_neg h, h2]
theorem ofR_bad {s r : List UInt8} {l : List Nat} (h : ¬ 65536 < s.length) (h2 : ofm s = (l, some r)) : ofR s = ([], s.length - r.length, 4) := by unfold ofR; rw [if_neg h, h2]

def OfPost (B : Nat) (r : List Nat × Nat × Nat) (w : World) (e : Ending) (w' : World) : Prop :=
  ∃ p c, e = .returned (.tuple #[.slice p r.1.length c, .int .i64 (r.2.1 : Nat), .int .i64 (r.2.2 : Nat)]) ∧ Own w' B 3 .i64 (.slice p r.1.length c) r.1 ∧ Below B w w'

theorem ofPost_mk {B : Nat} {w w' : World} {p : Option Addr} {n c : Nat} {a z : Int} {l : List Nat} {r : List Nat × Nat × Nat} (hr : r = (l, a.toNat, z.toNat)) (hn : n = l.length) (ha : 0 ≤ a) (hz : 0 ≤ z) (ho : Own w' B 3 .i64 (.slice p n c) l) (hb : Below B w w') :
    OfPost B r w (.returned (.tuple #[.slice p n c, .int .i64 a, .int .i64 z])) w' := by
  subst hr hn
  refine ⟨p, c, ?_, ho, hb⟩
  show Ending.returned _ = Ending.returned _
  rw [show ((a.toNat : Nat) : Int) = a by omega, show ((z.toNat : Nat) : Int) = z by omega]

set_option maxHeartbeats 3200000 in
set_option maxRecDepth 100000 in
theorem of_any (s : ByteArray) (w : World) (hs : s.size ≤ 9223372036854775807) (hL : LeadsIn w) :
    Calls Tryd.prog 4 #[.string s] w (OfPost w.heap.size (ofR s.data.toList) w) := by
  have hsl : s.data.toList.length = s.size := by simp
  have HSL := Lib.hid hsl
  have hsI : (s.size : Int) ≤ 9223372036854775807 := by omega
  have HLD := Lib.hid hL
  clear hL hsl
  by_cases hbig : 65536 < s.size
  · have hbI : 65536 < (s.size : Int) := by omega
    go_enter Tryd.func4, Tryd.ntmps4
    go_wp2
    go_ret3
    exact ofPost_mk (l := []) (by rw [ofR_long (by rw [HSL.out]; exact hbig)]; rfl) rfl (by omega) (by omega) (own_nil _ _ _ _) (Below.refl _ _)
  · have hbI : (s.size : Int) ≤ 65536 := by omega
    have HBIG := Lib.hid hbig
    have HBIG2 := Lib.hid (show ¬ 65536 < s.data.toList.length by rw [HSL.out]; exact hbig)
    have HGL : Hid (0 < w.heap.size) := by obtain ⟨T, fr, h⟩ := HLD.out; exact lt_of_block h
    clear hbig
    go_enter Tryd.func4, Tryd.ntmps4
    go_wp2
    go_loopg [] s.size (fun g wr => ∃ (t : List UInt8) (l : List Nat), g = t.length ∧ Hid (ofm s.data.toList = (l ++ (ofm t).1, (ofm t).2)) ∧ Hid (Rd wr w.heap.size w.heap.size t l) ∧ Hid (Below w.heap.size w wr) ∧ Hid (l.length + t.length ≤ 65536))
    case atStart =>
      refine ⟨s.data.toList, [], HSL.out.symm, rfl, ⟨s, .slice none 0 0, heap_alloc_new w _, own_nil _ _ _ _, rfl⟩, bl_alloc _ _, ?_⟩
      have := HSL.out
      have h2 := HBIG.out
      show (0 : Nat) + s.data.toList.length ≤ 65536
      omega
    case round =>
      obtain ⟨t, l, hg, HO, HR, HB, HLT⟩ := hrel
      have hrd := HR.out
      obtain ⟨s', v, h1, h2, h3⟩ := hrd
      obtain ⟨p, c, hv, _⟩ := own_form h2
      subst hv
      have hc0 := two_cell0 h1
      have hc1 := two_cell1 h1
      have hsz : s'.size = t.length := by
        have e1 := congrArg List.length h3
        simpa using e1
      have hs1 : s'.size ≤ 9223372036854775807 := by
        have e2 := HLT.out
        omega
      have H1 := Lib.hid h1
      have H2 := Lib.hid h2
      have H3 := Lib.hid h3
      have HSZ := Lib.hid hsz
      have HG := Lib.hid hg
      clear h1 h2 h3 hsz hg
      match t, HO, HR, HLT, H3, HSZ, HG with
      | [], HO, HR, HLT, H3, HSZ, HG =>
        have hz : (s'.size : Int) ≤ 0 := by have := HSZ.out; rw [List.length_nil] at this; omega
        go_wp2_with (go_at_call 12; refine (left_any _ _ hs1).mono ?_; rintro e w' ⟨rfl, rfl⟩)
        go_ret3
        have e1 := HO.out
        rw [ofm_nil, List.append_nil] at e1
        exact ofPost_mk (l := l) (a := 0) (z := 0) (p := p) (c := c) (n := l.length) (by rw [ofR_ok HBIG2.out e1]; rfl) rfl (Int.le_refl _) (Int.le_refl _) H2.out HB.out
      | x :: t, HO, HR, HLT, H3, HSZ, HG =>
        have hz : 0 < (s'.size : Int) := by have := HSZ.out; rw [List.length_cons] at this; omega
        have HPT := Lib.hid (point_any w.heap.size w.heap.size x t l wr HR.out (HLD.out.below HB.out) HGL.out (by have := HLT.out; simp at this; omega) (by have := HLT.out; simp at this; omega) (Nat.le_refl _))
        rcases hp : pt (x :: t) with ⟨_ | c', u⟩
        · rw [hp] at HPT
          have hu : u.length ≤ t.length + 1 := by
            obtain ⟨q, hq, _⟩ := pt_none hp
            have := congrArg List.length hq
            simp at this; omega
          have HU := Lib.hid (show u.length ≤ 65536 ∧ u.length ≤ s.size by
            have h1 := HLT.out
            have h2 := HO.out
            simp at h1
            have h3 : ofm s.data.toList = (l, some u) := by rw [h2, ofm_bad (by simp) hp, List.append_nil]
            have h4 := ofm_left h3
            rw [HSL.out] at h4
            exact ⟨by omega, h4⟩)
          have HP := Lib.hid hp
          clear hp hu
          go_wp2_with (first | (go_at_call 12; refine (left_any _ _ (by assumption)).mono ?_; rintro e w' ⟨rfl, rfl⟩) | (go_at_call 13; refine HPT.out.mono ?_; rintro e w2 ⟨rfl, hb2, hr2⟩; obtain ⟨s2, v2, q1, q2, q3⟩ := hr2; have qc0 := two_cell0 q1; have qs : s2.size = u.length := (by simpa using congrArg List.length q3); have hs2 : s2.size ≤ 9223372036854775807 := (by have := HU.out; omega); have hs3 : (s2.size : Int) ≤ (s.size : Int) := (by have := HU.out; omega); have HQS := Lib.hid qs; have HB2 := Lib.hid hb2; clear q1 q2 q3 hb2 qs))
          go_ret3
          have e1 := HO.out
          rw [ofm_bad (by simp) HP.out, List.append_nil] at e1
          exact ofPost_mk (l := []) (a := (s.size : Int) - s2.size) (z := 4) (p := none) (c := 0) (n := 0) (by
            have h1 := HQS.out
            have h2 := HSL.out
            rw [ofR_bad HBIG2.out e1, h2, show ((s.size : Int) - s2.size).toNat = s.size - u.length by omega]; rfl) rfl (by omega) (by decide) (own_nil _ _ _ _) (HB.out.trans HB2.out)
        · rw [hp] at HPT
          have HP := Lib.hid hp
          clear hp
          go_wp2_with (first | (go_at_call 12; refine (left_any _ _ hs1).mono ?_; rintro e w' ⟨rfl, rfl⟩) | (go_at_call 13; refine HPT.out.mono ?_; rintro e w2 ⟨rfl, hb2, hr2⟩; have HR2 := Lib.hid hr2; have HB2 := Lib.hid hb2; clear hr2 hb2))
          have hl := pt_len HP.out
          go_roundg u.length
          case rel =>
            refine ⟨u, l ++ [c'], rfl, ?_, HR2.out, HB.out.trans HB2.out, ?_⟩
            · have e1 := HO.out
              rw [ofm_ok HP.out] at e1
              show ofm s.data.toList = _
              rw [e1, List.append_assoc]; rfl
            · have := HLT.out
              show (l ++ [c']).length + u.length ≤ 65536
              rw [List.length_cons] at this hl
              rw [List.length_append, List.length_singleton]; omega
          case measure => have := HG.out; rw [List.length_cons] at this hl; omega
end Go.Proofs.YtalnfbbggmhbfaaDoor
