/- The walks of slices.IndexFunc, slices.ContainsFunc at kinded's closure; kinded. -/
import Derived.Test.YtafiekelcoaadaaGreatLu

namespace Go.Proofs.YtafiekelcoaadaaGreat
open Go.RowKit Tnr Tnt

def KindsIn (xs : List NV) : Prop := ∀ x ∈ xs, 0 ≤ x.nd.kind ∧ x.nd.kind < 256
def kindsB (xs : List NV) : Bool := xs.all kindB
theorem kindsB_take {xs : List NV} {k : Nat} (h : k < xs.length) : kindsB (xs.take (k + 1)) = (kindsB (xs.take k) && kindB (gn xs k)) := by
  unfold kindsB; rw [take_gn h, List.all_append]; simp
theorem kindsB_bad {xs : List NV} {k : Nat} (h : k < xs.length) (hb : kindB (gn xs k) = false) : kindsB xs = false := by
  unfold kindsB; rw [List.all_eq_false]; exact ⟨gn xs k, gn_mem h, by simp [hb]⟩
set_option maxHeartbeats 1600000 in
set_option maxRecDepth 100000 in
theorem indexKind_any (p : Option Addr) (n c : Nat) (xs : List NV) (bt tb : Nat) (w : World) (hn : n = xs.length) (hl : n ≤ 1000000) (hL : SlN w p xs) (hk : KindsIn xs) (hB : Bx w bt 146 #[.slice (some ⟨tb, 0, none⟩) 14 14]) (hT : Bx w tb 151 kTab.toArray) :
    Calls Tryz.prog 156 #[.slice p n c, .func (.func 120) #[] #[.pointer (some ⟨bt, 0, none⟩)]] w fun e w' => (∃ z : Int, e = .returned (.int .i64 z) ∧ (0 ≤ z ↔ kindsB xs = false)) ∧ Below w.heap.size w w' := by
  have HL := Lib.hid hL
  have HN := Lib.hid hn
  have HK := Lib.hid hk
  have HT := Lib.hid (And.intro hB hT)
  have hnI : (n : Int) ≤ 1000000 := by omega
  clear hL hn hk hB hT
  go_enter Tryz.func156, Tryz.ntmps156
  go_wp2
  go_loopw [8] (fun iv wr => ∃ k : Nat, k ≤ n ∧ iv = .int .i64 (k : Nat) ∧ Hid (kindsB (xs.take k) = true) ∧ Hid (Below w.heap.size w wr)) (fun iv _ => n - (intOf iv).toNat)
  case atStart => exact ⟨0, Nat.zero_le _, rfl, rfl, Below.refl _ _⟩
  case round =>
    obtain ⟨k, hk, rfl, HE, HW⟩ := hrel
    rename World => wr
    by_cases hkn : k < n
    · have hkx : k < xs.length := by have := HN.out; omega
      obtain ⟨b, o, rfl, hcells, hin⟩ := (HL.out.below HW.out).at hkx
      have hkI : (k : Int) < n := by omega
      have HCO := Lib.hid (kinded1_any (gn xs k) bt tb wr (HK.out _ (gn_mem hkx)) hin (HT.out.1.below HW.out) (HT.out.2.below HW.out))
      have HTK := Lib.hid (kindsB_take hkx)
      have HBAD : Hid (kindB (gn xs k) = false → kindsB xs = false) := fun h => kindsB_bad hkx h
      obtain ⟨x, hx⟩ : ∃ x, x = gn xs k := ⟨_, rfl⟩
      rw [← hx] at hcells HCO HTK HBAD
      obtain ⟨ls, lk, hls, hlk, h⟩ := node_lit2 x
      unfold NodeLit at h
      obtain ⟨c0, c1, c2, c3, c4, c5, c6, c7, c8⟩ := hcells
      rw [← hls] at c1
      rw [← hlk] at c2
      rw [h] at HCO
      obtain ⟨bb, hbb⟩ : ∃ b : Bool, b = kindB x := ⟨_, rfl⟩
      rw [← hbb] at HCO HTK HBAD
      clear hin hx hkx hls hlk h hbb
      cases bb with
      | false =>
        go_wp2_with (go_at_call 120; refine (HCO.out).mono ?_; rintro e w5 ⟨rfl, hb5⟩; have HB5 := Lib.hid hb5; clear hb5)
        go_ret
        exact ⟨⟨k, rfl, ⟨fun _ => HBAD.out (by first | trivial | rfl), fun _ => by omega⟩⟩, HW.out.trans (HB5.out.mono HW.out.size)⟩
      | true =>
        go_wp2_with (go_at_call 120; refine (HCO.out).mono ?_; rintro e w5 ⟨rfl, hb5⟩; have HB5 := Lib.hid hb5; clear hb5)
        go_roundw
        case rel =>
          refine ⟨k + 1, by omega, by go_num, ?_, HW.out.trans (HB5.out.mono HW.out.size)⟩
          show kindsB (xs.take (k + 1)) = true
          rw [HTK.out, HE.out]; rfl
        case measure => simp [intOf]; omega
    · have hkI : (n : Int) ≤ k := by omega
      go_wp2
      go_ret
      refine ⟨⟨-1, rfl, ⟨fun h => by omega, fun h => ?_⟩⟩, HW.out⟩
      have := HE.out
      rw [List.take_of_length_le (by have := HN.out; omega), h] at this
      cases this
set_option maxRecDepth 100000 in
theorem containsKind_any (p : Option Addr) (n c : Nat) (xs : List NV) (bt tb : Nat) (w : World) (hn : n = xs.length) (hl : n ≤ 1000000) (hL : SlN w p xs) (hk : KindsIn xs) (hB : Bx w bt 146 #[.slice (some ⟨tb, 0, none⟩) 14 14]) (hT : Bx w tb 151 kTab.toArray) :
    Calls Tryz.prog 119 #[.slice p n c, .func (.func 120) #[] #[.pointer (some ⟨bt, 0, none⟩)]] w fun e w' => e = .returned (.bool (!kindsB xs)) ∧ Below w.heap.size w w' := by
  have HI := Lib.hid (indexKind_any p n c xs bt tb w hn hl hL hk hB hT)
  clear hn hl hL hk hB hT
  go_enter Tryz.func119, Tryz.ntmps119
  go_wp2_with fail
  refine HI.out.mono ?_
  rintro e w' ⟨⟨z, rfl, hz⟩, hb⟩
  have HZ := Lib.hid (And.intro hz hb)
  clear hz hb
  go_wp2
  go_ret
  refine ⟨?_, HZ.out.2⟩
  have h := HZ.out.1
  have h2 : decide (z ≥ 0) = !kindsB xs := by
    cases hkb : kindsB xs with
    | true => rw [hkb] at h; simp at h; simp; omega
    | false => rw [hkb] at h; simpa using h
  rw [← h2]; rfl
set_option maxRecDepth 100000 in
theorem kinded_any (p : Option Addr) (n c : Nat) (xs : List NV) (w : World) (hn : n = xs.length) (hl : n ≤ 1000000) (hL : SlN w p xs) (hk : KindsIn xs) :
    Calls Tryz.prog 76 #[.slice p n c] w fun e w' => e = .returned (.bool (kindsB xs)) ∧ Below w.heap.size w w' := by
  have HK := Lib.hid (kinds_any w)
  obtain ⟨W2, hW2⟩ : ∃ W, W = (w.alloc (.cells kTab.toArray 151)).alloc (.cells #[.slice (some ⟨w.heap.size, 0, none⟩) 14 14] 146) := ⟨_, rfl⟩
  have hb2 : Below w.heap.size w W2 := by rw [hW2]; exact bl_trans (bl_alloc _ _) (bl_alloc _ _)
  have hT : Bx W2 w.heap.size 151 kTab.toArray := by rw [hW2]; exact (Bx.new w _ _).below (bl_alloc _ _)
  have hB : Bx W2 (w.heap.size + 1) 146 #[.slice (some ⟨w.heap.size, 0, none⟩) 14 14] := by
    have h := Bx.new (w.alloc (.cells kTab.toArray 151)) 146 #[.slice (some ⟨w.heap.size, 0, none⟩) 14 14]
    rw [World.size_alloc] at h; rw [hW2]; exact h
  have HI := Lib.hid (containsKind_any p n c xs (w.heap.size + 1) w.heap.size W2 hn hl (hL.below hb2) hk hB hT)
  have HB := Lib.hid hb2
  rw [hW2] at HI HB
  clear hn hl hL hk hT hB hb2 hW2
  go_enter Tryz.func76, Tryz.ntmps76
  go_wp2_with (first | (go_at_call 118; refine (HK.out).mono ?_; rintro e w5 ⟨rfl, rfl⟩) | (go_at_call 119; refine (HI.out).mono ?_; rintro e w5 ⟨rfl, hb5⟩; have HB5 := Lib.hid hb5; clear hb5))
  go_ret
  refine ⟨?_, HB.out.trans (HB5.out.mono HB.out.size)⟩
  rw [show kindsB xs = !!kindsB xs by simp]; rfl
end Go.Proofs.YtafiekelcoaadaaGreat
