/- The walks of slices.IndexFunc, slices.ContainsFunc at kinded's closure; kinded. -/
/- The walks of cmp.Compare and cmp.Or; begun's comparison. -/
import Derived.Test.YtjpccmiaimkmbaaGreatLu
import Derived.Test.YtjpccmiaimkmbaaGreatShelf
import Derived.StillTailTactics

namespace Go.Proofs.YtjpccmiaimkmbaaGreat
open Go.RowKit Tnr Tnt

def KindsIn (xs : List NV) : Prop := ∀ x ∈ xs, 0 ≤ x.nd.kind ∧ x.nd.kind < 256
def kindsB (xs : List NV) : Bool := xs.all kindB
theorem kindsB_take {xs : List NV} {k : Nat} (h : k < xs.length) : kindsB (xs.take (k + 1)) = (kindsB (xs.take k) && kindB (gn xs k)) := by
  unfold kindsB; rw [take_gn h, List.all_append]; simp
theorem kindsB_bad {xs : List NV} {k : Nat} (h : k < xs.length) (hb : kindB (gn xs k) = false) : kindsB xs = false := by
  unfold kindsB; rw [List.all_eq_false]; exact ⟨gn xs k, gn_mem h, by simp [hb]⟩
set_option maxHeartbeats 1600000 in
set_option maxRecDepth 100000 in
theorem indexKind_any (p : Option Addr) (n c : Nat) (xs : List NV) (bt tb : Nat) (w : World) (hn : n = xs.length) (hl : n ≤ 1000000) (hL : SlN w p xs) (hk : KindsIn xs) (hB : Bx w bt 207 #[.slice (some ⟨tb, 0, none⟩) 14 14]) (hT : Bx w tb 212 kTab.toArray) :
    Calls Tryz.prog 161 #[.slice p n c, .func (.func 139) #[] #[.pointer (some ⟨bt, 0, none⟩)]] w fun e w' => (∃ z : Int, e = .returned (.int .i64 z) ∧ (0 ≤ z ↔ kindsB xs = false)) ∧ Below w.heap.size w w' := by
  have HL := Lib.hid hL
  have HN := Lib.hid hn
  have HK := Lib.hid hk
  have HT := Lib.hid (And.intro hB hT)
  have hnI : (n : Int) ≤ 1000000 := by omega
  clear hL hn hk hB hT
  go_enter Tryz.func161, Tryz.ntmps161
  go_wp2
  go_loopw [8] (fun iv wr => ∃ k : Nat, k ≤ n ∧ iv = .int .i64 (k : Nat) ∧ Hid (kindsB (xs.take k) = true) ∧ Hid (Below w.heap.size w wr)) (fun iv _ => n - (intOf iv).toNat)
  case atStart => exact ⟨0, Nat.zero_le _, rfl, rfl, Below.refl _ _⟩
  case round =>
    obtain ⟨k, hk, rfl, HE, HW⟩ := hrel
    rename World => wr
    by_cases hkn : k < n
    · have hkx : k < xs.length := by have := HN.out; omega
      obtain ⟨b, o, rfl, hcells, hin⟩ := (HL.out.below HW.out).at hkx
      have hkI : (k : Int) < n := by omega
      have HCO := Lib.hid (kinded1_any (gn xs k) bt tb wr (HK.out _ (gn_mem hkx)) hin (HT.out.1.below HW.out) (HT.out.2.below HW.out))
      have HTK := Lib.hid (kindsB_take hkx)
      have HBAD : Hid (kindB (gn xs k) = false → kindsB xs = false) := fun h => kindsB_bad hkx h
      obtain ⟨x, hx⟩ : ∃ x, x = gn xs k := ⟨_, rfl⟩
      rw [← hx] at hcells HCO HTK HBAD
      obtain ⟨ls, lk, hls, hlk, h⟩ := node_lit2 x
      unfold NodeLit at h
      obtain ⟨c0, c1, c2, c3, c4, c5, c6, c7, c8⟩ := hcells
      rw [← hls] at c1
      rw [← hlk] at c2
      rw [h] at HCO
      obtain ⟨bb, hbb⟩ : ∃ b : Bool, b = kindB x := ⟨_, rfl⟩
      rw [← hbb] at HCO HTK HBAD
      clear hin hx hkx hls hlk h hbb
      cases bb with
      | false =>
        go_wp2_with (go_at_call 139; refine (HCO.out).mono ?_; rintro e w5 ⟨rfl, hb5⟩; have HB5 := Lib.hid hb5; clear hb5)
        go_ret
        exact ⟨⟨k, rfl, ⟨fun _ => HBAD.out (by first | trivial | rfl), fun _ => by omega⟩⟩, HW.out.trans (HB5.out.mono HW.out.size)⟩
      | true =>
        go_wp2_with (go_at_call 139; refine (HCO.out).mono ?_; rintro e w5 ⟨rfl, hb5⟩; have HB5 := Lib.hid hb5; clear hb5)
        go_roundw
        case rel =>
          refine ⟨k + 1, by omega, by go_num, ?_, HW.out.trans (HB5.out.mono HW.out.size)⟩
          show kindsB (xs.take (k + 1)) = true
          rw [HTK.out, HE.out]; rfl
        case measure => simp [intOf]; omega
    · have hkI : (n : Int) ≤ k := by omega
      go_wp2
      go_ret
      refine ⟨⟨-1, rfl, ⟨fun h => by omega, fun h => ?_⟩⟩, HW.out⟩
      have := HE.out
      rw [List.take_of_length_le (by have := HN.out; omega), h] at this
      cases this
set_option maxRecDepth 100000 in
theorem containsKind_any (p : Option Addr) (n c : Nat) (xs : List NV) (bt tb : Nat) (w : World) (hn : n = xs.length) (hl : n ≤ 1000000) (hL : SlN w p xs) (hk : KindsIn xs) (hB : Bx w bt 207 #[.slice (some ⟨tb, 0, none⟩) 14 14]) (hT : Bx w tb 212 kTab.toArray) :
    Calls Tryz.prog 138 #[.slice p n c, .func (.func 139) #[] #[.pointer (some ⟨bt, 0, none⟩)]] w fun e w' => e = .returned (.bool (!kindsB xs)) ∧ Below w.heap.size w w' := by
  have HI := Lib.hid (indexKind_any p n c xs bt tb w hn hl hL hk hB hT)
  clear hn hl hL hk hB hT
  go_enter Tryz.func138, Tryz.ntmps138
  go_wp2_with fail
  refine HI.out.mono ?_
  rintro e w' ⟨⟨z, rfl, hz⟩, hb⟩
  have HZ := Lib.hid (And.intro hz hb)
  clear hz hb
  go_wp2
  go_ret
  refine ⟨?_, HZ.out.2⟩
  have h := HZ.out.1
  have h2 : decide (z ≥ 0) = !kindsB xs := by
    cases hkb : kindsB xs with
    | true => rw [hkb] at h; simp at h; simp; omega
    | false => rw [hkb] at h; simpa using h
  rw [← h2]; rfl
set_option maxRecDepth 100000 in
theorem kinded_any (p : Option Addr) (n c : Nat) (xs : List NV) (w : World) (hn : n = xs.length) (hl : n ≤ 1000000) (hL : SlN w p xs) (hk : KindsIn xs) :
    Calls Tryz.prog 106 #[.slice p n c] w fun e w' => e = .returned (.bool (kindsB xs)) ∧ Below w.heap.size w w' := by
  have HK := Lib.hid (kinds_any w)
  obtain ⟨W2, hW2⟩ : ∃ W, W = (w.alloc (.cells kTab.toArray 212)).alloc (.cells #[.slice (some ⟨w.heap.size, 0, none⟩) 14 14] 207) := ⟨_, rfl⟩
  have hb2 : Below w.heap.size w W2 := by rw [hW2]; exact bl_trans (bl_alloc _ _) (bl_alloc _ _)
  have hT : Bx W2 w.heap.size 212 kTab.toArray := by rw [hW2]; exact (Bx.new w _ _).below (bl_alloc _ _)
  have hB : Bx W2 (w.heap.size + 1) 207 #[.slice (some ⟨w.heap.size, 0, none⟩) 14 14] := by
    have h := Bx.new (w.alloc (.cells kTab.toArray 212)) 207 #[.slice (some ⟨w.heap.size, 0, none⟩) 14 14]
    rw [World.size_alloc] at h; rw [hW2]; exact h
  have HI := Lib.hid (containsKind_any p n c xs (w.heap.size + 1) w.heap.size W2 hn hl (hL.below hb2) hk hB hT)
  have HB := Lib.hid hb2
  rw [hW2] at HI HB
  clear hn hl hL hk hT hB hb2 hW2
  go_enter Tryz.func106, Tryz.ntmps106
  go_wp2_with (first | (go_at_call 137; refine (HK.out).mono ?_; rintro e w5 ⟨rfl, rfl⟩) | (go_at_call 138; refine (HI.out).mono ?_; rintro e w5 ⟨rfl, hb5⟩; have HB5 := Lib.hid hb5; clear hb5))
  go_ret
  refine ⟨?_, HB.out.trans (HB5.out.mono HB.out.size)⟩
  rw [show kindsB xs = !!kindsB xs by simp]; rfl
end Go.Proofs.YtjpccmiaimkmbaaGreat


namespace Go.Proofs.YtjpccmiaimkmbaaGreat
open Go.RowKit Tnr Tnt Go.Sort Go.Shelf

set_option maxHeartbeats 800000 in
theorem compare_any (x y : Int) (w : World) : Calls Tryz.prog 170 #[.int .i64 x, .int .i64 y] w fun e w' => e = .returned (.int .i64 (Lib.compareInt x y)) ∧ w' = w := by
  have HN : Hid (∀ (x : Int) (w : World), Calls Tryz.prog 178 #[.int .i64 x] w fun e w' => e = .returned (.bool false) ∧ w' = w) := fun x w => Tryz.cmp_isNaN_int x w
  have HC : Hid (Lib.compareInt x y = if x < y then -1 else if y < x then 1 else 0) := by
    show Lib.compareInt x y = _
    unfold Lib.compareInt
    by_cases h1 : x < y
    · simp [h1]
    · by_cases h2 : y < x <;> simp [h1, h2]
  by_cases h1 : x < y
  · go_enter Tryz.func170, Tryz.ntmps170
    go_wp2_with (go_at_call 178; refine (HN.out _ _).mono ?_; rintro e w' ⟨rfl, rfl⟩)
    go_ret
    exact ⟨by rw [HC.out, if_pos h1]; rfl, rfl⟩
  · by_cases h2 : y < x
    · go_enter Tryz.func170, Tryz.ntmps170
      go_wp2_with (go_at_call 178; refine (HN.out _ _).mono ?_; rintro e w' ⟨rfl, rfl⟩)
      go_ret
      exact ⟨by rw [HC.out, if_neg (by omega), if_pos h2]; rfl, rfl⟩
    · go_enter Tryz.func170, Tryz.ntmps170
      go_wp2_with (go_at_call 178; refine (HN.out _ _).mono ?_; rintro e w' ⟨rfl, rfl⟩)
      go_ret
      exact ⟨by rw [HC.out, if_neg (by omega), if_neg (by omega)]; rfl, rfl⟩
def orI (a b : Int) : Int := if a = 0 then b else a
theorem or_any (a b : Int) (blk : Nat) (w : World) (h0 : w.cell? ⟨blk, 0, none⟩ = some (.int .i64 a)) (h1 : w.cell? ⟨blk, 1, none⟩ = some (.int .i64 b)) : Calls Tryz.prog 169 #[.slice (some ⟨blk, 0, none⟩) 2 2] w fun e w' => e = .returned (.int .i64 (orI a b)) ∧ w' = w := by
  have HC : Hid (orI a b = if a = 0 then b else a) := rfl
  go_enter Tryz.func169, Tryz.ntmps169
  go_wp2
  go_loopw [8] (fun iv wr => ∃ k : Nat, k ≤ 2 ∧ iv = .int .i64 (k : Nat) ∧ Hid (1 ≤ k → a = 0) ∧ Hid (2 ≤ k → b = 0) ∧ wr = w) (fun iv _ => 2 - (intOf iv).toNat)
  case atStart => exact ⟨0, by omega, rfl, fun h => absurd h (by omega), fun h => absurd h (by omega), rfl⟩
  case round =>
    obtain ⟨k, hk, rfl, HA, HB, rfl⟩ := hrel
    rcases k with _ | _ | _ | k
    · by_cases ha : a = 0
      · have e1 : (a != 0) = false := by simpa using ha
        have HX := Lib.hid ha
        clear ha
        go_wp2
        go_roundw
        case rel => exact ⟨1, by omega, rfl, fun _ => HX.out, fun h => absurd h (by omega), by first | rfl | trivial⟩
        case measure => simp [intOf]
      · have e1 : (a != 0) = true := by simpa using ha
        have HX := Lib.hid ha
        clear ha
        go_wp2
        go_ret
        exact ⟨by rw [HC.out, if_neg HX.out]; rfl, rfl⟩
    · by_cases hb : b = 0
      · have e1 : (b != 0) = false := by simpa using hb
        have HX := Lib.hid hb
        clear hb
        go_wp2
        go_roundw
        case rel => exact ⟨2, by omega, rfl, fun _ => HA.out (by omega), fun _ => HX.out, by first | rfl | trivial⟩
        case measure => simp [intOf]
      · have e1 : (b != 0) = true := by simpa using hb
        have HX := Lib.hid hb
        clear hb
        go_wp2
        go_ret
        exact ⟨by rw [HC.out, if_pos (HA.out (by omega))]; rfl, rfl⟩
    · go_wp2
      go_ret
      exact ⟨by rw [HC.out, if_pos (HA.out (by omega)), HB.out (by omega)]; rfl, rfl⟩
    · omega

def cfB (fs : List Int) (a b : Int) : Int := orI (Lib.compareInt (gz fs a.toNat) (gz fs b.toNat)) (Lib.compareInt b a)
set_option maxHeartbeats 1600000 in
set_option maxRecDepth 100000 in
theorem begun1_any (fs : List Int) (tb m : Nat) (T : Array Value) (pf : Option Addr) (cf a b : Nat) (w : World) (hT : Bx w tb 67 T) (h1 : T[1]? = some (.slice pf m cf)) (hm : m = fs.length) (hS : SlZ w pf fs) (ha : a < m) (hb : b < m) (_hl : m ≤ 1000000) :
    Calls Tryz.prog 168 #[.int .i64 (a : Nat), .int .i64 (b : Nat), .pointer (some ⟨tb, 0, none⟩)] w fun e w' => e = .returned (.int .i64 (cfB fs (a : Nat) (b : Nat))) ∧ ∃ q os', w' = grow (w.drewN q) os' := by
  have hc := hT.cell h1
  rcases hS with h0 | ⟨g, o, rfl, hcs⟩
  · rw [h0] at hm; simp at hm; omega
  have ca := hcs a (by omega)
  have cb := hcs b (by omega)
  obtain ⟨x, hx⟩ : ∃ x, x = gz fs a := ⟨_, rfl⟩
  obtain ⟨y, hy⟩ : ∃ x, x = gz fs b := ⟨_, rfl⟩
  rw [← hx] at ca
  rw [← hy] at cb
  have HCF : Hid (cfB fs (a : Nat) (b : Nat) = orI (Lib.compareInt x y) (Lib.compareInt (b : Nat) (a : Nat))) := by show _ = _; unfold cfB; rw [hx, hy]; simp
  have haI : ((a : Nat) : Int) < m := by omega
  have hbI : ((b : Nat) : Int) < m := by omega
  clear hcs hT h1 hm hx hy
  go_enter Tryz.func168, Tryz.ntmps168
  go_wp2
  go_still_tail 14, (by kernel_rfl)
  still_call (compare_any _ _ _)
  repeat still_step
  still_call (compare_any _ _ _)
  refine wpStill_nil ?_
  obtain ⟨W1, hW1⟩ : ∃ W, W = (w.alloc (.cells #[.int .i64 (Lib.compareInt x y), .int .i64 (Lib.compareInt (b : Nat) (a : Nat))] 3)).drew := ⟨_, rfl⟩
  have hX : Bx W1 w.heap.size 3 #[.int .i64 (Lib.compareInt x y), .int .i64 (Lib.compareInt (b : Nat) (a : Nat))] := by rw [hW1]; exact Bx.new w _ _
  have HO := Lib.hid (or_any _ _ w.heap.size W1 (hX.cell rfl) (hX.cell rfl))
  have HW1 : Hid (∃ q os', W1 = grow (w.drewN q) os') := ⟨1, _, by rw [hW1, alloc_eq_grow]; rfl⟩
  rw [hW1] at HO HW1
  clear hW1 hX
  go_wp2_with (go_at_call 169; refine (HO.out).mono ?_; rintro e w' ⟨rfl, rfl⟩)
  go_ret
  exact ⟨by rw [HCF.out]; rfl, HW1.out⟩
end Go.Proofs.YtjpccmiaimkmbaaGreat

