/- The walks of a scan's take and number. -/
import Derived.Test.YtnedbeomflllcaaYc
namespace Go.Proofs.Ytnedbeomflllcaa
open Go.RowKit Tnd

theorem drop_gi {l : List Int} {k i : Nat} : gi (l.drop k) i = gi l (k + i) := by
  unfold gi
  rw [List.getD_eq_getElem?_getD, List.getD_eq_getElem?_getD, List.getElem?_drop]
theorem Cu.at {w : World} {B b : Nat} {T : TypeId} {R : List Value} {l : List Int} {k k' : Nat} (h : Cu w B b T R l k) (e : k = k') : Cu w B b T R l k' := e ▸ h
set_option maxHeartbeats 1600000 in
set_option maxRecDepth 100000 in
theorem take_any (B b : Nat) (T : TypeId) (R : List Value) (l : List Int) (k : Nat) (s : ByteArray) (w : World) (h : Cu w B b T R l k) (hs : s.size ≤ 1000000) :
    Calls Try.prog 36 #[.pointer (some ⟨b, 0, none⟩), .string s] w (CP w B b T R l (.bool (pre s.data.toList (l.drop k))) (if pre s.data.toList (l.drop k) = true then k + s.size else k)) := by
  have hc1 := h.cell1
  have hfz := h.frz 1
  obtain ⟨p, c, hc0, ⟨hlc, hcm⟩, _, hrow⟩ := h.row
  obtain ⟨_, hkl, hlm⟩ := h.le
  have HC := Lib.hid h
  have hsl : s.data.toList.length = s.size := by simp
  have HSL := Lib.hid hsl
  obtain ⟨n, hn⟩ : ∃ n, n = l.length := ⟨_, rfl⟩
  have HN := Lib.hid hn
  have hdl : (l.drop k).length = n - k := by rw [List.length_drop, hn]
  have HDL := Lib.hid hdl
  rw [← hn] at hc0 hkl hlm hlc
  have hnI : (n : Int) ≤ 1000000 := by omega
  have hkI : (k : Int) ≤ n := by omega
  have hsI : (s.size : Int) ≤ 1000000 := by omega
  have hlcI : (n : Int) ≤ c := by omega
  have hcI : (c : Int) ≤ 9223372036854775807 := by omega
  have HS := Lib.hid (show k ≤ n ∧ n ≤ 1000000 ∧ s.size ≤ 1000000 ∧ n ≤ c from ⟨hkl, hlm, hs, hlc⟩)
  clear h hn hdl hsl hs hlm hcm
  by_cases hk : k < n
  · obtain ⟨g, rfl, hcell⟩ := hrow (by intro e; have := HN.out; rw [e] at this; simp at this; omega)
    have HCELL := Lib.hid hcell
    have hck : ¬ (c = k) := by omega
    have hkJ : (k : Int) < n := by omega
    have hkc : (k : Int) ≤ c := by omega
    have HK := Lib.hid hk
    clear hrow hcell hk hkl hlc
    by_cases hlong : n - k < s.size
    · have hgt : decide (((n - k : Nat) : Int) < (s.size : Int)) = true := decide_eq_true (by omega)
      have hgt2 : decide ((n : Int) - (k : Int) < (s.size : Int)) = true := decide_eq_true (by omega)
      have hgtN : decide (n - k < s.size) = true := decide_eq_true (by omega)
      have hpre : pre s.data.toList (l.drop k) = false := by
        cases hp : pre s.data.toList (l.drop k) with
        | false => rfl
        | true => have := pre_le hp; rw [HDL.out, HSL.out] at this; omega
      rw [hpre]
      simp only [Bool.false_eq_true, if_false]
      have HG := Lib.hid hlong
      clear hlong hpre
      go_enter Try.func36, Try.ntmps36
      go_wp2
      go_quiet (fail)
      go_wp2
      go_ret
      exact ⟨rfl, HC.out.drewN _, grown_drewN _ _ _⟩
    · obtain ⟨P, hP⟩ : ∃ P, P = pre s.data.toList (l.drop k) := ⟨_, rfl⟩
      obtain ⟨K, hKn⟩ : ∃ K, K = (if P = true then k + s.size else k) := ⟨_, rfl⟩
      rw [← hP, ← hKn]
      have HPP := Lib.hid hP
      have HKN := Lib.hid hKn
      clear hP hKn
      have hgt : decide (((n - k : Nat) : Int) < (s.size : Int)) = false := decide_eq_false (by omega)
      have hgt2 : decide ((n : Int) - (k : Int) < (s.size : Int)) = false := decide_eq_false (by omega)
      have hgtN : decide (n - k < s.size) = false := decide_eq_false (by omega)
      have HG := Lib.hid hlong
      clear hlong
      go_enter Try.func36, Try.ntmps36
      go_wp2
      go_quiet (fail)
      go_wp2
      go_loopw [23] (fun iv wr => ∃ (i r : Nat), i ≤ s.size ∧ iv = .int .i64 (i : Nat) ∧ Hid (∀ j, (hj : j < s.data.toList.length) → j < i → gi (l.drop k) j = (s.data.toList[j].toNat : Int)) ∧ wr = w.drewN r) (fun iv _ => s.size - (intOf iv).toNat)
      case atStart => exact ⟨0, nq, Nat.zero_le _, rfl, fun j _ hj => by omega, rfl⟩
      case round =>
        obtain ⟨i, r, hi, rfl, HE, rfl⟩ := hrel
        by_cases his : i < s.size
        · have hx1 : w.cell? ⟨g, k + i, none⟩ = some (.int .i64 (gi l (k + i))) := HCELL.out (k + i) (by have := HG.out; have := HN.out; omega)
          have hiI : (i : Int) < s.size := by omega
          have hiN : i < n - k := by have := HG.out; omega
          have hiJ : (i : Int) < ((n - k : Nat) : Int) := by omega
          have hbyte : ∀ h2 : i < s.data.toList.length, s.data.toList[i] = s[i] := fun _ => by simp; rfl
          obtain ⟨y, hy⟩ : ∃ y, y = s[i].toNat := ⟨_, rfl⟩
          have hye : ((s[i].toNat : Nat) : Int) = (y : Int) := by rw [hy]
          have hy8 : y < 256 := by rw [hy]; exact s[i].toNat_lt
          have HY : Hid (∀ h2 : i < s.data.toList.length, s.data.toList[i].toNat = y) := fun h2 => by rw [hbyte h2, ← hy]
          obtain ⟨x, hx⟩ : ∃ x, x = gi l (k + i) := ⟨_, rfl⟩
          rw [← hx] at hx1
          have HX := Lib.hid hx
          clear hx hy hbyte
          by_cases hxy : x = (y : Int)
          · have hb : (x != (y : Int)) = false := by simpa using hxy
            have HXY := Lib.hid hxy
            clear hxy
            go_wp2
            go_quiet (fail)
            go_wp2
            go_roundw
            case rel =>
              refine ⟨i + 1, r + nq, by omega, by go_num, fun j hj hji => ?_, by first | rfl | exact World.drewN_drewN _ _ _⟩
              by_cases e : j = i
              · subst e; rw [drop_gi, ← HX.out, HXY.out, HY.out hj]
              · exact HE.out j hj (by omega)
            case measure => simp [intOf]; omega
          · have hb : (x != (y : Int)) = true := by simpa using hxy
            have HXY := Lib.hid hxy
            clear hxy
            go_wp2
            go_quiet (fail)
            go_wp2
            go_ret
            have hpre : pre s.data.toList (l.drop k) = false := by
              cases hp : pre s.data.toList (l.drop k) with
              | false => rfl
              | true =>
                have h1 := (pre_iff (by rw [HDL.out, HSL.out]; have := HG.out; omega)).1 hp i (by rw [HSL.out]; exact his)
                rw [drop_gi, ← HX.out, HY.out (by rw [HSL.out]; exact his)] at h1
                exact absurd h1 HXY.out
            rw [HKN.out, HPP.out, hpre]
            exact ⟨rfl, by simpa using (HC.out.drewN _).drewN _, (grown_drewN _ _ _).trans (grown_drewN _ _ _)⟩
        · have hiI : (s.size : Int) ≤ i := by omega
          have hpre : pre s.data.toList (l.drop k) = true := (pre_iff (by rw [HDL.out, HSL.out]; have := HG.out; omega)).2 (fun j hj => HE.out j hj (by have := HSL.out; omega))
          have HPRE := Lib.hid hpre
          have HCr := Lib.hid (HC.out.drewN r)
          have HKS := Lib.hid (show k + s.size ≤ l.length by have := HG.out; have := HN.out; have := HK.out; omega)
          have hset := HCr.out.set (k + s.size) HKS.out
          rw [Int.natCast_add] at hset
          have HSET := Lib.hid hset
          clear hpre hset
          go_wp2
          go_ret
          rw [HKN.out, HPP.out, HPRE.out]
          exact ⟨rfl, HSET.out, (grown_drewN _ _ _).trans (grown_set _ ⟨b, 1, none⟩ _)⟩
  · have hkn : k = n := by omega
    subst hkn
    clear hrow hkl hkI
    have HLC := Lib.hid hlc
    by_cases hck : c = k
    all_goals
      by_cases hlong : 0 < s.size
      · have hgt : decide (((k - k : Nat) : Int) < (s.size : Int)) = true := decide_eq_true (by omega)
        have hgt3 : decide ((0 : Int) < (s.size : Int)) = true := decide_eq_true (by omega)
        have hgtI : (0 : Int) < (s.size : Int) := by omega
        have hpre : pre s.data.toList (l.drop k) = false := by
          cases hp : pre s.data.toList (l.drop k) with
          | false => rfl
          | true => have := pre_le hp; rw [HDL.out, HSL.out] at this; omega
        rw [hpre]
        simp only [Bool.false_eq_true, if_false]
        clear hlong hpre
        go_enter Try.func36, Try.ntmps36
        go_wp2
        go_quiet (fail)
        go_wp2
        go_ret
        exact ⟨rfl, HC.out.drewN _, grown_drewN _ _ _⟩
      · have hz : s.size = 0 := by omega
        have hs0 : s.data.toList = [] := List.eq_nil_of_length_eq_zero (by rw [HSL.out]; exact hz)
        have hpre : pre s.data.toList (l.drop k) = true := by rw [hs0]; rfl
        rw [hpre]
        simp only [if_true]
        have HZ := Lib.hid hz
        have hzI : (s.size : Int) ≤ 0 := by omega
        have hgt3 : decide ((0 : Int) < (s.size : Int)) = false := decide_eq_false (by omega)
        have HKS := Lib.hid (show k + s.size ≤ l.length by have := HN.out; omega)
        clear hlong hpre hs0 hz
        go_enter Try.func36, Try.ntmps36
        go_wp2
        go_quiet (fail)
        go_wp2
        go_loopw [23] (fun iv wr => iv = .int .i64 0 ∧ ∃ r, wr = w.drewN r) (fun iv _ => 0)
        case atStart => exact ⟨rfl, nq, rfl⟩
        case round =>
          obtain ⟨rfl, r, rfl⟩ := hrel
          have hset := (HC.out.drewN r).set (k + s.size) HKS.out
          rw [Int.natCast_add] at hset
          have HSET := Lib.hid hset
          clear hset
          go_wp2
          go_ret
          exact ⟨rfl, HSET.out, (grown_drewN _ _ _).trans (grown_set _ ⟨b, 1, none⟩ _)⟩
end Go.Proofs.Ytnedbeomflllcaa
