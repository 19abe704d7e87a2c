/- The document's scan: hex, take, any, decimal, hexes. -/
import Derived.Test.YtkpkhjflelmdjaaZc
namespace Go.Proofs.Ytkpkhjflelmdjaa
open Go.RowKit Tnd

def hxR (c : Int) : Int := if wth c = 16 then -1 else wth c
theorem hex_ref (p : Int) (w : World) : Calls Try.prog 68 #[.int .i64 p] w fun e w' => e = .returned (.int .i64 (hxR p)) ∧ w' = w := by
  have hcase : (48 ≤ p ∧ p ≤ 57) ∨ (97 ≤ p ∧ p ≤ 102) ∨ (65 ≤ p ∧ p ≤ 70) ∨ (p < 48) ∨ (57 < p ∧ p < 65) ∨ (70 < p ∧ p < 97) ∨ (102 < p) := by omega
  have HV := Lib.hid (rfl : hxR p = hxR p)
  rcases hcase with h | h | h | h | h | h | h
  all_goals
    have hw : ∃ x, hxR p = x ∧ Hid (x = hxR p) := ⟨_, rfl, rfl⟩
    obtain ⟨x, hx, HY⟩ := hw
    rw [hx]
    clear hx HV
    go_enter Try.func68, Try.ntmps68
    go_wp2
    go_ret
    refine ⟨?_, rfl⟩
    refine ret_int ?_
    have e := HY.out
    clear HY
    unfold hxR wth at e
    (repeat' split at e) <;> omega

/-- a byte of a text stands so many behind just if the sign is it. -/
theorem sg_byte {r : List Int} {i : Nat} {x : Nat} : sgR r i = (x : Int) ↔ i < r.length ∧ gi r i = (x : Int) := by
  unfold sgR
  by_cases h : i < r.length
  · rw [if_pos h]
    constructor
    · intro e; refine ⟨h, ?_⟩; split at e <;> omega
    · rintro ⟨_, e⟩; rw [if_neg (by omega)]; exact e
  · rw [if_neg h]
    constructor
    · intro e; omega
    · rintro ⟨h2, _⟩; exact absurd h2 h

set_option maxHeartbeats 1600000 in
theorem take_ref (B b : Nat) (l : List Int) (k : Nat) (s : ByteArray) (w : World) (h : Rs w B b l k) (hs : s.size ≤ 1000000) :
    Calls Try.prog 35 #[.pointer (some ⟨b, 0, none⟩), .string s] w (CP w B b 43 [] l (.bool (pre s.data.toList (l.drop k))) (if pre s.data.toList (l.drop k) = true then k + s.size else k)) := by
  have hsl : s.data.toList.length = s.size := by simp
  have HSL := Lib.hid hsl
  have HC := Lib.hid h
  have hkl := h.le
  have HKL := Lib.hid hkl
  have hsI : (s.size : Int) ≤ 1000000 := by omega
  have hkI : (k : Int) ≤ 1000000 := by omega
  have HS := Lib.hid hs
  obtain ⟨P, hP⟩ : ∃ P, P = pre s.data.toList (l.drop k) := ⟨_, rfl⟩
  obtain ⟨K, hK⟩ : ∃ K, K = (if P = true then k + s.size else k) := ⟨_, rfl⟩
  rw [← hP, ← hK]
  have HP := Lib.hid hP
  have HK := Lib.hid hK
  clear hsl h hkl hs hP hK
  go_enter Try.func35, Try.ntmps35
  go_wp2
  go_loopw [5] (fun iv wr => ∃ (i : Nat), i ≤ s.size ∧ iv = .int .i64 (i : Nat) ∧ Hid (∀ j, (hj : j < s.data.toList.length) → j < i → sgR (l.drop k) j = (s.data.toList[j].toNat : Int)) ∧ Hid (Rs wr B b l k) ∧ Hid (w.grownBy wr (some b))) (fun iv _ => s.size - (intOf iv).toNat)
  case atStart => exact ⟨0, Nat.zero_le _, rfl, fun j _ hj => by omega, HC, grown_drewN w 0 _⟩
  case round =>
    obtain ⟨i, hi, rfl, HE, HR, HG⟩ := hrel
    rename World => wr
    by_cases his : i < s.size
    · have hiI : (i : Int) < s.size := by omega
      have hbyte : ∀ h2 : i < s.data.toList.length, s.data.toList[i] = s[i] := fun _ => by simp; rfl
      obtain ⟨y, hy⟩ : ∃ y, y = s[i].toNat := ⟨_, rfl⟩
      have hye : ((s[i].toNat : Nat) : Int) = (y : Int) := by rw [hy]
      have hy8 : y < 256 := by rw [hy]; exact s[i].toNat_lt
      have HY : Hid (∀ h2 : i < s.data.toList.length, s.data.toList[i].toNat = y) := fun h2 => by rw [hbyte h2, ← hy]
      have HIS := Lib.hid his
      have HI1 : Hid (i ≤ 1000000) := by have := HS.out; show _ ≤ _; omega
      have HX : Hid (∀ x : Nat, Calls Try.prog 53 #[.pointer (some ⟨b, 0, none⟩), .int .i64 (i : Nat)] (wr.drewN x) fun e w' => e = .returned (.int .i64 (sgR (l.drop k) i)) ∧ ∃ n, w' = wr.drewN n) := fun x => sign_quiet B b l k i x wr HR.out HI1.out
      obtain ⟨x, hx⟩ : ∃ x, x = sgR (l.drop k) i := ⟨_, rfl⟩
      rw [← hx] at HX
      have HXX := Lib.hid hx
      clear hy hbyte hx
      by_cases hxy : x = (y : Int)
      · have hb : (x != (y : Int)) = false := by simpa using hxy
        have HXY := Lib.hid hxy
        clear hxy
        go_wp2
        go_quiet (exact HX.out _)
        go_wp2
        go_roundw
        case rel =>
          refine ⟨i + 1, by have := HIS.out; omega, by go_num, fun j hj hji => ?_, Cu.drewN HR.out _, HG.out.trans (grown_drewN _ _ _)⟩
          by_cases e : j = i
          · subst e; rw [← HXX.out, HXY.out, HY.out hj]
          · exact HE.out j hj (by omega)
        case measure => simp [intOf]; omega
      · have hb : (x != (y : Int)) = true := by simpa using hxy
        have HXY := Lib.hid hxy
        clear hxy
        go_wp2
        go_quiet (exact HX.out _)
        go_wp2
        go_ret
        have hpre : P = false := by
          rw [HP.out]
          cases hp : pre s.data.toList (l.drop k) with
          | false => rfl
          | true =>
            have h1 := (pre_iff (pre_le hp)).1 hp i (by rw [HSL.out]; exact HIS.out)
            rw [HY.out (by rw [HSL.out]; exact HIS.out)] at h1
            have h2 := sg_byte.2 ⟨by have h3 := pre_le hp; have := HSL.out; have := HIS.out; omega, h1⟩
            rw [← HXX.out] at h2
            exact absurd h2 HXY.out
        rw [HK.out, hpre]
        exact ⟨rfl, Cu.drewN HR.out _, HG.out.trans (grown_drewN _ _ _)⟩
    · have hiI : (s.size : Int) ≤ i := by omega
      have hlen : s.data.toList.length ≤ (l.drop k).length := by
        by_cases h0 : s.data.toList.length = 0
        · omega
        · have h1 := HE.out (s.data.toList.length - 1) (by omega) (by have := HSL.out; omega)
          have h2 := (sg_byte.1 h1).1
          omega
      have hpre : P = true := by
        rw [HP.out]
        exact (pre_iff hlen).2 (fun j hj => (sg_byte.1 (HE.out j hj (by have := HSL.out; omega))).2)
      have hks : k + s.size ≤ l.length := by have h1 := HSL.out; rw [List.length_drop] at hlen; have := HKL.out; omega
      have hc1 := HR.out.cell1
      have hfz := HR.out.frz 1
      have hset := HR.out.set (k + s.size) hks
      rw [Int.natCast_add] at hset
      have HSET := Lib.hid hset
      have HPP := Lib.hid hpre
      clear hlen hpre hks hset
      go_wp2
      go_ret
      rw [HK.out, HPP.out]
      exact ⟨rfl, HSET.out, HG.out.trans (grown_set _ ⟨b, 1, none⟩ _)⟩
end Go.Proofs.Ytkpkhjflelmdjaa
