/- The document's scan: any, decimal. -/
import Derived.Test.YtkpkhjflelmdjaaZd
namespace Go.Proofs.Ytkpkhjflelmdjaa
open Go.RowKit Tnd

theorem sg_head {l : List Int} {k x : Nat} : sgR (l.drop k) 0 = (x : Int) ↔ k < l.length ∧ gi l k = (x : Int) := by
  rw [sg_byte, drop_gi, List.length_drop, Nat.add_zero]
  constructor
  · rintro ⟨h1, h2⟩; exact ⟨by omega, h2⟩
  · rintro ⟨h1, h2⟩; exact ⟨by omega, h2⟩

set_option maxHeartbeats 1600000 in
theorem any_ref (B b : Nat) (l : List Int) (k : Nat) (s : ByteArray) (w : World) (h : Rs w B b l k) (hs : s.size ≤ 1000000) :
    Calls Try.prog 36 #[.pointer (some ⟨b, 0, none⟩), .string s] w (CP w B b 43 [] l (.tuple #[.int .i64 (if k < l.length ∧ amg (gi l k) s.data.toList = true then gi l k else 0), .bool (decide (k < l.length ∧ amg (gi l k) s.data.toList = true))]) (if k < l.length ∧ amg (gi l k) s.data.toList = true then k + 1 else k)) := by
  have hsl : s.data.toList.length = s.size := by simp
  have HSL := Lib.hid hsl
  have HC := Lib.hid h
  have hsI : (s.size : Int) ≤ 1000000 := by omega
  have HS := Lib.hid hs
  have HNX : Hid (∀ W : World, Rs W B b l k → Calls Try.prog 34 #[.pointer (some ⟨b, 0, none⟩)] W (CP W B b 43 [] l (.tuple #[.int .i64 (hdR l k), .bool (decide (k < l.length))]) (if k < l.length then k + 1 else k))) := fun W hW => next_ref B b l k W hW
  obtain ⟨V, hV⟩ : ∃ V, V = (if k < l.length ∧ amg (gi l k) s.data.toList = true then gi l k else 0) := ⟨_, rfl⟩
  obtain ⟨P, hP⟩ : ∃ P, P = decide (k < l.length ∧ amg (gi l k) s.data.toList = true) := ⟨_, rfl⟩
  obtain ⟨K, hK⟩ : ∃ K, K = (if k < l.length ∧ amg (gi l k) s.data.toList = true then k + 1 else k) := ⟨_, rfl⟩
  rw [← hV, ← hP, ← hK]
  have HV := Lib.hid hV
  have HP := Lib.hid hP
  have HK := Lib.hid hK
  obtain ⟨x, hx⟩ : ∃ x, x = sgR (l.drop k) 0 := ⟨_, rfl⟩
  have HX0 := Lib.hid hx
  clear hsl h hs hV hP hK
  go_enter Try.func36, Try.ntmps36
  go_wp2
  go_loopw [6] (fun iv wr => ∃ (i : Nat), i ≤ s.size ∧ iv = .int .i64 (i : Nat) ∧ Hid (∀ j, (hj : j < s.data.toList.length) → j < i → x ≠ (s.data.toList[j].toNat : Int)) ∧ Hid (Rs wr B b l k) ∧ Hid (w.grownBy wr (some b))) (fun iv _ => s.size - (intOf iv).toNat)
  case atStart => exact ⟨0, Nat.zero_le _, rfl, fun j _ hj => by omega, HC, grown_drewN w 0 _⟩
  case round =>
    obtain ⟨i, hi, rfl, HE, HR, HG⟩ := hrel
    rename World => wr
    by_cases his : i < s.size
    · have hiI : (i : Int) < s.size := by omega
      have hbyte : ∀ h2 : i < s.data.toList.length, s.data.toList[i] = s[i] := fun _ => by simp; rfl
      obtain ⟨y, hy⟩ : ∃ y, y = s[i].toNat := ⟨_, rfl⟩
      have hye : ((s[i].toNat : Nat) : Int) = (y : Int) := by rw [hy]
      have hy8 : y < 256 := by rw [hy]; exact s[i].toNat_lt
      have HY : Hid (∀ h2 : i < s.data.toList.length, s.data.toList[i].toNat = y) := fun h2 => by rw [hbyte h2, ← hy]
      have HIS := Lib.hid his
      have HX : Hid (∀ m : Nat, Calls Try.prog 53 #[.pointer (some ⟨b, 0, none⟩), .int .i64 0] (wr.drewN m) fun e w' => e = .returned (.int .i64 x) ∧ ∃ n, w' = wr.drewN n) := fun m => by rw [hx]; exact sign_quiet B b l k 0 m wr HR.out (by omega)
      clear hy hbyte hx
      by_cases hxy : x = (y : Int)
      · have hb : (x == (y : Int)) = true := by simpa using hxy
        have hh := sg_head.1 (by rw [← HX0.out]; exact hxy : sgR (l.drop k) 0 = (y : Int))
        have hamg : amg (gi l k) s.data.toList = true := amg_of (k := i) (by rw [HSL.out]; exact HIS.out) (by rw [hh.2, HY.out])
        have HN2 : Hid (∀ W : World, Rs W B b l k → Calls Try.prog 34 #[.pointer (some ⟨b, 0, none⟩)] W (CP W B b 43 [] l (.tuple #[.int .i64 V, .bool P]) K)) := fun W hW => by
          have := HNX.out W hW
          rw [show hdR l k = gi l k by unfold hdR; rw [if_pos hh.1], decide_eq_true hh.1, if_pos hh.1] at this
          rw [HV.out, HP.out, HK.out, if_pos ⟨hh.1, hamg⟩, if_pos ⟨hh.1, hamg⟩, decide_eq_true (show k < l.length ∧ amg (gi l k) s.data.toList = true from ⟨hh.1, hamg⟩)]
          exact this
        clear hxy hh hamg
        go_wp2
        go_quiet (exact HX.out _)
        have HR2 := Lib.hid (Cu.drewN HR.out nq)
        go_wp2_with fail
        refine (HN2.out _ HR2.out).mono ?_
        rintro e w2 ⟨rfl, hc, hg⟩
        go_wp2
        go_ret2
        exact ⟨rfl, hc, (HG.out.trans (grown_drewN _ _ _)).trans hg⟩
      · have hb : (x == (y : Int)) = false := by simpa using hxy
        have HXY := Lib.hid hxy
        clear hxy
        go_wp2
        go_quiet (exact HX.out _)
        go_wp2
        go_roundw
        case rel =>
          refine ⟨i + 1, by have := HIS.out; omega, by go_num, fun j hj hji => ?_, Cu.drewN HR.out _, HG.out.trans (grown_drewN _ _ _)⟩
          by_cases e : j = i
          · subst e; rw [HY.out hj]; exact HXY.out
          · exact HE.out j hj (by omega)
        case measure => simp [intOf]; omega
    · have hiI : (s.size : Int) ≤ i := by omega
      have hno : ¬ (k < l.length ∧ amg (gi l k) s.data.toList = true) := by
        rintro ⟨h1, h2⟩
        unfold amg at h2
        rw [List.any_eq_true] at h2
        obtain ⟨z, hz, e⟩ := h2
        obtain ⟨j, hj, rfl⟩ := List.getElem_of_mem hz
        have e2 : gi l k = (s.data.toList[j].toNat : Int) := by simpa using e
        exact HE.out j hj (by have := HSL.out; omega) (by rw [HX0.out]; exact sg_head.2 ⟨h1, e2⟩)
      have HNO := Lib.hid hno
      clear hno
      go_wp2
      go_ret2
      rw [HV.out, HP.out, HK.out, if_neg HNO.out, if_neg HNO.out, decide_eq_false HNO.out]
      exact ⟨rfl, HR.out, HG.out⟩
end Go.Proofs.Ytkpkhjflelmdjaa
