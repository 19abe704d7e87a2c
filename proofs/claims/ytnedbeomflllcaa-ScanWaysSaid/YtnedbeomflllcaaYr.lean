/- The walks of the law's signs and of its examples. -/
import Derived.Test.YtnedbeomflllcaaYq
namespace Go.Proofs.Ytnedbeomflllcaa
open Go.RowKit Tnd

/-- the numbers of a text's bytes. -/
def sg (s : List UInt8) : List Int := s.map fun x => (x.toNat : Int)
def SgPost (s : List UInt8) (w : World) (e : Ending) (w' : World) : Prop :=
  ∃ q c, e = .returned (.slice q (sg s).length c) ∧ OwnI w' w.heap.size (.slice q (sg s).length c) (sg s) ∧ Below w.heap.size w w'
theorem sg_take {s : List UInt8} {i : Nat} (h : i < s.length) : sg (s.take (i + 1)) = sg (s.take i) ++ [((s[i]).toNat : Int)] := by
  unfold sg
  rw [List.take_succ_eq_append_getElem h, List.map_append]; rfl
set_option maxHeartbeats 1600000 in
theorem signs_law (s : ByteArray) (w : World) (hs : s.size ≤ 1000000) :
    Calls Try.prog 8 #[.string s] w (SgPost s.data.toList w) := by
  obtain ⟨i0, hinf, hz0, hz1, hz2⟩ := info_parts info_int
  have hsI : (s.size : Int) ≤ 1000000 := by omega
  have hsl : s.data.toList.length = s.size := by simp
  have HSL := Lib.hid hsl
  have HS := Lib.hid hs
  clear hs hsl
  go_enter Try.func8, Try.ntmps8
  go_wp2
  go_loopw [3, 4] (fun tv iv wr => ∃ (i : Nat) (q : Option Addr) (c : Nat) (M : List Int), i ≤ s.size ∧ iv = .int .i64 (i : Nat) ∧ tv = .slice q M.length c ∧ Hid (M = sg (s.data.toList.take i)) ∧ Hid (M.length = i) ∧ Hid (OwnI wr w.heap.size (.slice q M.length c) M) ∧ Hid (Below w.heap.size w wr)) (fun _ iv _ => s.size - (intOf iv).toNat)
  case atStart => exact ⟨0, none, 0, [], Nat.zero_le _, rfl, rfl, by show _ = _; simp [sg], by show _ = _; rfl, ownI_nil _ _, Below.refl _ _⟩
  case round =>
    obtain ⟨i, q, c, M, hi, rfl, rfl, HM, HML, HO, HB⟩ := hrel
    rename World => wr
    by_cases his : i < s.size
    · have hiI : (i : Int) < s.size := by omega
      have hbyte : ∀ h2 : i < s.data.toList.length, s.data.toList[i] = s[i] := fun _ => by simp; rfl
      obtain ⟨y, hy⟩ : ∃ y, y = s[i].toNat := ⟨_, rfl⟩
      have hye : ((s[i].toNat : Nat) : Int) = (y : Int) := by rw [hy]
      have hy8 : y < 256 := by rw [hy]; exact s[i].toNat_lt
      have hi2 : i < s.data.toList.length := by rw [HSL.out]; exact his
      have HST : Hid (sg (s.data.toList.take (i + 1)) = sg (s.data.toList.take i) ++ [(y : Int)]) := by show _ = _; rw [sg_take hi2, hbyte hi2, ← hy]
      have ho3 := HO.out
      unfold OwnI at ho3
      have HO3 := Lib.hid ho3
      have HIS := Lib.hid his
      clear hy hbyte hi2 ho3
      go_wp2_with (at_builtin; refine wpList_append_own _ rfl _ _ 22 rfl w.heap.size 3 i0 (.int .i64 0) 1 8 Try.underlying22 hinf hz0 hz1 hz2 rfl (by decide) (.slice q M.length c) M.length _ rfl (HO3.out.alloc _) ⟨wr.heap.size, 0, none⟩ 1 1 [.int .i64 (y : Int)] rfl rfl ?k1 ?k2 ?k3 ?k4 ?k5 ?_)
      case k1 => exact World.news_of_block (cs := #[.int .i64 (y : Int)]) (t := 3) (fr := (0, 0)) (MapKept.heap_alloc wr _).1
      case k2 => simp [Value.oneCell']
      case k3 => have := HML.out; have := HS.out; have := HIS.out; simp only [maxLen]; omega
      case k4 => have := HML.out; have := HS.out; have := HIS.out; omega
      case k5 => have := HB.out.size; simp; omega
      intro v5 w5 hown5 hgrow5 _
      have hO5 : OwnI w5 w.heap.size v5 (M ++ [(y : Int)]) := by
        unfold OwnI
        rw [List.length_append, List.map_append]
        exact hown5
      have hb5 : Below w.heap.size w w5 := (HB.out.alloc HB.out.size _).grown hgrow5 (by have := HB.out.size; simp; omega) (fun k hk => (HO3.out.lt k hk).1)
      obtain ⟨p', c5, hs', _⟩ := ownI_form hO5
      subst hs'
      have HO5 := Lib.hid hO5
      have HB5 := Lib.hid hb5
      have HM5 : Hid (M ++ [(y : Int)] = sg (s.data.toList.take (i + 1))) := by show _ = _; rw [HST.out, HM.out]
      have HML5 : Hid ((M ++ [(y : Int)]).length = i + 1) := by show _ = _; rw [List.length_append, HML.out]; rfl
      clear hown5 hgrow5 hO5 hb5
      generalize M ++ [(y : Int)] = M5 at *
      go_wp2
      go_roundw
      case rel => exact ⟨i + 1, p', c5, M5, by have := HIS.out; omega, by go_num, rfl, HM5, HML5, HO5, HB5⟩
      case measure => simp [intOf]; omega
    · have hiI : (s.size : Int) ≤ i := by omega
      have HE : Hid (M = sg s.data.toList) := by
        show _ = _
        rw [HM.out, List.take_of_length_le (by rw [HSL.out]; omega)]
      go_wp2
      go_ret
      refine ⟨q, c, ?_, ?_, HB.out⟩
      · rw [← HE.out]; rfl
      · rw [← HE.out]; exact HO.out
end Go.Proofs.Ytnedbeomflllcaa
