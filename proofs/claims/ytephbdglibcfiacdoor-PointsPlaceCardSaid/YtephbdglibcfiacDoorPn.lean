/- The walk of PointsPlace. -/
import Derived.Test.YtephbdglibcfiacDoorPi
import Derived.Test.YtephbdglibcfiacDoorPm
namespace Go.Proofs.YtephbdglibcfiacDoor
open Go.RowKit Tnd

theorem cut_data (s m : ByteArray) (n : Nat) : (s.extract 0 n ++ m).data.toList = s.data.toList.take n ++ m.data.toList := by
  rw [ByteArray.data_append, Array.toList_append, Lib.extract_data]
  simp
def endS (i : Nat) : ByteArray := ⟨(endAt i).toArray⟩
theorem endS_data (i : Nat) : (endS i).data.toList = endAt i := rfl
theorem endS_size (i : Nat) (h : i < 7) : (endS i).size ≤ 3 := by
  rcases (show i = 0 ∨ i = 1 ∨ i = 2 ∨ i = 3 ∨ i = 4 ∨ i = 5 ∨ i = 6 by omega) with rfl | rfl | rfl | rfl | rfl | rfl | rfl <;> decide

set_option maxHeartbeats 800000 in
set_option maxRecDepth 100000 in
theorem place_great (s m : ByteArray) (w : World) (hL : LeadsIn w) (hs : s.size ≤ 9223372036854775807) (hm : m.size ≤ 9223372036854775807) (hg : 3000 < s.size ∨ 3000 < m.size) :
    Calls Tryd.prog 3 #[.string s, .string m] w fun e w' => e = .returned (.bool true) ∧ Below w.heap.size w w' := by
  have HA := Lib.hid (awake_any w hL)
  clear hL
  have hsI : (s.size : Int) ≤ 9223372036854775807 := by omega
  have hmI : (m.size : Int) ≤ 9223372036854775807 := by omega
  by_cases h1 : 3000 < s.size
  · have h1I : 3000 < (s.size : Int) := by omega
    clear hg hs hm h1
    go_enter Tryd.func3, Tryd.ntmps3
    go_wp2_with (go_at_call 4; refine HA.out.mono ?_; rintro e w' ⟨rfl, hb⟩)
    go_ret
    exact ⟨rfl, hb⟩
  · have h1I : (s.size : Int) ≤ 3000 := by omega
    have h2I : 3000 < (m.size : Int) := by omega
    clear hg hs hm h1
    go_enter Tryd.func3, Tryd.ntmps3
    go_wp2_with (go_at_call 4; refine HA.out.mono ?_; rintro e w' ⟨rfl, hb⟩)
    go_ret
    exact ⟨rfl, hb⟩

set_option maxHeartbeats 800000 in
set_option maxRecDepth 100000 in
theorem place_right (s m : ByteArray) (w : World) (hL : LeadsIn w) (hs : s.size ≤ 3000) (hm : m.size ≤ 3000) (l : List Nat) (ho : ofR s.data.toList = (l, 0, 0)) :
    Calls Tryd.prog 3 #[.string s, .string m] w fun e w' => e = .returned (.bool true) ∧ Below w.heap.size w w' := by
  have HA := Lib.hid (awake_any w hL)
  have HL := Lib.hid hL
  clear hL
  have hsI : (s.size : Int) ≤ 3000 := by omega
  have hmI : (m.size : Int) ≤ 3000 := by omega
  have HO := Lib.hid ho
  clear ho
  go_enter Tryd.func3, Tryd.ntmps3
  go_wp2_with (first
    | (go_at_call 4; refine HA.out.mono ?_; rintro e w1 ⟨rfl, hb⟩; have HB := Lib.hid hb; clear hb)
    | (go_at_call 5; refine (of_at s _ l 0 0 (by omega) (HL.out.below HB.out) HO.out).mono ?_; rintro e w2 ⟨p, c, rfl, ho, hb⟩))
  go_ret
  exact ⟨rfl, bl_trans HB.out hb⟩

set_option maxHeartbeats 1600000 in
set_option maxRecDepth 100000 in
theorem place_wrong (s m : ByteArray) (w : World) (hL : LeadsIn w) (hs : s.size ≤ 3000) (hm : m.size ≤ 3000) (a : Nat) (ho : ofR s.data.toList = ([], a, 4)) :
    Calls Tryd.prog 3 #[.string s, .string m] w fun e w' => e = .returned (.bool true) ∧ Below w.heap.size w w' := by
  have hsl : s.data.toList.length = s.size := by simp
  have hml : m.data.toList.length = m.size := by simp
  have hal : a ≤ s.size := by rw [← hsl]; exact place_le (by omega) ho
  have HEND := Lib.hid (place_ends (by omega) ho)
  have HA := Lib.hid (awake_any w hL)
  have HL := Lib.hid hL
  clear hL
  have hsI : (s.size : Int) ≤ 3000 := by omega
  have hmI : (m.size : Int) ≤ 3000 := by omega
  have halI : (a : Int) ≤ s.size := by omega
  by_cases hlt : a < s.size
  · have HBY := Lib.hid (place_byte (by omega) ho (by omega) m.data.toList (by omega))
    have hltI : (a : Int) < s.size := by omega
    have HO := Lib.hid ho
    have HSL := Lib.hid hsl
    have HML := Lib.hid hml
    clear ho hsl hml hlt hal
    go_enter Tryd.func3, Tryd.ntmps3
    go_wp2_with (go_at_call 4; refine HA.out.mono ?_; rintro e w1 ⟨rfl, hb⟩; have HB := Lib.hid hb; clear hb)
    refine (of_at s _ [] a 4 (by omega) (HL.out.below HB.out) HO.out).mono ?_
    rintro e w2 ⟨p, c, rfl, ho2, hb2⟩
    have HB2 := Lib.hid (bl_trans HB.out hb2)
    clear ho2 hb2
    have OF2 : Hid (Calls Tryd.prog 5 #[.string (s.extract 0 (a + 1) ++ m)] w2 fun e w' => ∃ p c, e = .returned (.tuple #[.slice p 0 c, .int .i64 (a : Nat), .int .i64 4]) ∧ Below w2.heap.size w2 w') := by
      refine (of_at (s.extract 0 (a + 1) ++ m) w2 [] a 4 (by rw [ByteArray.size_append, ByteArray.size_extract]; omega) (HL.out.below HB2.out) (by rw [cut_data]; exact HBY.out)).mono ?_
      rintro e w' ⟨p, c, rfl, _, hb⟩
      exact ⟨p, c, rfl, hb⟩
    go_wp2_with (go_at_call 5; refine OF2.out.mono ?_; rintro e w3 ⟨p3, c3, rfl, hb3⟩; have HBX := Lib.hid (bl_trans HB2.out hb3); clear hb3)
    have hcells : ∀ j, j < 7 → (w3.alloc (.cells #[.string ⟨#[]⟩, .string ⟨#[128]⟩, .string ⟨#[191]⟩, .string ⟨#[128, 128]⟩, .string ⟨#[191, 128]⟩, .string ⟨#[128, 128, 128]⟩, .string ⟨#[191, 128, 128]⟩] 9)).cell? ⟨w3.heap.size, j, none⟩ = some (.string (endS j)) := by
      intro j hj
      rw [World.cell?_alloc_at _ _ _ _ rfl]
      rcases (show j = 0 ∨ j = 1 ∨ j = 2 ∨ j = 3 ∨ j = 4 ∨ j = 5 ∨ j = 6 by omega) with rfl | rfl | rfl | rfl | rfl | rfl | rfl <;> rfl
    have HC := Lib.hid hcells
    have HB4 := Lib.hid (bl_trans HBX.out (bl_alloc w3 (.cells #[.string ⟨#[]⟩, .string ⟨#[128]⟩, .string ⟨#[191]⟩, .string ⟨#[128, 128]⟩, .string ⟨#[191, 128]⟩, .string ⟨#[128, 128, 128]⟩, .string ⟨#[191, 128, 128]⟩] 9)))
    clear hcells
    obtain ⟨w4, hw4⟩ : ∃ w4, w4 = w3.alloc (.cells #[.string ⟨#[]⟩, .string ⟨#[128]⟩, .string ⟨#[191]⟩, .string ⟨#[128, 128]⟩, .string ⟨#[191, 128]⟩, .string ⟨#[128, 128, 128]⟩, .string ⟨#[191, 128, 128]⟩] 9) := ⟨_, rfl⟩
    rw [← hw4] at HC HB4 ⊢
    have HSZ : Hid (w3.heap.size < w4.heap.size) := by subst hw4; show _ < _; simp
    clear hw4
    go_loopw [12] (fun iv wr => ∃ k : Nat, k ≤ 7 ∧ iv = .int .i64 (k : Nat) ∧ Hid (∀ j, j < k → (ofR (s.data.toList.take a ++ endAt j)).2.2 ≠ 0) ∧ Hid (Below w4.heap.size w4 wr)) (fun iv _ => 7 - (intOf iv).toNat)
    case atStart => exact ⟨0, by omega, rfl, fun j hj => by omega, Below.refl _ _⟩
    case round =>
      obtain ⟨k, hk, rfl, HN, HBR⟩ := hrel
      rename World => wr
      by_cases hk7 : k < 7
      · have hkI : (k : Int) < 7 := by omega
        have hck : wr.cell? ⟨w3.heap.size, k, none⟩ = some (.string (endS k)) := by
          rw [HBR.out.cell (by have := HSZ.out; simpa using this)]; exact HC.out k hk7
        obtain ⟨es, hes⟩ : ∃ es, es = endS k := ⟨_, rfl⟩
        rw [← hes] at hck
        have hel : es.size ≤ 3 := by rw [hes]; exact endS_size k hk7
        have HES := Lib.hid hes
        clear hes
        have HDT := Lib.hid (show (s.extract 0 a ++ es).data.toList = s.data.toList.take a ++ endAt k by rw [cut_data, HES.out, endS_data])
        have HDS := Lib.hid (show (s.extract 0 a ++ es).size ≤ 3003 by rw [ByteArray.size_append, ByteArray.size_extract]; omega)
        have hDSI : ((s.extract 0 a ++ es).size : Int) ≤ 3003 := by have := HDS.out; omega
        rcases ofR_kind (s.data.toList.take a ++ endAt k) with ⟨l, hk1⟩ | ⟨a2, hk1⟩ | ⟨hk1, _⟩
        · have OFK : Hid (∀ W, Below wr.heap.size wr W → Calls Tryd.prog 5 #[.string (s.extract 0 a ++ es)] W fun e w' => ∃ p c, e = .returned (.tuple #[.slice p l.length c, .int .i64 0, .int .i64 0]) ∧ Hid (Below wr.heap.size wr w')) := by
            intro W hW
            refine (of_at (s.extract 0 a ++ es) W l 0 0 (by have := HDS.out; omega) (HL.out.below (bl_trans HB4.out (bl_trans HBR.out hW))) (by rw [HDT.out]; exact hk1)).mono ?_
            rintro e w' ⟨p, c, rfl, _, hb⟩
            exact ⟨p, c, rfl, bl_trans hW hb⟩
          clear hk1
          go_wp2
          go_region_with (go_at_call 5; refine (OFK.out _ (by exact bl_drew _)).mono ?_; rintro e w5 ⟨p5, c5, rfl, HB5⟩)
          all_goals
            go_wp2
            go_ret
            exact ⟨rfl, bl_trans HB4.out (bl_trans HBR.out HB5.out)⟩
        · have OFK : Hid (∀ W, Below wr.heap.size wr W → Calls Tryd.prog 5 #[.string (s.extract 0 a ++ es)] W fun e w' => ∃ p c, e = .returned (.tuple #[.slice p 0 c, .int .i64 (a2 : Nat), .int .i64 4]) ∧ Hid (Below wr.heap.size wr w')) := by
            intro W hW
            refine (of_at (s.extract 0 a ++ es) W [] a2 4 (by have := HDS.out; omega) (HL.out.below (bl_trans HB4.out (bl_trans HBR.out hW))) (by rw [HDT.out]; exact hk1)).mono ?_
            rintro e w' ⟨p, c, rfl, _, hb⟩
            exact ⟨p, c, rfl, bl_trans hW hb⟩
          have HK1 := Lib.hid hk1
          clear hk1
          go_wp2
          go_region_with (go_at_call 5; refine (OFK.out _ (by exact bl_drew _)).mono ?_; rintro e w5 ⟨p5, c5, rfl, HB5⟩)
          all_goals
            go_wp2
            go_roundw
            case rel =>
              have hne : ∀ j, j < k + 1 → (ofR (s.data.toList.take a ++ endAt j)).2.2 ≠ 0 := by
                intro j hj
                by_cases e : j = k
                · subst e; rw [HK1.out]; simp
                · exact HN.out j (by omega)
              first
                | exact ⟨k + 1, by omega, by go_num, hne, bl_trans HBR.out HB5.out⟩
                | ((repeat apply Exists.intro); exact ⟨⟨k + 1, by omega, by go_num, hne, bl_trans HBR.out HB5.out⟩, rfl⟩)
            case measure => simp [intOf]; omega
        · exfalso
          have h1 := HDT.out
          have h2 := congrArg List.length h1
          have h3 := HDS.out
          rw [← h2] at hk1
          simp only [Array.length_toList] at hk1
          have h4 : (s.extract 0 a ++ es).data.size = (s.extract 0 a ++ es).size := rfl
          omega
      · exfalso
        obtain ⟨e, he, mm, hm2⟩ := HEND.out
        obtain ⟨j, hj, rfl⟩ := end_at he
        exact HN.out j (by omega) (by rw [hm2])
  · have hae : a = s.size := by omega
    have hgeI : (s.size : Int) ≤ (a : Int) := by omega
    have HO := Lib.hid ho
    have HSL := Lib.hid hsl
    have HML := Lib.hid hml
    have hdb : decide (s.size < a) = false := by rw [decide_eq_false_iff_not]; omega
    have hdb2 : decide (a < s.size) = false := by rw [decide_eq_false_iff_not]; omega
    clear ho hsl hml hlt hal hae
    go_enter Tryd.func3, Tryd.ntmps3
    go_wp2_with (go_at_call 4; refine HA.out.mono ?_; rintro e w1 ⟨rfl, hb⟩; have HB := Lib.hid hb; clear hb)
    refine (of_at s _ [] a 4 (by omega) (HL.out.below HB.out) HO.out).mono ?_
    rintro e w2 ⟨p, c, rfl, ho2, hb2⟩
    have HBX := Lib.hid (bl_trans HB.out hb2)
    clear ho2 hb2
    go_wp2
    have hcells : ∀ j, j < 7 → (w2.alloc (.cells #[.string ⟨#[]⟩, .string ⟨#[128]⟩, .string ⟨#[191]⟩, .string ⟨#[128, 128]⟩, .string ⟨#[191, 128]⟩, .string ⟨#[128, 128, 128]⟩, .string ⟨#[191, 128, 128]⟩] 9)).cell? ⟨w2.heap.size, j, none⟩ = some (.string (endS j)) := by
      intro j hj
      rw [World.cell?_alloc_at _ _ _ _ rfl]
      rcases (show j = 0 ∨ j = 1 ∨ j = 2 ∨ j = 3 ∨ j = 4 ∨ j = 5 ∨ j = 6 by omega) with rfl | rfl | rfl | rfl | rfl | rfl | rfl <;> rfl
    have HC := Lib.hid hcells
    have HB4 := Lib.hid (bl_trans HBX.out (bl_alloc w2 (.cells #[.string ⟨#[]⟩, .string ⟨#[128]⟩, .string ⟨#[191]⟩, .string ⟨#[128, 128]⟩, .string ⟨#[191, 128]⟩, .string ⟨#[128, 128, 128]⟩, .string ⟨#[191, 128, 128]⟩] 9)))
    clear hcells
    obtain ⟨w4, hw4⟩ : ∃ w4, w4 = w2.alloc (.cells #[.string ⟨#[]⟩, .string ⟨#[128]⟩, .string ⟨#[191]⟩, .string ⟨#[128, 128]⟩, .string ⟨#[191, 128]⟩, .string ⟨#[128, 128, 128]⟩, .string ⟨#[191, 128, 128]⟩] 9) := ⟨_, rfl⟩
    rw [← hw4] at HC HB4 ⊢
    have HSZ : Hid (w2.heap.size < w4.heap.size) := by subst hw4; show _ < _; simp
    clear hw4
    go_loopw [12] (fun iv wr => ∃ k : Nat, k ≤ 7 ∧ iv = .int .i64 (k : Nat) ∧ Hid (∀ j, j < k → (ofR (s.data.toList.take a ++ endAt j)).2.2 ≠ 0) ∧ Hid (Below w4.heap.size w4 wr)) (fun iv _ => 7 - (intOf iv).toNat)
    case atStart => exact ⟨0, by omega, rfl, fun j hj => by omega, Below.refl _ _⟩
    case round =>
      obtain ⟨k, hk, rfl, HN, HBR⟩ := hrel
      rename World => wr
      by_cases hk7 : k < 7
      · have hkI : (k : Int) < 7 := by omega
        have hck : wr.cell? ⟨w2.heap.size, k, none⟩ = some (.string (endS k)) := by
          rw [HBR.out.cell (by have := HSZ.out; simpa using this)]; exact HC.out k hk7
        obtain ⟨es, hes⟩ : ∃ es, es = endS k := ⟨_, rfl⟩
        rw [← hes] at hck
        have hel : es.size ≤ 3 := by rw [hes]; exact endS_size k hk7
        have HES := Lib.hid hes
        clear hes
        have HDT := Lib.hid (show (s.extract 0 a ++ es).data.toList = s.data.toList.take a ++ endAt k by rw [cut_data, HES.out, endS_data])
        have HDS := Lib.hid (show (s.extract 0 a ++ es).size ≤ 3003 by rw [ByteArray.size_append, ByteArray.size_extract]; omega)
        have hDSI : ((s.extract 0 a ++ es).size : Int) ≤ 3003 := by have := HDS.out; omega
        rcases ofR_kind (s.data.toList.take a ++ endAt k) with ⟨l, hk1⟩ | ⟨a2, hk1⟩ | ⟨hk1, _⟩
        · have OFK : Hid (∀ W, Below wr.heap.size wr W → Calls Tryd.prog 5 #[.string (s.extract 0 a ++ es)] W fun e w' => ∃ p c, e = .returned (.tuple #[.slice p l.length c, .int .i64 0, .int .i64 0]) ∧ Hid (Below wr.heap.size wr w')) := by
            intro W hW
            refine (of_at (s.extract 0 a ++ es) W l 0 0 (by have := HDS.out; omega) (HL.out.below (bl_trans HB4.out (bl_trans HBR.out hW))) (by rw [HDT.out]; exact hk1)).mono ?_
            rintro e w' ⟨p, c, rfl, _, hb⟩
            exact ⟨p, c, rfl, bl_trans hW hb⟩
          clear hk1
          go_wp2
          go_region_with (go_at_call 5; refine (OFK.out _ (by exact bl_drew _)).mono ?_; rintro e w5 ⟨p5, c5, rfl, HB5⟩)
          all_goals
            go_wp2
            go_ret
            exact ⟨rfl, bl_trans HB4.out (bl_trans HBR.out HB5.out)⟩
        · have OFK : Hid (∀ W, Below wr.heap.size wr W → Calls Tryd.prog 5 #[.string (s.extract 0 a ++ es)] W fun e w' => ∃ p c, e = .returned (.tuple #[.slice p 0 c, .int .i64 (a2 : Nat), .int .i64 4]) ∧ Hid (Below wr.heap.size wr w')) := by
            intro W hW
            refine (of_at (s.extract 0 a ++ es) W [] a2 4 (by have := HDS.out; omega) (HL.out.below (bl_trans HB4.out (bl_trans HBR.out hW))) (by rw [HDT.out]; exact hk1)).mono ?_
            rintro e w' ⟨p, c, rfl, _, hb⟩
            exact ⟨p, c, rfl, bl_trans hW hb⟩
          have HK1 := Lib.hid hk1
          clear hk1
          go_wp2
          go_region_with (go_at_call 5; refine (OFK.out _ (by exact bl_drew _)).mono ?_; rintro e w5 ⟨p5, c5, rfl, HB5⟩)
          all_goals
            go_wp2
            go_roundw
            case rel =>
              have hne : ∀ j, j < k + 1 → (ofR (s.data.toList.take a ++ endAt j)).2.2 ≠ 0 := by
                intro j hj
                by_cases e : j = k
                · subst e; rw [HK1.out]; simp
                · exact HN.out j (by omega)
              first
                | exact ⟨k + 1, by omega, by go_num, hne, bl_trans HBR.out HB5.out⟩
                | ((repeat apply Exists.intro); exact ⟨⟨k + 1, by omega, by go_num, hne, bl_trans HBR.out HB5.out⟩, rfl⟩)
            case measure => simp [intOf]; omega
        · exfalso
          have h1 := HDT.out
          have h2 := congrArg List.length h1
          have h3 := HDS.out
          rw [← h2] at hk1
          simp only [Array.length_toList] at hk1
          have h4 : (s.extract 0 a ++ es).data.size = (s.extract 0 a ++ es).size := rfl
          omega
      · exfalso
        obtain ⟨e, he, mm, hm2⟩ := HEND.out
        obtain ⟨j, hj, rfl⟩ := end_at he
        exact HN.out j (by omega) (by rw [hm2])
end Go.Proofs.YtephbdglibcfiacDoor
