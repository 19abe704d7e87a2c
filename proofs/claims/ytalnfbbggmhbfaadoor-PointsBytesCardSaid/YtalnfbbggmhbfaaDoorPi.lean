/- The walk of SameInts; of awake, the chapter's examples; of PointsPairs. -/
import Derived.Test.YtalnfbbggmhbfaaDoorPh
namespace Go.Proofs.YtalnfbbggmhbfaaDoor
open Go.RowKit Tnd

def gi (l : List Int) (i : Nat) : Int := l.getD i 0
/-- a slice of ints: its cells. -/
def SlI (w : World) (p : Option Addr) (l : List Int) : Prop :=
  l = [] ∨ ∃ b off, p = some ⟨b, off, none⟩ ∧ ∀ i, i < l.length → w.cell? ⟨b, off + i, none⟩ = some (.int .i64 (gi l i))
def ints (l : List Nat) : List Int := l.map Int.ofNat
theorem ints_length (l : List Nat) : (ints l).length = l.length := by simp [ints]
theorem gi_ints (l : List Nat) (i : Nat) : gi (ints l) i = (gd l i : Nat) := by
  unfold gi gd ints
  rw [List.getD_eq_getElem?_getD, List.getD_eq_getElem?_getD, List.getElem?_map]
  cases l[i]? <;> rfl
theorem ints_inj {a b : List Nat} (h : ints a = ints b) : a = b := by
  unfold ints at h
  exact List.map_inj_right (fun x y h => Int.ofNat.inj h) |>.1 h
theorem sl_ints {w : World} {p : Option Addr} {l : List Nat} (h : Sl w .i64 p l) : SlI w p (ints l) := by
  rcases h with rfl | ⟨b, off, h1, h2⟩
  · exact .inl rfl
  · refine .inr ⟨b, off, h1, fun i hi => ?_⟩
    rw [ints_length] at hi
    rw [gi_ints]; exact h2 i hi
theorem SlI.drewN {w : World} {p : Option Addr} {l : List Int} (h : SlI w p l) (n : Nat) : SlI (w.drewN n) p l := h
theorem ext_gi {l m : List Int} (hl : l.length = m.length) (h : ∀ j, j < l.length → gi l j = gi m j) : l = m := by
  apply List.ext_getElem hl
  intro i h1 h2
  have := h i h1
  unfold gi at this
  rw [List.getD_eq_getElem?_getD, List.getD_eq_getElem?_getD, List.getElem?_eq_getElem h1, List.getElem?_eq_getElem h2] at this
  exact this

set_option maxHeartbeats 800000 in
theorem same_ints (p q : Option Addr) (c d : Nat) (l m : List Int) (w : World) (hp : SlI w p l) (hq : SlI w q m) (hl : l.length ≤ 4611686018427387904) (hm : m.length ≤ 4611686018427387904) :
    Calls Tryd.prog 6 #[.slice p l.length c, .slice q m.length d] w fun e w' => e = .returned (.bool (decide (l = m))) ∧ ∃ n, w.drewN n = w' := by
  by_cases hne : l.length = m.length
  · have HP := Lib.hid hp
    have HQ := Lib.hid hq
    obtain ⟨n, hn⟩ : ∃ n, n = m.length := ⟨_, rfl⟩
    rw [← hn, show l.length = n by rw [hn]; exact hne]
    have hnI : (n : Int) ≤ 4611686018427387904 := by omega
    have HN := Lib.hid (show l.length = n ∧ m.length = n by omega)
    clear hp hq hn hne hl hm
    go_enter Tryd.func6, Tryd.ntmps6
    go_wp2
    go_loopw [5] (fun iv wr => ∃ (k r : Nat), k ≤ n ∧ iv = .int .i64 (k : Nat) ∧ Hid (∀ j, j < k → gi l j = gi m j) ∧ wr = w.drewN r) (fun iv _ => n - (intOf iv).toNat)
    case atStart => exact ⟨0, 0, Nat.zero_le _, rfl, fun j hj => by omega, rfl⟩
    case round =>
      obtain ⟨k, r, hk, rfl, HE, rfl⟩ := hrel
      by_cases hkn : k < n
      · obtain ⟨b1, o1, rfl, hc1⟩ : ∃ b off, p = some ⟨b, off, none⟩ ∧ w.cell? ⟨b, off + k, none⟩ = some (.int .i64 (gi l k)) := by
          rcases HP.out with h | ⟨b, off, h1, h2⟩
          · have := HN.out.1; rw [h] at this; simp at this; omega
          · exact ⟨b, off, h1, h2 k (by have := HN.out.1; omega)⟩
        obtain ⟨b2, o2, rfl, hc2⟩ : ∃ b off, q = some ⟨b, off, none⟩ ∧ w.cell? ⟨b, off + k, none⟩ = some (.int .i64 (gi m k)) := by
          rcases HQ.out with h | ⟨b, off, h1, h2⟩
          · have := HN.out.2; rw [h] at this; simp at this; omega
          · exact ⟨b, off, h1, h2 k (by have := HN.out.2; omega)⟩
        have hkI : (k : Int) < n := by omega
        obtain ⟨x, hx⟩ : ∃ x, x = gi l k := ⟨_, rfl⟩
        obtain ⟨y, hy⟩ : ∃ y, y = gi m k := ⟨_, rfl⟩
        rw [← hx] at hc1
        rw [← hy] at hc2
        have HX := Lib.hid hx
        have HY := Lib.hid hy
        clear hx hy
        by_cases hxy : x = y
        · have hb : (x != y) = false := by simpa using hxy
          have HXY := Lib.hid hxy
          clear hxy
          go_wp2
          go_quiet (fail)
          go_wp2
          go_roundw
          case rel =>
            refine ⟨k + 1, r + nq, by omega, by go_num, ?_, ?_⟩
            · intro j hj
              by_cases e : j = k
              · subst e; rw [← HX.out, ← HY.out]; exact HXY.out
              · exact HE.out j (by omega)
            · rfl
          case measure => simp [intOf]; omega
        · have hb : (x != y) = true := by simpa using hxy
          have HXY := Lib.hid hxy
          clear hxy
          go_wp2
          go_quiet (fail)
          go_wp2
          go_ret
          have hlm : ¬ (l = m) := fun e => HXY.out (by rw [HX.out, HY.out, e])
          exact ⟨ret_bool (by rw [decide_eq_false hlm]), r + nq, by first | rfl | simp⟩
      · have hkI : (n : Int) ≤ k := by omega
        go_wp2
        go_ret
        have hlm : l = m := ext_gi (by have := HN.out; omega) (fun j hj => HE.out j (by have := HN.out; omega))
        exact ⟨ret_bool (by rw [decide_eq_true hlm]), r, rfl⟩
  · have hb : ((l.length : Int) != (m.length : Int)) = true := by simp; omega
    have HNE := Lib.hid hne
    clear hp hq hne
    have hlI : (l.length : Int) ≤ 4611686018427387904 := by omega
    have hmI : (m.length : Int) ≤ 4611686018427387904 := by omega
    go_enter Tryd.func6, Tryd.ntmps6
    go_wp2
    go_ret
    have hlm : ¬ (l = m) := fun e => HNE.out (by rw [e])
    exact ⟨ret_bool (by rw [decide_eq_false hlm]), 0, rfl⟩

theorem own_sli {w : World} {B : Nat} {p : Option Addr} {n c : Nat} {l : List Nat} (h : Own w B 3 .i64 (.slice p n c) l) : SlI w p (ints l) := by
  obtain ⟨p', c', e, _, _, _, hs, _⟩ := own_form h
  simp only [Value.slice.injEq] at e
  obtain ⟨rfl, rfl, rfl⟩ := e
  exact sl_ints hs
/-- what a call told of Of, where what is told is known. -/
theorem of_at (s : ByteArray) (w : World) (l : List Nat) (at_ z : Nat) (hs : s.size ≤ 9223372036854775807) (hL : LeadsIn w) (hr : ofR s.data.toList = (l, at_, z)) :
    Calls Tryd.prog 4 #[.string s] w fun e w' => ∃ p c, e = .returned (.tuple #[.slice p l.length c, .int .i64 (at_ : Nat), .int .i64 (z : Nat)]) ∧ Own w' w.heap.size 3 .i64 (.slice p l.length c) l ∧ Below w.heap.size w w' := by
  have h := of_any s w hs hL
  rw [hr] at h
  exact h
theorem ex1 : ofR [97, 195, 169] = ([97, 233], 0, 0) := by decide
theorem ex2 : ofR [97, 195] = ([], 2, 4) := by decide
theorem ex3 : ofR [97, 195, 97] = ([], 2, 4) := by decide
theorem ex4 : ofR [237, 160, 128] = ([], 1, 4) := by decide

set_option maxHeartbeats 1600000 in
set_option maxRecDepth 100000 in
theorem awake_any (w : World) (hL : LeadsIn w) : Calls Tryd.prog 11 #[] w fun e w' => e = .returned (.bool true) ∧ Below w.heap.size w w' := by
  have HL := Lib.hid hL
  clear hL
  go_enter Tryd.func11, Tryd.ntmps11
  go_wp2_with fail
  refine (of_at ⟨#[97, 195, 169]⟩ _ _ _ _ (by decide) HL.out ex1).mono ?_
  rintro e w1 ⟨p1, c1, rfl, ho1, hb1⟩
  have HO1 := Lib.hid ho1
  have HB1 := Lib.hid hb1
  clear ho1 hb1
  go_wp2_with fail
  refine (of_at ⟨#[97, 195]⟩ _ _ _ _ (by decide) (HL.out.below HB1.out) ex2).mono ?_
  rintro e w2 ⟨p2, c2, rfl, ho2, hb2⟩
  have HO2 := Lib.hid (own_below HO1.out hb2)
  have HB2 := Lib.hid (bl_trans HB1.out hb2)
  clear ho2 hb2 HO1 HB1
  go_wp2_with fail
  refine (of_at ⟨#[97, 195, 97]⟩ _ _ _ _ (by decide) (HL.out.below HB2.out) ex3).mono ?_
  rintro e w3 ⟨p3, c3, rfl, ho3, hb3⟩
  have HO3 := Lib.hid (own_below HO2.out hb3)
  have HB3 := Lib.hid (bl_trans HB2.out hb3)
  clear ho3 hb3 HO2 HB2
  go_wp2_with fail
  refine (of_at ⟨#[237, 160, 128]⟩ _ _ _ _ (by decide) (HL.out.below HB3.out) ex4).mono ?_
  rintro e w4 ⟨p4, c4, rfl, ho4, hb4⟩
  have HO4 := Lib.hid (own_below HO3.out hb4)
  have HB4 := Lib.hid (bl_trans HB3.out hb4)
  clear ho4 hb4 HO3 HB3
  go_wp2_with fail
  refine (pair_yes 55357 56832 _ (by unfold PairOk; omega)).mono ?_
  rintro e w5 ⟨rfl, rfl⟩
  go_wp2_with fail
  have hs := same_ints p1 (some ⟨w4.heap.size, 0, none⟩) c1 2 [97, 233] [97, 233] (w4.alloc (.cells #[.int .i64 97, .int .i64 233] 3)) (by
    have h := own_sli (own_below HO4.out (bl_alloc w4 (.cells #[.int .i64 97, .int .i64 233] 3)))
    exact h) (.inr ⟨w4.heap.size, 0, rfl, fun i hi => by
      rw [World.cell?_alloc_at _ _ _ _ rfl]
      match i, hi with
      | 0, _ => rfl
      | 1, _ => rfl⟩) (by decide) (by decide)
  refine hs.mono ?_
  rintro e w6 ⟨rfl, n, rfl⟩
  go_wp2
  go_ret
  exact ⟨rfl, bl_trans HB4.out (bl_trans (bl_alloc w4 _) (Joins.below_draws _ _ _))⟩
end Go.Proofs.YtalnfbbggmhbfaaDoor
