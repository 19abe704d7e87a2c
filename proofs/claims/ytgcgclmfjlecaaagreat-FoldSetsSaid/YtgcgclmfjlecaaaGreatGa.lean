/- fold: the walks of Lines, Digits, Spaces, and of the document's; rows of rows held against each other. -/
import Derived.Test.YtgcgclmfjlecaaaGreatFe
import Derived.Test.YtgcgclmfjlecaaaGreatRzb
import Derived.Test.YtgcgclmfjlecaaaGreatRl
import Derived.Test.YtgcgclmfjlecaaaGreatRn

namespace Go.Proofs.YtgcgclmfjlecaaaGreat
open Go.RowKit Tnr

/-- a literal row of ranges is the call's own. -/
theorem ownR_new {w : World} {B n : Nat} {l : List R} {cs : Array Value} (hB : B ≤ w.heap.size) (hcs : cs = (l.flatMap encR).toArray) (hn : n = l.length) (hl : l.length ≤ 1000000) : OwnR (w.alloc (.cells cs 41)) B (.slice (some ⟨w.heap.size, 0, none⟩) n n) l := by
  subst hn
  refine ⟨encs_length l, .inr ⟨w.heap.size, l.length, cs, rfl, hB, heap_alloc_new w _, Nat.le_refl _, by simp only [maxLen]; omega, ?_, ?_⟩⟩
  · rw [hcs]; simp only [List.size_toArray]; exact encs_length l
  · rw [hcs]; exact List.take_of_length_le (by rw [encs_length]; exact Nat.le_refl _)
theorem tells_new {w : World} {n : Nat} {l : List R} {cs : Array Value} (hcs : cs = (l.flatMap encR).toArray) (hn : n = l.length) (hl : l.length ≤ 1000000) : Tells w l (.returned (.slice (some ⟨w.heap.size, 0, none⟩) n n)) (w.alloc (.cells cs 41)) := by
  subst hn
  exact ⟨_, _, rfl, ownR_new (Nat.le_refl _) hcs rfl hl, bl_alloc _ _⟩

def linesL : List R := [(10, 10), (13, 13), (8232, 8233)]
def digitsL : List R := [(48, 57)]
def spacesL : List R := [(9, 13), (32, 32), (160, 160), (5760, 5760), (8192, 8202), (8232, 8233), (8239, 8239), (8287, 8287), (12288, 12288), (65279, 65279)]
def wordsL : List R := [(48, 57), (65, 90), (95, 95), (97, 122)]
theorem lines_any (w : World) : Calls Tryz.prog 6 #[] w (Tells w linesL) := by
  have h := tells_new (w := w) (l := linesL) (n := 3) (cs := _) rfl rfl (by decide)
  go_enter Tryz.func6, Tryz.ntmps6
  go_wp2
  go_ret
  exact h
theorem digits_any (w : World) : Calls Tryz.prog 7 #[] w (Tells w digitsL) := by
  have h := tells_new (w := w) (l := digitsL) (n := 1) (cs := _) rfl rfl (by decide)
  go_enter Tryz.func7, Tryz.ntmps7
  go_wp2
  go_ret
  exact h
theorem spaces_any (w : World) : Calls Tryz.prog 8 #[] w (Tells w spacesL) := by
  have h := tells_new (w := w) (l := spacesL) (n := 10) (cs := _) rfl rfl (by decide)
  go_enter Tryz.func8, Tryz.ntmps8
  go_wp2
  go_ret
  exact h

/-- ends, two by two. -/
def twos (l : List Int) (k : Nat) : List R := (List.range k).map fun i => (gi l (2 * i), gi l (2 * i + 1))
theorem twos_succ (l : List Int) (k : Nat) : twos l (k + 1) = twos l k ++ [(gi l (2 * k), gi l (2 * k + 1))] := by unfold twos; rw [List.range_succ, List.map_append]; rfl
theorem twos_length (l : List Int) (k : Nat) : (twos l k).length = k := by simp [twos]

set_option maxHeartbeats 3200000 in
set_option maxRecDepth 100000 in
theorem rset_any (b o c n m : Nat) (l : List Int) (w : World) (hn : n = 2 * m) (hl : n = l.length) (hp : SlI w (some ⟨b, o, none⟩) l) (hm : m ≤ 1000) :
    Calls Tryz.prog 22 #[.slice (some ⟨b, o, none⟩) n c] w (Tells w (twos l m)) := by
  obtain ⟨i0, hinf, hz0, hz1, hz2⟩ := info_parts info_range
  have HP := Lib.hid hp
  have HN := Lib.hid hn
  have HL := Lib.hid hl
  have hnI : (n : Int) ≤ 2000 := by omega
  have HM := Lib.hid hm
  clear hp hn hl hm
  go_enter Tryz.func22, Tryz.ntmps22
  go_wp2
  go_loopw [3, 4] (fun lv iv wr => ∃ (k d : Nat) (q : Option Addr), k ≤ m ∧ lv = .slice q k d ∧ iv = .int .i64 (2 * (k : Nat)) ∧ Hid (OwnR wr w.heap.size (.slice q k d) (twos l k)) ∧ Hid (Below w.heap.size w wr)) (fun _ iv _ => n - (intOf iv).toNat)
  case atStart => exact ⟨0, 0, none, Nat.zero_le _, rfl, rfl, ownR_nil _ _, Below.refl _ _⟩
  case round =>
    obtain ⟨k, d, q, hk, rfl, rfl, HOW, HB⟩ := hrel
    rename World => wr
    by_cases hkm : k < m
    · have hkI : 2 * (k : Int) + 1 < n := by have := HN.out; omega
      have hk2 : 2 * (k : Int) < n := by omega
      have hk3 : (0 : Int) ≤ 2 * (k : Int) + 1 := by omega
      have hw2 : IntKind.i64.wrap (2 * (k : Int) + 1) = 2 * (k : Int) + 1 := by rw [IntKind.wrap_i64]; omega
      have hw3 : IntKind.i64.wrap (2 * (k : Int) + 2) = 2 * (k : Int) + 2 := by rw [IntKind.wrap_i64]; omega
      have hk0 : (0 : Int) ≤ 2 * (k : Int) := by omega
      have htn : (2 * (k : Int)).toNat = 2 * k := by omega
      have htn1 : (2 * (k : Int) + 1).toNat = 2 * k + 1 := by omega
      obtain ⟨b1, o1, e1, hc1⟩ := sli_at (HP.out.below HB.out) (show 2 * k < l.length by have := HL.out; have := HN.out; omega)
      obtain ⟨b2, o2, e2, hc2⟩ := sli_at (HP.out.below HB.out) (show 2 * k + 1 < l.length by have := HL.out; have := HN.out; omega)
      simp only [Option.some.injEq, Addr.mk.injEq, and_true] at e1 e2
      obtain ⟨rfl, rfl⟩ := e1
      obtain ⟨rfl, rfl⟩ := e2
      have HT : Hid (twos l (k + 1) = twos l k ++ [(gi l (2 * k), gi l (2 * k + 1))]) := twos_succ l k
      obtain ⟨x, hx⟩ : ∃ x, x = gi l (2 * k) := ⟨_, rfl⟩
      obtain ⟨y, hy⟩ : ∃ x, x = gi l (2 * k + 1) := ⟨_, rfl⟩
      rw [← hx] at hc1 HT
      rw [← hy] at hc2 HT
      clear hx hy
      have HK := Lib.hid hkm
      have hrow := ownR_rowN HOW.out (twos_length l k).symm
      have HRO := Lib.hid hrow
      have HWS := Lib.hid HB.out.size
      clear hrow hkm hk
      go_wp2
      go_region_law ((refine step_append_lies _ (by rfl) _ _ _ (by rfl) w.heap.size 41 i0 (.agg #[.int .i64 0, .int .i64 0]) 2 16 Tryz.underlying28 hinf hz0 hz1 hz2 rfl (by omega) (.slice q k d) k _ (by rfl) ((HRO.out.alloc _).drew) ⟨wr.heap.size, 0, none⟩ 1 1 [.int .i64 x, .int .i64 y] (by rfl) (by rfl) (World.news_of_block (cs := #[.int .i64 x, .int .i64 y]) (t := 41) (fr := (0, 0)) (heap_alloc_new wr _)) (by simp [Value.oneCell']) (by omega) (by have := HK.out; have := HM.out; simp only [maxLen]; omega) (by have := HK.out; have := HM.out; omega) (by have := HWS.out; simp; omega) (wr.heap.size + 1) (by simp) ?_; intro gg cap w5 hown5 hgrow hat hlt))
      all_goals
        have hO5 : OwnR w5 w.heap.size (.slice (some ⟨gg, 0, none⟩) (k + 1) cap) (twos l k ++ [(x, y)]) := ownR_appended (r := (x, y)) (twos_length l k) hown5
        rw [← HT.out] at hO5
        have hb5 : Below w.heap.size w w5 := (HB.out.alloc HB.out.size _).drew.grown hgrow (by have := HWS.out; simp; omega) (fun k hk => (HRO.out.lt k hk).1)
        have HO5 := Lib.hid hO5
        have HB5 := Lib.hid hb5
        clear hown5 hgrow hat hlt hO5 hb5
        go_wp2
        go_roundw
      case rel => exact ⟨k + 1, cap, _, by have := HK.out; omega, rfl, by go_num, HO5.out, HB5.out⟩
      case measure => have := HK.out; simp [intOf]; omega
      case rel => exact ⟨k + 1, cap, _, by have := HK.out; omega, rfl, by go_num, HO5.out, HB5.out⟩
      case measure => have := HK.out; simp [intOf]; omega
    · have hkm2 : k = m := by omega
      subst hkm2
      have hkI : (n : Int) ≤ 2 * (k : Int) + 1 := by have := HN.out; omega
      have hw2 : IntKind.i64.wrap (2 * (k : Int) + 1) = 2 * (k : Int) + 1 := by rw [IntKind.wrap_i64]; have := HN.out; omega
      go_wp2
      go_ret
      exact ⟨q, d, congrArg (fun z => Ending.returned (.slice q z d)) (twos_length l k).symm, by rw [twos_length]; exact HOW.out, HB.out⟩

theorem rlit (n m : Nat) (l : List Int) (cs : Array Value) (w : World) (hcs : cs = (l.map (Value.int .i64)).toArray) (hn : n = 2 * m) (hl : n = l.length) (hm : m ≤ 1000) :
    Calls Tryz.prog 22 #[.slice (some ⟨w.heap.size, 0, none⟩) n n] (w.alloc (.cells cs 3)) (Tells w (twos l m)) := by
  refine (rset_any w.heap.size 0 n n m l _ hn hl (sli_new w l cs 3 hcs) hm).mono ?_
  rintro e w' ⟨q, d, h1, h2, h3⟩
  exact ⟨q, d, h1, ownR_mono h2 (by simp), bl_trans (bl_alloc _ _) h3⟩
theorem rlines_any (w : World) : Calls Tryz.prog 10 #[] w (Tells w linesL) := by
  have HJ := Lib.hid (rlit 6 3 [10, 10, 13, 13, 8232, 8233] _ w rfl rfl rfl (by omega))
  go_enter Tryz.func10, Tryz.ntmps10
  go_wp2_with (go_at_call 22; refine HJ.out.mono ?_; rintro e w5 ⟨q5, d5, rfl, ho5, hb5⟩; have HO5 := Lib.hid ho5; have HB5 := Lib.hid hb5; clear ho5 hb5)
  go_ret
  exact ⟨q5, d5, rfl, HO5.out, HB5.out⟩
theorem rdigits_any (w : World) : Calls Tryz.prog 11 #[] w (Tells w digitsL) := by
  have HJ := Lib.hid (rlit 2 1 [48, 57] _ w rfl rfl rfl (by omega))
  go_enter Tryz.func11, Tryz.ntmps11
  go_wp2_with (go_at_call 22; refine HJ.out.mono ?_; rintro e w5 ⟨q5, d5, rfl, ho5, hb5⟩; have HO5 := Lib.hid ho5; have HB5 := Lib.hid hb5; clear ho5 hb5)
  go_ret
  exact ⟨q5, d5, rfl, HO5.out, HB5.out⟩
theorem rspaces_any (w : World) : Calls Tryz.prog 12 #[] w (Tells w spacesL) := by
  have HJ := Lib.hid (rlit 20 10 [9, 13, 32, 32, 160, 160, 5760, 5760, 8192, 8202, 8232, 8233, 8239, 8239, 8287, 8287, 12288, 12288, 65279, 65279] _ w rfl rfl rfl (by omega))
  go_enter Tryz.func12, Tryz.ntmps12
  go_wp2_with (go_at_call 22; refine HJ.out.mono ?_; rintro e w5 ⟨q5, d5, rfl, ho5, hb5⟩; have HO5 := Lib.hid ho5; have HB5 := Lib.hid hb5; clear ho5 hb5)
  go_ret
  exact ⟨q5, d5, rfl, HO5.out, HB5.out⟩
end Go.Proofs.YtgcgclmfjlecaaaGreat
