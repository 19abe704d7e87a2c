/- Rows handed out one after the other lie apart; a list of them, new. -/
/- fold: the walks of Lines, Digits, Spaces, and of the document's; rows of rows held against each other. -/
/- The walk of SameRangeRows at rows that hold the same. -/
/- Folds, plainly: what a table finds; the walk of the document's to. -/
import Derived.Test.YtglgfpapackcdaaGreatFb
import Derived.Test.YtglgfpapackcdaaGreatRzc
import Derived.Test.YtglgfpapackcdaaGreatRu

namespace Go.Proofs.YtglgfpapackcdaaGreat
open Go.RowKit

def Up : Nat → List D → Prop
  | _, [] => True
  | B, d :: ds => ∃ B', B ≤ B' ∧ (∀ b, d.p = some b → B ≤ b ∧ b < B') ∧ Up B' ds
theorem dg_succ (d : D) (ds : List D) (k : Nat) : dg (d :: ds) (k + 1) = dg ds k := by unfold dg; rw [List.getD_cons_succ]
theorem up_in : ∀ {ds : List D} {B b : Nat}, Up B ds → InD ds b → B ≤ b
  | [], _, _, _, ⟨k, hk, _⟩ => by simp at hk
  | d :: ds, B, b, ⟨B', h1, h2, h3⟩, ⟨k, hk, e⟩ => by
    cases k with
    | zero => exact (h2 b e).1
    | succ k =>
      rw [dg_succ] at e
      exact Nat.le_trans h1 (up_in h3 ⟨k, by simpa using hk, e⟩)
theorem up_far : ∀ {ds : List D} {B : Nat}, Up B ds → Far ds
  | [], _, _ => fun i j b hi => by simp at hi
  | d :: ds, B, ⟨B', h1, h2, h3⟩ => fun i j b hi hj ei ej => by
    cases i with
    | zero =>
      cases j with
      | zero => rfl
      | succ j =>
        rw [dg_succ] at ej
        have := up_in h3 ⟨j, by simpa using hj, ej⟩
        have := (h2 b ei).2
        omega
    | succ i =>
      rw [dg_succ] at ei
      cases j with
      | zero =>
        have := up_in h3 ⟨i, by simpa using hi, ei⟩
        have := (h2 b ej).2
        omega
      | succ j =>
        rw [dg_succ] at ej
        have := up_far h3 i j b (by simpa using hi) (by simpa using hj) ei ej
        omega
theorem slD_new {W : World} {ds : List D} {cs : Array Value} {T : TypeId} (hd : ∀ b, InD ds b → b < W.heap.size) (hcs : cs = (ds.map D.val).toArray) : SlD (W.alloc (.cells cs T)) (some ⟨W.heap.size, 0, none⟩) ds := by
  subst hcs
  refine .inr ⟨W.heap.size, 0, rfl, fun s => by have := hd _ s; omega, by simp, fun k hk => ?_⟩
  rw [World.cell?_alloc_at _ _ _ _ rfl, Nat.zero_add]
  simp only [List.getElem?_toArray, List.getElem?_map, List.getElem?_eq_getElem hk, Option.map_some]
  unfold dg
  rw [List.getD_eq_getElem?_getD, List.getElem?_eq_getElem hk]; rfl
theorem own_room {w : World} {B sz n : Nat} {T : TypeId} {q : Option Addr} {m c : Nat} {xs : List Value} (h : w.ownsRow B T sz (.slice q m c) n xs) : ∃ d : D, Value.slice q m c = d.val ∧ d.n = n ∧ Room w sz d ∧ ∀ b, d.p = some b → B ≤ b ∧ b < w.heap.size := by
  obtain ⟨d, h1, h2, h3, _, h5⟩ := room_of_own h
  exact ⟨d, h1, h2, h3, fun b e => ⟨h5 b e, h3.lt b e⟩⟩
end Go.Proofs.YtglgfpapackcdaaGreat


namespace Go.Proofs.YtglgfpapackcdaaGreat
open Go.RowKit Tnr

theorem ownR_new {w : World} {B n : Nat} {l : List R} {cs : Array Value} (hB : B ≤ w.heap.size) (hcs : cs = (l.flatMap encR).toArray) (hn : n = l.length) (hl : l.length ≤ 1000000) : OwnR (w.alloc (.cells cs 24)) B (.slice (some ⟨w.heap.size, 0, none⟩) n n) l := by
  subst hn
  refine ⟨encs_length l, .inr ⟨w.heap.size, l.length, cs, rfl, hB, heap_alloc_new w _, Nat.le_refl _, by simp only [maxLen]; omega, ?_, ?_⟩⟩
  · rw [hcs]; simp only [List.size_toArray]; exact encs_length l
  · rw [hcs]; exact List.take_of_length_le (by rw [encs_length]; exact Nat.le_refl _)
theorem tells_new {w : World} {n : Nat} {l : List R} {cs : Array Value} (hcs : cs = (l.flatMap encR).toArray) (hn : n = l.length) (hl : l.length ≤ 1000000) : Tells w l (.returned (.slice (some ⟨w.heap.size, 0, none⟩) n n)) (w.alloc (.cells cs 24)) := by
  subst hn
  exact ⟨_, _, rfl, ownR_new (Nat.le_refl _) hcs rfl hl, bl_alloc _ _⟩

def linesL : List R := [(10, 10), (13, 13), (8232, 8233)]
def digitsL : List R := [(48, 57)]
def spacesL : List R := [(9, 13), (32, 32), (160, 160), (5760, 5760), (8192, 8202), (8232, 8233), (8239, 8239), (8287, 8287), (12288, 12288), (65279, 65279)]
def wordsL : List R := [(48, 57), (65, 90), (95, 95), (97, 122)]
theorem lines_any (w : World) : Calls Tryz.prog 32 #[] w (Tells w linesL) := by
  have h := tells_new (w := w) (l := linesL) (n := 3) (cs := _) rfl rfl (by decide)
  go_enter Tryz.func32, Tryz.ntmps32
  go_wp2
  go_ret
  exact h
theorem digits_any (w : World) : Calls Tryz.prog 33 #[] w (Tells w digitsL) := by
  have h := tells_new (w := w) (l := digitsL) (n := 1) (cs := _) rfl rfl (by decide)
  go_enter Tryz.func33, Tryz.ntmps33
  go_wp2
  go_ret
  exact h
theorem spaces_any (w : World) : Calls Tryz.prog 34 #[] w (Tells w spacesL) := by
  have h := tells_new (w := w) (l := spacesL) (n := 10) (cs := _) rfl rfl (by decide)
  go_enter Tryz.func34, Tryz.ntmps34
  go_wp2
  go_ret
  exact h

def twos (l : List Int) (k : Nat) : List R := (List.range k).map fun i => (gi l (2 * i), gi l (2 * i + 1))
theorem twos_succ (l : List Int) (k : Nat) : twos l (k + 1) = twos l k ++ [(gi l (2 * k), gi l (2 * k + 1))] := by unfold twos; rw [List.range_succ, List.map_append]; rfl
theorem twos_length (l : List Int) (k : Nat) : (twos l k).length = k := by simp [twos]

set_option maxHeartbeats 3200000 in
set_option maxRecDepth 100000 in
theorem rset_any (b o c n m : Nat) (l : List Int) (w : World) (hn : n = 2 * m) (hl : n = l.length) (hp : SlI w (some ⟨b, o, none⟩) l) (hm : m ≤ 1000) :
    Calls Tryz.prog 70 #[.slice (some ⟨b, o, none⟩) n c] w (Tells w (twos l m)) := by
  obtain ⟨i0, hinf, hz0, hz1, hz2⟩ := info_parts info_range
  have HP := Lib.hid hp
  have HN := Lib.hid hn
  have HL := Lib.hid hl
  have hnI : (n : Int) ≤ 2000 := by omega
  have HM := Lib.hid hm
  clear hp hn hl hm
  go_enter Tryz.func70, Tryz.ntmps70
  go_wp2
  go_loopw [3, 4] (fun lv iv wr => ∃ (k d : Nat) (q : Option Addr), k ≤ m ∧ lv = .slice q k d ∧ iv = .int .i64 (2 * (k : Nat)) ∧ Hid (OwnR wr w.heap.size (.slice q k d) (twos l k)) ∧ Hid (Below w.heap.size w wr)) (fun _ iv _ => n - (intOf iv).toNat)
  case atStart => exact ⟨0, 0, none, Nat.zero_le _, rfl, rfl, ownR_nil _ _, Below.refl _ _⟩
  case round =>
    obtain ⟨k, d, q, hk, rfl, rfl, HOW, HB⟩ := hrel
    rename World => wr
    by_cases hkm : k < m
    · have hkI : 2 * (k : Int) + 1 < n := by have := HN.out; omega
      have hk2 : 2 * (k : Int) < n := by omega
      have hk3 : (0 : Int) ≤ 2 * (k : Int) + 1 := by omega
      have hw2 : IntKind.i64.wrap (2 * (k : Int) + 1) = 2 * (k : Int) + 1 := by rw [IntKind.wrap_i64]; omega
      have hw3 : IntKind.i64.wrap (2 * (k : Int) + 2) = 2 * (k : Int) + 2 := by rw [IntKind.wrap_i64]; omega
      have hk0 : (0 : Int) ≤ 2 * (k : Int) := by omega
      have htn : (2 * (k : Int)).toNat = 2 * k := by omega
      have htn1 : (2 * (k : Int) + 1).toNat = 2 * k + 1 := by omega
      obtain ⟨b1, o1, e1, hc1⟩ := sli_at (HP.out.below HB.out) (show 2 * k < l.length by have := HL.out; have := HN.out; omega)
      obtain ⟨b2, o2, e2, hc2⟩ := sli_at (HP.out.below HB.out) (show 2 * k + 1 < l.length by have := HL.out; have := HN.out; omega)
      simp only [Option.some.injEq, Addr.mk.injEq, and_true] at e1 e2
      obtain ⟨rfl, rfl⟩ := e1
      obtain ⟨rfl, rfl⟩ := e2
      have HT : Hid (twos l (k + 1) = twos l k ++ [(gi l (2 * k), gi l (2 * k + 1))]) := twos_succ l k
      obtain ⟨x, hx⟩ : ∃ x, x = gi l (2 * k) := ⟨_, rfl⟩
      obtain ⟨y, hy⟩ : ∃ x, x = gi l (2 * k + 1) := ⟨_, rfl⟩
      rw [← hx] at hc1 HT
      rw [← hy] at hc2 HT
      clear hx hy
      have HK := Lib.hid hkm
      have hrow := ownR_rowN HOW.out (twos_length l k).symm
      have HRO := Lib.hid hrow
      have HWS := Lib.hid HB.out.size
      clear hrow hkm hk
      go_wp2
      go_region_law ((refine step_append_lies _ (by rfl) _ _ _ (by rfl) w.heap.size 24 i0 (.agg #[.int .i64 0, .int .i64 0]) 2 16 Tryz.underlying25 hinf hz0 hz1 hz2 rfl (by omega) (.slice q k d) k _ (by rfl) ((HRO.out.alloc _).drew) ⟨wr.heap.size, 0, none⟩ 1 1 [.int .i64 x, .int .i64 y] (by rfl) (by rfl) (World.news_of_block (cs := #[.int .i64 x, .int .i64 y]) (t := 24) (fr := (0, 0)) (heap_alloc_new wr _)) (by simp [Value.oneCell']) (by omega) (by have := HK.out; have := HM.out; simp only [maxLen]; omega) (by have := HK.out; have := HM.out; omega) (by have := HWS.out; simp; omega) (wr.heap.size + 1) (by simp) ?_; intro gg cap w5 hown5 hgrow hat hlt))
      all_goals
        have hO5 : OwnR w5 w.heap.size (.slice (some ⟨gg, 0, none⟩) (k + 1) cap) (twos l k ++ [(x, y)]) := ownR_appended (r := (x, y)) (twos_length l k) hown5
        rw [← HT.out] at hO5
        have hb5 : Below w.heap.size w w5 := (HB.out.alloc HB.out.size _).drew.grown hgrow (by have := HWS.out; simp; omega) (fun k hk => (HRO.out.lt k hk).1)
        have HO5 := Lib.hid hO5
        have HB5 := Lib.hid hb5
        clear hown5 hgrow hat hlt hO5 hb5
        go_wp2
        go_roundw
      case rel => exact ⟨k + 1, cap, _, by have := HK.out; omega, rfl, by go_num, HO5.out, HB5.out⟩
      case measure => have := HK.out; simp [intOf]; omega
      case rel => exact ⟨k + 1, cap, _, by have := HK.out; omega, rfl, by go_num, HO5.out, HB5.out⟩
      case measure => have := HK.out; simp [intOf]; omega
    · have hkm2 : k = m := by omega
      subst hkm2
      have hkI : (n : Int) ≤ 2 * (k : Int) + 1 := by have := HN.out; omega
      have hw2 : IntKind.i64.wrap (2 * (k : Int) + 1) = 2 * (k : Int) + 1 := by rw [IntKind.wrap_i64]; have := HN.out; omega
      go_wp2
      go_ret
      exact ⟨q, d, congrArg (fun z => Ending.returned (.slice q z d)) (twos_length l k).symm, by rw [twos_length]; exact HOW.out, HB.out⟩

theorem rlit (n m : Nat) (l : List Int) (cs : Array Value) (w : World) (hcs : cs = (l.map (Value.int .i64)).toArray) (hn : n = 2 * m) (hl : n = l.length) (hm : m ≤ 1000) :
    Calls Tryz.prog 70 #[.slice (some ⟨w.heap.size, 0, none⟩) n n] (w.alloc (.cells cs 3)) (Tells w (twos l m)) := by
  refine (rset_any w.heap.size 0 n n m l _ hn hl (sli_new w l cs 3 hcs) hm).mono ?_
  rintro e w' ⟨q, d, h1, h2, h3⟩
  exact ⟨q, d, h1, ownR_mono h2 (by simp), bl_trans (bl_alloc _ _) h3⟩
theorem rlines_any (w : World) : Calls Tryz.prog 36 #[] w (Tells w linesL) := by
  have HJ := Lib.hid (rlit 6 3 [10, 10, 13, 13, 8232, 8233] _ w rfl rfl rfl (by omega))
  go_enter Tryz.func36, Tryz.ntmps36
  go_wp2_with (go_at_call 70; refine HJ.out.mono ?_; rintro e w5 ⟨q5, d5, rfl, ho5, hb5⟩; have HO5 := Lib.hid ho5; have HB5 := Lib.hid hb5; clear ho5 hb5)
  go_ret
  exact ⟨q5, d5, rfl, HO5.out, HB5.out⟩
theorem rdigits_any (w : World) : Calls Tryz.prog 37 #[] w (Tells w digitsL) := by
  have HJ := Lib.hid (rlit 2 1 [48, 57] _ w rfl rfl rfl (by omega))
  go_enter Tryz.func37, Tryz.ntmps37
  go_wp2_with (go_at_call 70; refine HJ.out.mono ?_; rintro e w5 ⟨q5, d5, rfl, ho5, hb5⟩; have HO5 := Lib.hid ho5; have HB5 := Lib.hid hb5; clear ho5 hb5)
  go_ret
  exact ⟨q5, d5, rfl, HO5.out, HB5.out⟩
theorem rspaces_any (w : World) : Calls Tryz.prog 38 #[] w (Tells w spacesL) := by
  have HJ := Lib.hid (rlit 20 10 [9, 13, 32, 32, 160, 160, 5760, 5760, 8192, 8202, 8232, 8233, 8239, 8239, 8287, 8287, 12288, 12288, 65279, 65279] _ w rfl rfl rfl (by omega))
  go_enter Tryz.func38, Tryz.ntmps38
  go_wp2_with (go_at_call 70; refine HJ.out.mono ?_; rintro e w5 ⟨q5, d5, rfl, ho5, hb5⟩; have HO5 := Lib.hid ho5; have HB5 := Lib.hid hb5; clear ho5 hb5)
  go_ret
  exact ⟨q5, d5, rfl, HO5.out, HB5.out⟩
end Go.Proofs.YtglgfpapackcdaaGreat


namespace Go.Proofs.YtglgfpapackcdaaGreat
open Go.RowKit Tnr

theorem samek (p q : Option Addr) (c d m : Nat) (l : List R) (w : World) (hm : m = l.length) (hp : SlR w p l) (hq : SlR w q l) (hl : l.length ≤ 100000000) :
    Calls Tryz.prog 21 #[.slice p m c, .slice q m d] w fun e w' => e = .returned (.bool true) ∧ Below w.heap.size w w' := by
  subst hm
  have h := same_any p q c d l l w hp hq (by omega) (by omega)
  rw [decide_eq_true rfl] at h
  exact h.mono fun e w' ⟨h1, n, h2⟩ => ⟨h1, by rw [← h2]; exact drewN_below _ _⟩

set_option maxHeartbeats 3200000 in
set_option maxRecDepth 100000 in
theorem sameRows_any (p q : Option Addr) (c d n : Nat) (xs ys : List SV) (w : World) (hn : n = xs.length) (hy : n = ys.length) (hx : SlS w p xs) (hyy : SlS w q ys) (he : ∀ i, i < n → (gs xs i).2.2 = (gs ys i).2.2) (hl : ∀ i, i < n → (gs xs i).2.2.length ≤ 100000000) (hnm : n ≤ 100000000) :
    Calls Tryz.prog 40 #[.slice p n c, .slice q n d] w fun e w' => e = .returned (.bool true) ∧ Below w.heap.size w w' := by
  have HX := Lib.hid hx
  have HYY := Lib.hid hyy
  have HN := Lib.hid hn
  have HY := Lib.hid hy
  have HE := Lib.hid he
  have HL := Lib.hid hl
  have hnI : (n : Int) ≤ 100000000 := by omega
  clear hx hyy hn hy he hl hnm
  go_enter Tryz.func40, Tryz.ntmps40
  go_wp2
  go_loopw [5] (fun iv wr => ∃ (k : Nat), k ≤ n ∧ iv = .int .i64 (k : Nat) ∧ Hid (Below w.heap.size w wr)) (fun iv _ => n - (intOf iv).toNat)
  case atStart => exact ⟨0, Nat.zero_le _, rfl, Below.refl _ _⟩
  case round =>
    obtain ⟨k, hk, rfl, HB⟩ := hrel
    rename World => wr
    by_cases hkn : k < n
    · have hkI : (k : Int) < n := by omega
      have hkx : k < xs.length := by have := HN.out; omega
      have hky : k < ys.length := by have := HY.out; omega
      obtain ⟨bp, op, rfl, hcp⟩ := sls_at (HX.out.below HB.out) hkx
      obtain ⟨bq, oq, rfl, hcq⟩ := sls_at (HYY.out.below HB.out) hky
      have hA := HX.out.1 (gs xs k) (by rw [gs_get hkx]; exact List.getElem_mem hkx)
      have hB := HYY.out.1 (gs ys k) (by rw [gs_get hky]; exact List.getElem_mem hky)
      have hee := HE.out k hkn
      have hll := HL.out k hkn
      obtain ⟨⟨pa, ca, la⟩, hga⟩ : ∃ x, x = gs xs k := ⟨_, rfl⟩
      obtain ⟨⟨pb, cb, lb⟩, hgb⟩ : ∃ x, x = gs ys k := ⟨_, rfl⟩
      rw [← hga] at hcp hA hee hll
      rw [← hgb] at hcq hB hee
      simp only at hcp hcq hA hB hee hll
      subst hee
      obtain ⟨m, hm⟩ : ∃ m, m = la.length := ⟨_, rfl⟩
      rw [← hm] at hcp hcq
      have HSAME : Hid (∀ W : World, Below wr.heap.size wr W → Calls Tryz.prog 21 #[.slice pa m ca, .slice pb m cb] W fun e w' => e = .returned (.bool true) ∧ Below W.heap.size W w') :=
        fun W hb => samek pa pb ca cb m la W hm ((hA.below HB.out).below hb) ((hB.below HB.out).below hb) hll
      have HK := Lib.hid hkn
      clear hga hgb hm hA hB hll hkn hkx hky
      go_wp2
      go_region_held3 (fun W => W.cell? ⟨bp, op + k, none⟩ = some (.slice pa m ca) ∧ W.cell? ⟨bq, oq + k, none⟩ = some (.slice pb m cb) ∧ Hid (Below wr.heap.size wr W)) (first | exact ⟨hcp, hcq, bl_drew _⟩ | exact ⟨by assumption, by assumption, by assumption⟩) (first | (go_at_call 21; (with_reducible refine (HSAME.out _ (bl_drew _)).mono ?_); rintro e w6 ⟨rfl, hb6⟩; have hq1 : World.cell? w6 ⟨bp, op + k, none⟩ = some (.slice pa m ca) := keep_cell hb6 hcp; have hq2 : World.cell? w6 ⟨bq, oq + k, none⟩ = some (.slice pb m cb) := keep_cell hb6 hcq; have hq3 : Hid (Below wr.heap.size wr w6) := bl_trans (bl_drew _) hb6; clear hb6))
      go_wp2
      go_roundw
      case rel => exact ⟨k + 1, by have := HK.out; omega, by go_num, bl_trans HB.out hq3.out⟩
      case measure => have := HK.out; simp [intOf]; omega
    · have hkI : (n : Int) ≤ k := by omega
      go_wp2
      go_ret
      exact ⟨rfl, HB.out⟩
end Go.Proofs.YtglgfpapackcdaaGreat


namespace Go.Proofs.YtglgfpapackcdaaGreat
open Go.RowKit Tnr

def look (F : List R) (c : Int) : Option Int := (F.find? fun f => f.1 == c).map (·.2)
def Rise (F : List R) : Prop := ∀ i j, i < j → j < F.length → (gr F i).1 < (gr F j).1
theorem look_none {F : List R} {c : Int} (h : ∀ i, i < F.length → (gr F i).1 ≠ c) : look F c = none := by
  unfold look
  rw [List.find?_eq_none.2]
  · rfl
  · intro f hf
    obtain ⟨i, hi, rfl⟩ := mem_gr hf
    simpa using h i hi
theorem look_some {F : List R} {c : Int} {i : Nat} (hr : Rise F) (hi : i < F.length) (h : (gr F i).1 = c) : look F c = some (gr F i).2 := by
  unfold look
  cases hf : F.find? fun f => f.1 == c with
  | none =>
    exfalso
    have := List.find?_eq_none.1 hf (gr F i) (gr_mem hi)
    simp [h] at this
  | some f =>
    have h1 := List.find?_some hf
    obtain ⟨j, hj, rfl⟩ := mem_gr (List.mem_of_find?_eq_some hf)
    have h2 : (gr F j).1 = c := by simpa using h1
    have : i = j := by
      rcases Nat.lt_trichotomy i j with hlt | heq | hgt
      · have := hr i j hlt hj; omega
      · exact heq
      · have := hr j i hgt hi; omega
    subst this; rfl

set_option maxHeartbeats 3200000 in
set_option maxRecDepth 100000 in
theorem rto_any (pf pp : Option Addr) (cf cp n m : Nat) (F : List R) (c : Int) (w : World) (hn : n = F.length) (hp : SlR w pf F) (hs : Rise F) (hl : n ≤ 10000000000000) :
    Calls Tryz.prog 53 #[.agg #[.slice pf n cf, .slice pp m cp], .int .i64 c] w fun e w' => e = .returned (.tuple #[.int .i64 ((look F c).getD 0), .bool (look F c).isSome]) ∧ Below w.heap.size w w' := by
  have HP := Lib.hid (hp.below (bl_alloc w (.cells #[.slice pf n cf, .slice pp m cp] 30)))
  have HN := Lib.hid hn
  have HS := Lib.hid hs
  have hnI : (n : Int) ≤ 10000000000000 := by omega
  have HB := Lib.hid (bl_alloc w (.cells #[.slice pf n cf, .slice pp m cp] 30))
  have hb0 : (w.alloc (.cells #[.slice pf n cf, .slice pp m cp] 30)).cell? ⟨w.heap.size, 0, none⟩ = some (.slice pf n cf) := by rw [World.cell?_alloc_at _ _ _ _ rfl]; rfl
  clear hn hp hs hl
  go_enter Tryz.func53, Tryz.ntmps53
  go_wp2
  go_quiet (fail)
  go_wp2
  obtain ⟨ws, hws⟩ : ∃ ws, ws = (w.alloc (.cells #[.slice pf n cf, .slice pp m cp] 30)).drewN nq := ⟨_, rfl⟩
  rw [← hws]
  have hb1 : ws.cell? ⟨w.heap.size, 0, none⟩ = some (.slice pf n cf) := by rw [hws]; simp
  have HB2 : Hid (Below w.heap.size w ws) := by rw [hws]; exact bl_trans HB.out (drewN_below _ _)
  have HP2 : Hid (SlR ws pf F) := by rw [hws]; exact HP.out.below (drewN_below _ _)
  clear hws hb0 HB HP
  generalize w.heap.size = bt at hb1 ⊢
  go_loop [6, 7] (fun lv hv => ∃ (lo hi : Nat), lo ≤ hi ∧ hi ≤ n ∧ lv = .int .i64 (lo : Nat) ∧ hv = .int .i64 (hi : Nat) ∧ Hid (∀ i, i < lo → (gr F i).1 < c) ∧ Hid (∀ i, hi ≤ i → i < n → c < (gr F i).1)) (fun lv hv => (intOf hv).toNat - (intOf lv).toNat)
  case atStart => exact ⟨0, n, Nat.zero_le _, Nat.le_refl _, rfl, rfl, (fun i h => absurd h (Nat.not_lt_zero i)), (fun i h1 h2 => by omega)⟩
  case round =>
    obtain ⟨lo, hi, hlh, hhn, rfl, rfl, HLO, HHI⟩ := hrel
    by_cases hlt : lo < hi
    · have hltI : (lo : Int) < hi := by omega
      obtain ⟨mid, hmid⟩ : ∃ mid, mid = (lo + hi) / 2 := ⟨_, rfl⟩
      have hm1 : lo ≤ mid := by omega
      have hm2 : mid < hi := by omega
      have hq1 : ((lo : Int) + (hi : Int)) / 2 = (mid : Int) := by omega
      have hq2 : ((lo : Int) + (hi : Int)).tdiv 2 = (mid : Int) := by rw [Int.tdiv_eq_ediv_of_nonneg (by omega)]; exact hq1
      have hw1 : IntKind.i64.wrap ((lo : Int) + (hi : Int)) = (lo : Int) + (hi : Int) := by rw [IntKind.wrap_i64]; omega
      have hmI : (mid : Int) < n := by omega
      have hmN : mid < F.length := by have := HN.out; omega
      obtain ⟨b, o, rfl, hc1, hc2⟩ := slr_at HP2.out hmN
      have HF : Hid ((gr F mid).1 = c → look F c = some (gr F mid).2) := fun e => look_some HS.out hmN e
      have HLT : Hid (∀ i, i < mid → (gr F i).1 < (gr F mid).1) := fun i h => HS.out i mid h hmN
      have HGT : Hid (∀ i, mid < i → i < n → (gr F mid).1 < (gr F i).1) := fun i h h2 => HS.out mid i h (by have := HN.out; omega)
      obtain ⟨f, hf⟩ : ∃ x, x = (gr F mid).1 := ⟨_, rfl⟩
      obtain ⟨t, ht⟩ : ∃ x, x = (gr F mid).2 := ⟨_, rfl⟩
      rw [← hf] at hc1 HF HLT HGT
      rw [← ht] at hc2 HF
      have HFD := Lib.hid hf
      have HM := Lib.hid (And.intro hm1 hm2)
      have HLH := Lib.hid (And.intro hlt hhn)
      clear hmid hm1 hm2 hmN hf ht hlt hlh hhn
      by_cases h1 : f = c
      · have HK := Lib.hid (HF.out h1)
        have d1 : (f == c) = true := by simp [h1]
        subst h1
        go_wp2
        refine bodyPost_ret (v := .tuple #[.int .i64 t, .bool true]) (by simp [results, Tryz.results53, go_sem]) rfl ?_
        exact ⟨by rw [HK.out]; rfl, HB2.out⟩
      · have d1 : (f == c) = false := by simp [h1]
        by_cases h2 : f < c
        · go_wp2
          go_round
          case rel => exact ⟨mid + 1, hi, by have := HM.out; omega, HLH.out.2, by go_num, rfl, (fun i h => by
            by_cases e : i = mid
            · subst e; rw [← HFD.out]; exact h2
            · have := HLT.out i (by omega); omega), HHI.out⟩
          case measure => have := HM.out; have := HLH.out; simp [intOf]; omega
        · have h3 : c < f := by omega
          go_wp2
          go_round
          case rel => exact ⟨lo, mid, HM.out.1, by have := HM.out; have := HLH.out; omega, rfl, rfl, HLO.out, (fun i h h4 => by
            by_cases e : i = mid
            · subst e; rw [← HFD.out]; exact h3
            · have := HGT.out i (by omega) h4; omega)⟩
          case measure => have := HM.out; have := HLH.out; simp [intOf]; omega
    · have hltI : (hi : Int) ≤ lo := by omega
      have hl : look F c = none := look_none fun i hi2 => by
        have hn2 := HN.out
        rcases Nat.lt_or_ge i lo with h | h
        · have := HLO.out i h; omega
        · have := HHI.out i (by omega) (by omega); omega
      have HK := Lib.hid hl
      clear hl
      go_wp2
      refine bodyPost_ret (v := .tuple #[.int .i64 0, .bool false]) (by simp [results, Tryz.results53, go_sem]) rfl ?_
      exact ⟨by rw [HK.out]; rfl, HB2.out⟩
end Go.Proofs.YtglgfpapackcdaaGreat

