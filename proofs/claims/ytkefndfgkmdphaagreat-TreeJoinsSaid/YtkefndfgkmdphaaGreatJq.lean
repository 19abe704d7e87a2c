import Derived.Test.YtkefndfgkmdphaaGreatFi
import Derived.Test.YtkefndfgkmdphaaGreatJl

namespace Go.Proofs.YtkefndfgkmdphaaGreat
set_option maxHeartbeats 3200000
set_option maxRecDepth 100000
open Go.RowKit Tnr Tnt

def RowN (w : World) (B : Nat) (v : Value) (l : List NV) : Prop := w.ownsRow B 28 9 v l.length (l.flatMap encN)
theorem rowN_below {w w' : World} {B : Nat} {v : Value} {l : List NV} (h : RowN w B v l) (hb : Below w.heap.size w w') : RowN w' B v l := row_below h hb
theorem rowN_form {w : World} {B : Nat} {v : Value} {l : List NV} (h : RowN w B v l) : ∃ q d, v = .slice q l.length d := by
 rcases h.2 with ⟨rfl, hn⟩ | ⟨g, cap, cur, rfl, _⟩
 ·exact ⟨none, 0, by rw [hn]⟩
 ·exact ⟨_, _, rfl⟩
theorem rowN_some {w : World} {B no : Nat} {q : Option Addr} {d : Nat} {l : List NV} (h : RowN w B (.slice q no d) l) (hn : 0 < no) (hl : no = l.length) : ∃ g, q = some ⟨g, 0, none⟩ ∧ no ≤ d ∧ d ≤ 9223372036854775807 := by
 subst hl
 rcases h.2 with ⟨_, h0⟩ | ⟨g, cap, cur, e, _, _, hnc, hcm, _⟩
 ·omega
 ·simp only [Value.slice.injEq, true_and] at e
  obtain ⟨rfl, rfl⟩ := e
  exact ⟨g, rfl, hnc, by simpa [maxLen] using hcm⟩
theorem rowN_appended {w' : World} {B : Nat} {v' : Value} {l : List NV} {n : Nat} {x : NV} (hn : n = l.length) (h : w'.ownsRow B 28 9 v' (n + 1) (l.flatMap encN ++ encN x)) : RowN w' B v' (l ++ [x]) := by
 unfold RowN
 rw [List.length_append, ← hn, List.flatMap_append, show [x].flatMap encN = encN x by simp]
 exact h
theorem LentN.beside {w w' : World} {B : Nat} {u : Value} {x y : NV} {ys : List NV} (h : LentN w B x y) (ho : RowN w B u ys) (hg : w.grownBy w' u.ownBlock) : LentN w' B x y := by
 have kp : ∀ {T : TypeId} {z n : Nat} {v : Value} {xs : List Value}, T ≠ 28 → w.ownsRow B T z v n xs → w'.ownsRow B T z v n xs := fun {T z n v xs} hT hr => by
  refine World.ownsRow.kept hr hg ?_
  rcases ho.2 with ⟨e2, _⟩ | ⟨g2, cap, cur, e2, _, hh, _⟩
  ·rw [e2]
   rcases hv : v.ownBlock with _ | g
   ·exact .inl rfl
   ·exact .inr (by simp [Value.ownBlock])
  ·rw [e2]
   exact .inr (row_ne hr hh (Ne.symm hT))
 obtain ⟨h0, ⟨g, h1, h2, h3, h4⟩, g', k1, k2, k3, k4⟩ := h
 exact ⟨h0, ⟨g, h1, h2, h3, kp (by decide) h4⟩, g', k1, k2, k3, kp (by decide) k4⟩
theorem gn_snoc_lt {ys : List NV} {y : NV} {i : Nat} (h : i < ys.length) : gn (ys ++ [y]) i = gn ys i := by
 rw [gn_get (by rw [List.length_append]; omega), gn_get h, List.getElem_append_left h]
theorem gn_snoc_eq {ys : List NV} {y : NV} : gn (ys ++ [y]) ys.length = y := by
 rw [gn_get (by rw [List.length_append]; simp)]; simp
def LNs (w : World) (B n g cap : Nat) (xs ys : List NV) : Prop :=
 n = ys.length ∧ n + 12 ≤ cap ∧ cap ≤ 9223372036854775807 ∧ RowN w B (.slice (some ⟨g, 0, none⟩) (n + 12) cap) (ys ++ marksN 12) ∧ (∀ i, i < n → LentN w B (gn xs i) (gn ys i))
theorem LNs.below {w w' : World} {B n g cap : Nat} {xs ys : List NV} (h : LNs w B n g cap xs ys) (hb : Below w.heap.size w w') : LNs w' B n g cap xs ys := ⟨h.1, h.2.1, h.2.2.1, rowN_below h.2.2.2.1 hb, fun i hi => (h.2.2.2.2 i hi).below hb⟩
def LentNsPost (n : Nat) (xs : List NV) (w : World) (e : Ending) (w' : World) : Prop :=
 ∃ g cap ys, e = .returned (.slice (some ⟨g, 0, none⟩) n cap) ∧ LNs w' w.heap.size n g cap xs ys ∧ Below w.heap.size w w'
theorem encN_ones (x : NV) : ∀ u ∈ encN x, Value.oneCell' u = true := fun u hu => encN_one (a := [x]) u (by simpa using hu)

theorem lentNodes_any (p : Option Addr) (c n : Nat) (xs : List NV) (w : World) (hn : n = xs.length) (hx : SlN w p xs) (hnm : n ≤ 3000) (hl : ∀ x ∈ xs, x.nd.kids.length ≤ 3000 ∧ x.nd.set.length ≤ 3000) :
  Calls Tryz.prog 58 #[.slice p n c] w (LentNsPost n xs w) := by
 obtain ⟨i0, hinf, hz0, hz1, hz2⟩ := info_parts info_node
 have HX := lh hx
 have HL := lh hl
 have hnI : (n : Int) ≤ 3000 := by omega
 have HN := lh hn
 clear hx hl hn
 go_enter Tryz.func58, Tryz.ntmps58
 go_wp2_with (at_make; refine wpList_make_own _ rfl _ _ 31 rfl w.heap.size 28 i0 (.agg #[.int .u8 0, .slice none 0 0, .slice none 0 0, .int .i64 0, .int .i64 0, .int .i64 0, .int .u8 0, .int .u8 0, .bool false]) 9 Tryz.underlying31 hinf hz0 hz1 .i64 .i64 _ (n + 12) rfl rfl ?m1 ?m3 ?m4 ?m5 ?_)
 case m1 => push_cast; rfl
 case m3 => rw [hz2]; omega
 case m4 => simp only [maxLen]; omega
 case m5 => exact Nat.le_refl _
 intro w2 hown2 hgrow2
 have hb2 : Below w.heap.size w w2 := (Below.refl _ _).grown hgrow2 (Nat.le_refl _) (by simp)
 have HO2 := lh (show RowN w2 w.heap.size (.slice (some ⟨w.heap.size, 0, none⟩) 0 (n + 12)) [] from hown2)
 have HB2 := lh hb2
 clear hown2 hgrow2 hb2
 go_wp2
 go_loopw [3, 4] (fun ov iv wr => ∃ (k : Nat) (q : Option Addr) (d : Nat) (ys : List NV), k ≤ n ∧ ov = .slice q k d ∧ iv = .int .i64 (k : Nat) ∧ Hid (k = ys.length) ∧ Hid (RowN wr w.heap.size (.slice q k d) ys) ∧ Hid (∀ i, i < k → LentN wr w.heap.size (gn xs i) (gn ys i)) ∧ Hid (Below w.heap.size w wr)) (fun _ iv _ => n - (intOf iv).toNat)
 case atStart => exact ⟨0, _, _, [], Nat.zero_le _, rfl, rfl, rfl, HO2.out, fun i hi => by omega, HB2.out⟩
 case round =>
  obtain ⟨k, q, d, ys, hk, rfl, rfl, HK, HO, HLT, HB⟩ := hrel
  rename World => wr
  by_cases hkn : k < n
  ·have hkx : k < xs.length := by have := HN.out; omega
   obtain ⟨bp, op, rfl, hcells, hin⟩ := (HX.out.below HB.out).at hkx
   have hkI : (k : Int) < n := by omega
   have hlx := HL.out _ (gn_mem hkx)
   obtain ⟨x, hxe⟩ : ∃ x, x = gn xs k := ⟨_, rfl⟩
   rw [← hxe] at hcells hin hlx
   obtain ⟨ls, lk, hls, hlk, hlit⟩ := node_lit2 x
   unfold NodeLit at hlit
   obtain ⟨c0, c1, c2, c3, c4, c5, c6, c7, c8⟩ := hcells
   rw [← hls] at c1
   rw [← hlk] at c2
   have hlen := lentNode_any x wr hin hlx.1 hlx.2
   rw [hlit] at hlen
   have HLEN := lh hlen
   have HXE := lh (And.intro hxe (And.intro hls hlk))
   have HKN := lh hkn
   have HWS := lh HB.out.size
   clear hkx hin hlx hkn hxe hls hlk hlit hlen
   go_wp2_with fail
   refine HLEN.out.mono ?_
   rintro e w6 ⟨y, rfl, hly, hb6⟩
   have hnl : y.nd = x.nd := hly.nd
   have hylit : (encN y).toArray = #[.int .u8 x.nd.kind, .slice y.ps ls y.cs, .slice y.pk lk y.ck, .int .i64 x.nd.group, .int .i64 x.nd.mn, .int .i64 x.nd.mx, .int .u8 x.nd.mode, .int .u8 x.nd.spot, .bool x.nd.neg] := by unfold encN; rw [hnl, ← HXE.out.2.1, ← HXE.out.2.2]
   rw [hylit]
   have hb6a := bl_alloc w6 (.cells #[.int .u8 x.nd.kind, .slice y.ps ls y.cs, .slice y.pk lk y.ck, .int .i64 x.nd.group, .int .i64 x.nd.mn, .int .i64 x.nd.mx, .int .u8 x.nd.mode, .int .u8 x.nd.spot, .bool x.nd.neg] 28)
   have hXa := Bx.new w6 28 #[.int .u8 x.nd.kind, .slice y.ps ls y.cs, .slice y.pk lk y.ck, .int .i64 x.nd.group, .int .i64 x.nd.mn, .int .i64 x.nd.mx, .int .u8 x.nd.mode, .int .u8 x.nd.spot, .bool x.nd.neg]
   obtain ⟨z0, z1, z2, z3, z4, z5, z6, z7, z8⟩ := nine hXa
   have HR6 := lh (rowN_below (rowN_below HO.out hb6) hb6a)
   have HY6 := lh ((hly.down HWS.out).below hb6a)
   have HLT6 := lh (fun i hi => ((HLT.out i hi).below hb6).below hb6a)
   have HB6 := lh (HB.out.trans ((bl_trans hb6 hb6a).mono HWS.out))
   have HYL := lh (And.intro hylit hnl)
   clear hb6 hb6a hly HLEN hXa hylit hnl c0 c1 c2 c3 c4 c5 c6 c7 c8
   go_wp2_with (at_builtin; refine wpList_append_own _ rfl _ _ 31 rfl w.heap.size 28 i0 (.agg #[.int .u8 0, .slice none 0 0, .slice none 0 0, .int .i64 0, .int .i64 0, .int .i64 0, .int .u8 0, .int .u8 0, .bool false]) 9 88 Tryz.underlying31 hinf hz0 hz1 hz2 rfl (by decide) (.slice q k d) k _ rfl (by have h := HR6.out; unfold RowN at h; rw [← HK.out] at h; exact h.alloc _) ⟨_, 0, none⟩ 1 1 (encN y) rfl rfl ?k1 ?k2 ?k3 ?k4 ?k5 ?_)
   case k1 =>
    have h := cells_nine (w6.alloc (.cells #[.int .u8 x.nd.kind, .slice y.ps ls y.cs, .slice y.pk lk y.ck, .int .i64 x.nd.group, .int .i64 x.nd.mn, .int .i64 x.nd.mx, .int .u8 x.nd.mode, .int .u8 x.nd.spot, .bool x.nd.neg] 28)) (encN y) 28
    rw [World.size_alloc, HYL.out.1] at h
    exact h
   case k2 => exact encN_ones y
   case k3 => simp only [maxLen]; omega
   case k4 => omega
   case k5 => have := HB6.out.size; simp at this ⊢; omega
   intro v5 w5 hown5 hgrow5 _
   have hO5 : RowN w5 w.heap.size v5 (ys ++ [y]) := rowN_appended HK.out hown5
   obtain ⟨q5, d5, rfl⟩ := rowN_form hO5
   obtain ⟨wa, hwa⟩ : ∃ wa, wa = w6.alloc (.cells #[.int .u8 x.nd.kind, .slice y.ps ls y.cs, .slice y.pk lk y.ck, .int .i64 x.nd.group, .int .i64 x.nd.mn, .int .i64 x.nd.mx, .int .u8 x.nd.mode, .int .u8 x.nd.spot, .bool x.nd.neg] 28) := ⟨_, rfl⟩
   rw [← hwa] at HR6 HY6 HLT6 HB6 hgrow5
   have hb5 : Below w.heap.size w w5 := (HB6.out.alloc HB6.out.size _).grown hgrow5 (by have := HB6.out.size; simp; omega) (fun k hk => (HR6.out.lt k hk).1)
   have hLT5 : ∀ i, i < k + 1 → LentN w5 w.heap.size (gn xs i) (gn (ys ++ [y]) i) := by
    intro i hi
    have hkl := HK.out
    refine LentN.beside (w := wa.alloc (.cells #[.int .u8 x.nd.kind, .slice y.ps ls y.cs, .slice y.pk lk y.ck, .int .i64 x.nd.group, .int .i64 x.nd.mn, .int .i64 x.nd.mx, .int .u8 x.nd.mode, .int .u8 x.nd.spot, .bool x.nd.neg] 28)) ?_ (rowN_below HR6.out (bl_alloc _ _)) hgrow5
    refine LentN.below ?_ (bl_alloc _ _)
    by_cases hik : i < k
    ·rw [gn_snoc_lt (by omega)]
     exact HLT6.out i hik
    ·have : i = ys.length := by omega
     subst this
     rw [gn_snoc_eq, ← HK.out, ← HXE.out.1]
     exact HY6.out
   have HK5 : Hid (k + 1 = (ys ++ [y]).length) := by show _ = _; rw [List.length_append, ← HK.out]; rfl
   rw [← HK5.out] at hO5
   rw [← HK5.out]
   have HO5 := lh hO5
   have HLT5 := lh hLT5
   have HB5 := lh hb5
   clear hown5 hgrow5 hb5 hLT5 hwa hO5 z0 z1 z2 z3 z4 z5 z6 z7 z8
   go_wp2
   go_roundw
   case rel => exact ⟨k + 1, q5, d5, _, by have := HKN.out; omega, rfl, by go_num, HK5.out, HO5.out, HLT5.out, HB5.out⟩
   case measure => have := HKN.out; simp [intOf]; omega
  ·have hkI : (n : Int) ≤ k := by omega
   obtain rfl : k = n := by omega
   have HKI := lh hkI
   clear hkn hkI
   go_wp2
   go_loopw [3, 6] (fun ov jv wi => ∃ (j no : Nat) (q : Option Addr) (d : Nat), j ≤ 12 ∧ no = k + j ∧ ov = .slice q no d ∧ jv = .int .i64 (j : Nat) ∧ Hid (RowN wi w.heap.size (.slice q no d) (ys ++ marksN j)) ∧ Hid (∀ i, i < k → LentN wi w.heap.size (gn xs i) (gn ys i)) ∧ Hid (Below w.heap.size w wi)) (fun _ jv _ => 12 - (intOf jv).toNat)
   case atStart => exact ⟨0, k, q, d, by omega, rfl, rfl, rfl, (by show RowN wr w.heap.size (.slice q k d) (ys ++ marksN 0); simpa [marksN] using HO.out), HLT.out, HB.out⟩
   case round =>
    obtain ⟨j, no, q2, d2, hj, hno, rfl, rfl, HO2, HLT2, HB2⟩ := hrel
    rename World => wi
    by_cases hj12 : j < 12
    ·have hjI : (j : Int) < 12 := by omega
     have HMN := lh (markNode_any j wi (by omega))
     rw [show (encN (markNV j)).toArray = #[.int .u8 0, .slice none 0 0, .slice none 0 0, .int .i64 (8000024 + (j : Int)), .int .i64 0, .int .i64 0, .int .u8 0, .int .u8 0, .bool false] from rfl] at HMN
     have HJ := lh hj12
     have HNO := lh hno
     clear hj12 hno
     go_wp2_with fail
     refine HMN.out.mono ?_
     rintro e w6 ⟨rfl, hb6⟩
     have HR6 := lh (rowN_below HO2.out hb6)
     have HLT6 := lh (fun i hi => (HLT2.out i hi).below hb6)
     have HB6 := lh (HB2.out.trans (hb6.mono HB2.out.size))
     have HLN : Hid (no = (ys ++ marksN j).length) := by show _ = _; rw [List.length_append, marksN_length, ← HK.out]; exact HNO.out
     clear hb6 HMN
     go_wp2_with (at_builtin; refine wpList_append_own _ rfl _ _ 31 rfl w.heap.size 28 i0 (.agg #[.int .u8 0, .slice none 0 0, .slice none 0 0, .int .i64 0, .int .i64 0, .int .i64 0, .int .u8 0, .int .u8 0, .bool false]) 9 88 Tryz.underlying31 hinf hz0 hz1 hz2 rfl (by decide) (.slice q2 no d2) no _ rfl (by have h := HR6.out; unfold RowN at h; rw [← HLN.out] at h; exact h.alloc _) ⟨_, 0, none⟩ 1 1 (encN (markNV j)) rfl rfl ?n1 ?n2 ?n3 ?n4 ?n5 ?_)
     case n1 => exact cells_nine w6 (encN (markNV j)) 28
     case n2 => exact encN_ones _
     case n3 => have := HNO.out; simp only [maxLen]; omega
     case n4 => have := HNO.out; omega
     case n5 => have := HB6.out.size; simp; omega
     intro v5 w5 hown5 hgrow5 _
     have hO5 : RowN w5 w.heap.size v5 ((ys ++ marksN j) ++ [markNV j]) := rowN_appended HLN.out (by rw [List.flatMap_append, List.append_assoc]; exact hown5)
     have hb5 : Below w.heap.size w w5 := (HB6.out.alloc HB6.out.size _).grown hgrow5 (by have := HB6.out.size; simp; omega) (fun k hk => (HR6.out.lt k hk).1)
     have hLT5 : ∀ i, i < k → LentN w5 w.heap.size (gn xs i) (gn ys i) := by
      intro i hi
      refine LentN.beside (w := w6.alloc (.cells #[.int .u8 0, .slice none 0 0, .slice none 0 0, .int .i64 (8000024 + (j : Int)), .int .i64 0, .int .i64 0, .int .u8 0, .int .u8 0, .bool false] 28)) ?_ (rowN_below HR6.out (bl_alloc _ _)) hgrow5
      exact LentN.below (HLT6.out i hi) (bl_alloc _ _)
     obtain ⟨q5, d5, rfl⟩ := rowN_form hO5
     rw [List.append_assoc, ← marksN_succ] at hO5 ⊢
     have HN5 : Hid (no + 1 = (ys ++ marksN (j + 1)).length) := by show _ = _; rw [List.length_append, marksN_length, ← HK.out]; have := HNO.out; omega
     rw [← HN5.out] at hO5 ⊢
     have HO5 := lh hO5
     have HLT5 := lh hLT5
     have HB5 := lh hb5
     clear hown5 hgrow5 hb5 hLT5 hO5
     go_wp2
     go_roundw
     case rel => exact ⟨j + 1, no + 1, q5, d5, by have := HJ.out; omega, by have := HNO.out; omega, rfl, by go_num, HO5.out, HLT5.out, HB5.out⟩
     case measure => have := HJ.out; simp [intOf]; omega
    ·obtain rfl : j = 12 := by omega
     have HLN : Hid (no = (ys ++ marksN 12).length) := by show _ = _; rw [List.length_append, marksN_length, ← HK.out]; exact hno
     obtain ⟨g, rfl, hc1, hc2⟩ := rowN_some HO2.out (by omega) HLN.out
     have hcI : (k : Int) + 12 ≤ (d2 : Int) := by omega
     have hcJ : (d2 : Int) ≤ 9223372036854775807 := by omega
     subst hno
     have HC1 := lh hc1
     have HC2 := lh hc2
     clear hj12 hj hc1 hc2
     go_wp2
     go_ret
     exact ⟨g, d2, ys, rfl, ⟨HK.out, HC1.out, HC2.out, HO2.out, HLT2.out⟩, HB2.out⟩
end Go.Proofs.YtkefndfgkmdphaaGreat


namespace Go.Proofs.YtkefndfgkmdphaaGreat
set_option maxHeartbeats 3200000
set_option maxRecDepth 100000
open Go.RowKit Tnr Tnt

theorem copyRK_any (p : Option Addr) (c n : Nat) (l : List R) (w : World) (hn : n = l.length) (hp : SlR w p l) (hpn : p = none → c = 0) (hl : l.length ≤ 1000000000) :
  Calls Tryz.prog 78 #[.slice p n c] w fun e w' => ∃ q d, e = .returned (.slice q n d) ∧ OwnR w' w.heap.size (.slice q n d) l ∧ Below w.heap.size w w' := by
 obtain ⟨i0, hinf, hz0, hz1, hz2⟩ := info_parts info_range
 obtain ⟨v', w', hrun, hown, hg⟩ := run_joinX (Ts := 23) (ty := 23) Tryz.underlying23 hinf hz0 hz1 hz2 rfl (by decide) (by decide) (ownR_nil w w.heap.size) (encs_length l) (slr_news hp) hpn enc_one2 (by simp; omega) (Nat.le_refl _)
 have ho : OwnR w' w.heap.size v' l := by unfold OwnR; simpa using hown
 obtain ⟨q, d, rfl, _⟩ := ownR_form ho
 rw [← hn] at hrun ho
 have HO := lh ho
 have HB := lh ((Below.refl w.heap.size w).grown hg (Nat.le_refl _) (by simp [Value.ownBlock]))
 have HRUN := lh hrun
 clear hrun hown hg hp hpn hn hl ho
 go_enter Tryz.func78, Tryz.ntmps78
 go_wp2_with (at_builtin; refine wpList_append_run (by rfl) _ _ 23 rfl _ _ _ rfl rfl HRUN.out ?_)
 go_ret
 exact ⟨q, d, rfl, HO.out, HB.out⟩
theorem copyZK_any (p : Option Addr) (c n : Nat) (l : List Int) (w : World) (hn : n = l.length) (hp : SlZ w p l) (hpn : p = none → c = 0) (hl : l.length ≤ 1000000000) :
  Calls Tryz.prog 79 #[.slice p n c] w fun e w' => ∃ q d, e = .returned (.slice q n d) ∧ OwnZ w' w.heap.size (.slice q n d) l ∧ Below w.heap.size w w' := by
 obtain ⟨i0, hinf, hz0, hz1, hz2⟩ := info_parts info_intz
 obtain ⟨v', w', hrun, hown, hg⟩ := run_joinX (Ts := 24) (ty := 24) Tryz.underlying24 hinf hz0 hz1 hz2 rfl (by decide) (by decide) (ownZ_nil w w.heap.size) (by simp) (slz_news hp) hpn int_one (by simp; omega) (Nat.le_refl _)
 have ho : OwnZ w' w.heap.size v' l := by unfold OwnZ; simpa using hown
 obtain ⟨q, d, rfl, _⟩ := ownZ_form ho
 rw [← hn] at hrun ho
 have HO := lh ho
 have HB := lh ((Below.refl w.heap.size w).grown hg (Nat.le_refl _) (by simp [Value.ownBlock]))
 have HRUN := lh hrun
 clear hrun hown hg hp hpn hn hl ho
 go_enter Tryz.func79, Tryz.ntmps79
 go_wp2_with (at_builtin; refine wpList_append_run (by rfl) _ _ 24 rfl _ _ _ rfl rfl HRUN.out ?_)
 go_ret
 exact ⟨q, d, rfl, HO.out, HB.out⟩
structure CopyN (w : World) (B : Nat) (x y : NV) : Prop where
 nd : y.nd = x.nd
 set : OwnR w B (.slice y.ps x.nd.set.length y.cs) x.nd.set
 kids : OwnZ w B (.slice y.pk x.nd.kids.length y.ck) x.nd.kids
theorem copyNode_any (x : NV) (w : World) (hI : NodeIn w x) (h3k : x.nd.kids.length ≤ 1000000) (h3s : x.nd.set.length ≤ 1000000) :
  Calls Tryz.prog 39 #[.agg (encN x).toArray] w fun e w' => ∃ y, e = .returned (.agg (encN y).toArray) ∧ CopyN w' w.heap.size x y ∧ Below w.heap.size w w' := by
 obtain ⟨ls, lk, hls, hlk, hlit⟩ := node_lit2 x
 unfold NodeLit at hlit
 rw [hlit]
 have HI := lh hI
 have HLS := lh (And.intro hls (And.intro hlk (And.intro h3k h3s)))
 obtain ⟨kd, hkd⟩ : ∃ z, z = x.nd.kind := ⟨_, rfl⟩
 obtain ⟨gr, hgr⟩ : ∃ z, z = x.nd.group := ⟨_, rfl⟩
 obtain ⟨mn, hmn⟩ : ∃ z, z = x.nd.mn := ⟨_, rfl⟩
 obtain ⟨mx, hmx⟩ : ∃ z, z = x.nd.mx := ⟨_, rfl⟩
 obtain ⟨md, hmd⟩ : ∃ z, z = x.nd.mode := ⟨_, rfl⟩
 obtain ⟨sp, hsp⟩ : ∃ z, z = x.nd.spot := ⟨_, rfl⟩
 obtain ⟨ng, hng⟩ : ∃ z, z = x.nd.neg := ⟨_, rfl⟩
 obtain ⟨ps, hps⟩ : ∃ z, z = x.ps := ⟨_, rfl⟩
 obtain ⟨cs, hcs⟩ : ∃ z, z = x.cs := ⟨_, rfl⟩
 obtain ⟨pk, hpk⟩ : ∃ z, z = x.pk := ⟨_, rfl⟩
 obtain ⟨ck, hck⟩ : ∃ z, z = x.ck := ⟨_, rfl⟩
 have HEQ := lh (And.intro hkd (And.intro hgr (And.intro hmn (And.intro hmx (And.intro hmd (And.intro hsp (And.intro hng (And.intro hps (And.intro hcs (And.intro hpk hck))))))))))
 rw [← hkd, ← hgr, ← hmn, ← hmx, ← hmd, ← hsp, ← hng, ← hps, ← hcs, ← hpk, ← hck]
 obtain ⟨W2, hW2⟩ : ∃ W, W = (w.alloc (.cells #[.int .u8 kd, .slice ps ls cs, .slice pk lk ck, .int .i64 gr, .int .i64 mn, .int .i64 mx, .int .u8 md, .int .u8 sp, .bool ng] 28)).alloc (.cells #[.int .u8 0, .slice none 0 0, .slice none 0 0, .int .i64 0, .int .i64 0, .int .i64 0, .int .u8 0, .int .u8 0, .bool false] 28) := ⟨_, rfl⟩
 have hb2 : Below w.heap.size w W2 := by rw [hW2]; exact bl_trans (bl_alloc _ _) (bl_alloc _ _)
 have hX : Bx W2 w.heap.size 28 #[.int .u8 kd, .slice ps ls cs, .slice pk lk ck, .int .i64 gr, .int .i64 mn, .int .i64 mx, .int .u8 md, .int .u8 sp, .bool ng] := by rw [hW2]; exact (Bx.new w _ _).below (bl_alloc _ _)
 have hR : Bx W2 (w.heap.size + 1) 28 #[.int .u8 0, .slice none 0 0, .slice none 0 0, .int .i64 0, .int .i64 0, .int .i64 0, .int .u8 0, .int .u8 0, .bool false] := by
  have h := Bx.new (w.alloc (.cells #[.int .u8 kd, .slice ps ls cs, .slice pk lk ck, .int .i64 gr, .int .i64 mn, .int .i64 mx, .int .u8 md, .int .u8 sp, .bool ng] 28)) 28 #[.int .u8 0, .slice none 0 0, .slice none 0 0, .int .i64 0, .int .i64 0, .int .i64 0, .int .u8 0, .int .u8 0, .bool false]
  rw [World.size_alloc] at h; rw [hW2]; exact h
 have hs2 : W2.heap.size = w.heap.size + 1 + 1 := by rw [hW2]; simp
 obtain ⟨bx, hbx⟩ : ∃ b, b = w.heap.size := ⟨_, rfl⟩
 obtain ⟨br, hbr⟩ : ∃ b, b = bx + 1 := ⟨_, rfl⟩
 rw [← hbx] at hX
 rw [← hbx, ← hbr] at hR
 have HNB : Hid (w.heap.size = bx ∧ bx + 1 = br ∧ W2.heap.size = br + 1) := ⟨hbx.symm, hbr.symm, by rw [hs2, hbr, hbx]⟩
 have HW2 : Hid ((w.alloc (.cells #[.int .u8 kd, .slice ps ls cs, .slice pk lk ck, .int .i64 gr, .int .i64 mn, .int .i64 mx, .int .u8 md, .int .u8 sp, .bool ng] 28)).alloc (.cells #[.int .u8 0, .slice none 0 0, .slice none 0 0, .int .i64 0, .int .i64 0, .int .i64 0, .int .u8 0, .int .u8 0, .bool false] 28) = W2) := hW2.symm
 have hLR := copyRK_any ps cs ls x.nd.set W2 hls (by rw [hps]; exact (hI.below hb2).set) (by rw [hps, hcs]; exact hI.sn) (by omega)
 have HLR := lh hLR
 have HB2 := lh hb2
 have HX := lh hX
 have HR := lh hR
 clear hlit hI hls hlk hkd hgr hmn hmx hmd hsp hng hps hcs hpk hck h3k h3s hW2 hs2 hb2 hR hbx hbr hLR
 go_enter Tryz.func39, Tryz.ntmps39
 go_upto_region 1 with fail
 rw [HW2.out, HNB.out.1, HNB.out.2.1]
 obtain ⟨_, a1, _, _, _, _, _, _, _⟩ := nine hX
 go_wp2_with fail
 refine (HLR.out).mono ?_
 rintro e w3 ⟨g1, c1, rfl, ho, hb3⟩
 have hX3 := HX.out.below hb3
 have hR3 := HR.out.below hb3
 have x1 := hX3.cell (i := 1) rfl
 have f1 := hX3.free 1
 have hX4 := hX3.set 1 (.slice g1 ls c1)
 have hR4 := hR3.other (a := ⟨bx, 1, none⟩) (show br ≠ bx by have := HNB.out.2.1; omega) (.slice g1 ls c1)
 obtain ⟨w4, hw4⟩ : ∃ W, W = w3.setCell ⟨bx, 1, none⟩ (.slice g1 ls c1) := ⟨_, rfl⟩
 have hX4 : Bx w4 bx 28 #[.int .u8 kd, .slice g1 ls c1, .slice pk lk ck, .int .i64 gr, .int .i64 mn, .int .i64 mx, .int .u8 md, .int .u8 sp, .bool ng] := by rw [hw4]; exact hX4
 have hR4 : Bx w4 br 28 #[.int .u8 0, .slice none 0 0, .slice none 0 0, .int .i64 0, .int .i64 0, .int .i64 0, .int .u8 0, .int .u8 0, .bool false] := by rw [hw4]; exact hR4
 have ho4 : OwnR w4 W2.heap.size (.slice g1 ls c1) x.nd.set := by rw [hw4]; exact ownsRow_setCell_other (a := ⟨bx, 1, none⟩) ho (ownR_ne ho hX3 (by decide)) _
 have hb4 : Below w.heap.size w w4 := by rw [hw4]; exact (HB2.out.trans (hb3.mono HB2.out.size)).setCell (p := ⟨bx, 1, none⟩) (Nat.le_of_eq HNB.out.1) _
 have hle4 : W2.heap.size ≤ w4.heap.size := by rw [hw4, World.size_setCell]; exact hb3.size
 have HLI := lh (copyZK_any pk ck lk x.nd.kids w4 HLS.out.2.1 (by rw [HEQ.out.2.2.2.2.2.2.2.2.2.1]; exact (HI.out.below hb4).kids) (by rw [HEQ.out.2.2.2.2.2.2.2.2.2.1, HEQ.out.2.2.2.2.2.2.2.2.2.2]; exact HI.out.kn) (by have := HLS.out.2.2.1; omega))
 have HW4 : Hid (w3.setCell ⟨bx, 1, none⟩ (.slice g1 ls c1) = w4) := hw4.symm
 have y2 := hX4.cell (i := 2) rfl
 rw [hw4] at y2
 have HX4 := lh hX4
 have HR4 := lh hR4
 have HO4 := lh ho4
 have HB4 := lh hb4
 have HL4 := lh hle4
 clear hX a1 hb3 hX3 hR3 hX4 hR4 hw4 ho ho4 hb4 hle4
 go_wp2_with fail
 rw [HW4.out]
 refine (HLI.out).mono ?_
 rintro e w5 ⟨g2, c2, rfl, ho, hb5⟩
 have hX5 := HX4.out.below hb5
 have hR5 := HR4.out.below hb5
 have hO5 := ownR_below HO4.out hb5
 clear x1 f1 y2
 have x2 := hX5.cell (i := 2) rfl
 have f2 := hX5.free 2
 have hX6 := hX5.set 2 (.slice g2 lk c2)
 have hR6 := hR5.other (a := ⟨bx, 2, none⟩) (show br ≠ bx by have := HNB.out.2.1; omega) (.slice g2 lk c2)
 obtain ⟨w6, hw6⟩ : ∃ W, W = w5.setCell ⟨bx, 2, none⟩ (.slice g2 lk c2) := ⟨_, rfl⟩
 have hX6 : Bx w6 bx 28 #[.int .u8 kd, .slice g1 ls c1, .slice g2 lk c2, .int .i64 gr, .int .i64 mn, .int .i64 mx, .int .u8 md, .int .u8 sp, .bool ng] := by rw [hw6]; exact hX6
 have hR6 : Bx w6 br 28 #[.int .u8 0, .slice none 0 0, .slice none 0 0, .int .i64 0, .int .i64 0, .int .i64 0, .int .u8 0, .int .u8 0, .bool false] := by rw [hw6]; exact hR6
 have hO6 : OwnR w6 W2.heap.size (.slice g1 ls c1) x.nd.set := by rw [hw6]; exact ownsRow_setCell_other (a := ⟨bx, 2, none⟩) hO5 (ownR_ne hO5 hX5 (by decide)) _
 have hP6 : OwnZ w6 w4.heap.size (.slice g2 lk c2) x.nd.kids := by rw [hw6]; exact ownsRow_setCell_other (a := ⟨bx, 2, none⟩) ho (row_ne ho hX5 (by decide)) _
 have hb6 : Below w.heap.size w w6 := by rw [hw6]; exact (HB4.out.trans (hb5.mono HB4.out.size)).setCell (p := ⟨bx, 2, none⟩) (Nat.le_of_eq HNB.out.1) _
 obtain ⟨m0, m1, m2, m3, m4, m5, m6, m7, m8⟩ := nine hX6
 obtain ⟨n0, n1, n2, n3, n4, n5, n6, n7, n8⟩ := nine hR6
 have fz0 := hR6.free 0
 have fz1 := hR6.free 1
 have fz2 := hR6.free 2
 have fz3 := hR6.free 3
 have fz4 := hR6.free 4
 have fz5 := hR6.free 5
 have fz6 := hR6.free 6
 have fz7 := hR6.free 7
 have fz8 := hR6.free 8
 rw [hw6] at m0 m1 m2 m3 m4 m5 m6 m7 m8 n0 n1 n2 n3 n4 n5 n6 n7 n8 fz0 fz1 fz2 fz3 fz4 fz5 fz6 fz7 fz8
 have hY := bx_putN9 hR6 (.int .u8 kd) (.slice g1 ls c1) (.slice g2 lk c2) (.int .i64 gr) (.int .i64 mn) (.int .i64 mx) (.int .u8 md) (.int .u8 sp) (.bool ng)
 have hO7 := own_putN9 hO6 (ownR_ne hO6 hR6 (by decide)) (.int .u8 kd) (.slice g1 ls c1) (.slice g2 lk c2) (.int .i64 gr) (.int .i64 mn) (.int .i64 mx) (.int .u8 md) (.int .u8 sp) (.bool ng)
 have hP7 := own_putN9 hP6 (row_ne hP6 hR6 (by decide)) (.int .u8 kd) (.slice g1 ls c1) (.slice g2 lk c2) (.int .i64 gr) (.int .i64 mn) (.int .i64 mx) (.int .u8 md) (.int .u8 sp) (.bool ng)
 have hb7 := below_putN9 hb6 (show w.heap.size ≤ br by have := HNB.out; omega) (.int .u8 kd) (.slice g1 ls c1) (.slice g2 lk c2) (.int .i64 gr) (.int .i64 mn) (.int .i64 mx) (.int .u8 md) (.int .u8 sp) (.bool ng)
 obtain ⟨r0, r1, r2, r3, r4, r5, r6, r7, r8⟩ := nine hY
 unfold putN9 at r0 r1 r2 r3 r4 r5 r6 r7 r8
 rw [hw6] at r0 r1 r2 r3 r4 r5 r6 r7 r8
 have HFIN : Hid (CopyN (putN9 (w5.setCell ⟨bx, 2, none⟩ (.slice g2 lk c2)) br (.int .u8 kd) (.slice g1 ls c1) (.slice g2 lk c2) (.int .i64 gr) (.int .i64 mn) (.int .i64 mx) (.int .u8 md) (.int .u8 sp) (.bool ng)) w.heap.size x ⟨x.nd, g1, c1, g2, c2⟩ ∧ Below w.heap.size w (putN9 (w5.setCell ⟨bx, 2, none⟩ (.slice g2 lk c2)) br (.int .u8 kd) (.slice g1 ls c1) (.slice g2 lk c2) (.int .i64 gr) (.int .i64 mn) (.int .i64 mx) (.int .u8 md) (.int .u8 sp) (.bool ng))) := by
  rw [← hw6]
  refine ⟨⟨rfl, ?_, ?_⟩, hb7⟩
  ·rw [← HLS.out.1]; exact ownR_down hO7 HB2.out.size
  ·rw [← HLS.out.2.1]; exact ownZ_down hP7 (Nat.le_trans HB2.out.size HL4.out)
 have HENC : Hid (Value.agg (encN ⟨x.nd, g1, c1, g2, c2⟩).toArray = .agg #[.int .u8 kd, .slice g1 ls c1, .slice g2 lk c2, .int .i64 gr, .int .i64 mn, .int .i64 mx, .int .u8 md, .int .u8 sp, .bool ng]) := by
  show _ = _
  unfold encN
  rw [HEQ.out.1, HEQ.out.2.1, HEQ.out.2.2.1, HEQ.out.2.2.2.1, HEQ.out.2.2.2.2.1, HEQ.out.2.2.2.2.2.1, HEQ.out.2.2.2.2.2.2.1, HLS.out.1, HLS.out.2.1]
 clear hX6 hR6 hY hO7 hP7 hb7 hO6 hP6 hb6 hw6 hO5 hX5 hR5 hb5 ho
 go_wp2
 refine bodyPost_ret (v := .agg #[.int .u8 kd, .slice g1 ls c1, .slice g2 lk c2, .int .i64 gr, .int .i64 mn, .int .i64 mx, .int .u8 md, .int .u8 sp, .bool ng]) (by simp [results, Tryz.results39, go_sem, r0, r1, r2, r3, r4, r5, r6, r7, r8]) rfl ⟨_, by rw [HENC.out], HFIN.out.1, HFIN.out.2⟩
end Go.Proofs.YtkefndfgkmdphaaGreat

